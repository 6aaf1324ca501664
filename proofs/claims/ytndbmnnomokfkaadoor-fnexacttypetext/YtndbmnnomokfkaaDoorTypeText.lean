/- TypeText of the program and of the model. -/
import Derived.Test.YtndbmnnomokfkaaDoorTypeOkI
import Derived.Test.YtndbmnnomokfkaaDoorPutNameS
import Derived.Test.YtndbmnnomokfkaaDoorPutNameI
import Derived.Test.YtndbmnnomokfkaaDoorDecText
import Derived.Test.YtndbmnnomokfkaaDoorDecImpl
import Derived.Lib.ItoaLen
namespace Go.Proofs.YtndbmnnomokfkaaDoor
open Go.RowKit

def typeTextT (k l : Int) (s : ByteArray) : ByteArray :=
  if typeOkB k l s = false then ⟨#[]⟩ else if k = 0 then ⟨#[105, 110, 116]⟩ else if k = 1 then ⟨#[116, 101, 120, 116]⟩ else if k = 2 then ⟨#[98, 111, 111, 108]⟩
  else if k = 3 then ⟨#[99, 104, 97, 114, 40]⟩ ++ dec l ++ ⟨#[41]⟩ else ⟨#[101, 110, 117, 109, 32]⟩ ++ nameT s

def formText (f : ByteArray) (mx : Int) (nm : Bool) (l : Int) (s : ByteArray) : ByteArray :=
  if 0 < mx then f ++ ⟨#[40]⟩ ++ dec l ++ ⟨#[41]⟩ else if nm then f ++ ⟨#[32]⟩ ++ nameT s else f

theorem dec_size (n : Int) (h0 : -9223372036854775808 ≤ n) (h1 : n ≤ 9223372036854775807) : (dec n).size ≤ 21 := Lib.itoa_length_le n h0 h1

theorem quoteL_len3 (q : UInt8) (t : List UInt8) : (quoteL q t).length ≤ 2 * t.length + 2 := by
  have := dbl_len q t
  unfold dbl at this
  unfold quoteL
  simp only [List.length_append, List.length_cons, List.length_nil]
  omega

theorem nameT_size (s : ByteArray) : (nameT s).size ≤ 2 * s.size + 2 := by
  unfold nameT
  split
  · omega
  · have h1 := quoteL_len3 34 s.data.toList
    have h2 : (quoteT s 34).size = (quoteL 34 s.data.toList).length := by unfold quoteT; exact List.size_toArray
    have h3 : s.data.toList.length = s.size := by simp
    omega

theorem typeText_eq (k l : Int) (s : ByteArray) (h : 0 ≤ k ∧ k ≤ 4) : ∃ f mn mx nm, formOf k = .agg #[.string f, .int .i64 mn, .int .i64 mx, .bool nm] ∧ fitsB mn mx nm l s = typeOkB k l s ∧ f.size ≤ 10 ∧ (0 < mx → typeOkB k l s = true → 1 ≤ l ∧ l ≤ 100) ∧ (typeOkB k l s = true → formText f mx nm l s = typeTextT k l s) := by
  obtain ⟨f, mn, mx, nm, e1, e2⟩ := typeOk_eq k l s h
  refine ⟨f, mn, mx, nm, e1, e2, ?_⟩
  have hc : k = 0 ∨ k = 1 ∨ k = 2 ∨ k = 3 ∨ k = 4 := by omega
  have hin : ∀ a b c d a' b' c' d', (Value.agg #[.string a, .int .i64 b, .int .i64 c, .bool d]) = .agg #[.string a', .int .i64 b', .int .i64 c', .bool d'] → a = a' ∧ b = b' ∧ c = c' ∧ d = d' := fun a b c d a' b' c' d' e => by
    simp only [Value.agg.injEq, Array.mk.injEq, List.cons.injEq, Value.string.injEq, Value.int.injEq, Value.bool.injEq, and_true, true_and] at e
    exact e
  rcases hc with rfl | rfl | rfl | rfl | rfl
  · obtain ⟨rfl, rfl, rfl, rfl⟩ := hin _ _ _ _ _ _ _ _ e1
    exact ⟨by decide, fun h => absurd h (by decide), fun h => by unfold typeTextT; rw [h]; rfl⟩
  · obtain ⟨rfl, rfl, rfl, rfl⟩ := hin _ _ _ _ _ _ _ _ e1
    exact ⟨by decide, fun h => absurd h (by decide), fun h => by unfold typeTextT; rw [h]; rfl⟩
  · obtain ⟨rfl, rfl, rfl, rfl⟩ := hin _ _ _ _ _ _ _ _ e1
    exact ⟨by decide, fun h => absurd h (by decide), fun h => by unfold typeTextT; rw [h]; rfl⟩
  · obtain ⟨rfl, rfl, rfl, rfl⟩ := hin _ _ _ _ _ _ _ _ e1
    refine ⟨by decide, fun _ h => ?_, fun h => by unfold typeTextT; rw [h]; rfl⟩
    have : (inI l 1 100 && s.toList.isEmpty) = true := h
    rw [Bool.and_eq_true] at this
    have := this.1
    unfold inI at this
    rw [Bool.and_eq_true, decide_eq_true_eq, decide_eq_true_eq] at this
    exact this
  · obtain ⟨rfl, rfl, rfl, rfl⟩ := hin _ _ _ _ _ _ _ _ e1
    exact ⟨by decide, fun h => absurd h (by decide), fun h => by unfold typeTextT; rw [h]; rfl⟩

set_option maxHeartbeats 2000000 in
theorem specTypeText (k l : Int) (s : ByteArray) (w : World) (hs : s.size ≤ 1048576) (r : ByteArray) (hr : typeTextT k l s = r) :
    Calls Tryd.prog 5 #[.agg #[.int .i64 k, .int .i64 l, .string s]] w fun e w' => e = .returned (.string r) ∧ Below w.heap.size w w' := by
  have hlay := Lib.hid (lay1_new w 26 k l s)
  cases hok : typeOkB k l s with
  | false =>
    have HR : Hid (r = ⟨#[]⟩) := by unfold Hid; rw [← hr, typeTextT, if_pos hok]
    have HO := Lib.hid hok
    clear hr hok
    go_enter Tryd.func5, Tryd.ntmps5
    go_wp2_with fail
    refine (specTypeOk k l s _ hs false HO.out).mono ?_
    rintro e w1 ⟨rfl, b1⟩
    go_wp2_with fail
    go_ret
    exact ⟨by rw [HR.out]; rfl, (hlay.out.below b1).2.2⟩
  | true =>
    have HO := Lib.hid hok
    have hc : k = 0 ∨ k = 1 ∨ k = 2 ∨ k = 3 ∨ k = 4 := by
      rcases Classical.em (k = 0 ∨ k = 1 ∨ k = 2 ∨ k = 3 ∨ k = 4) with h | h
      · exact h
      · rw [typeOkB, if_neg (by omega), if_neg (by omega), if_neg (by omega)] at hok
        cases hok
    rcases hc with rfl | rfl | rfl | rfl | rfl
    · have HR : Hid (r = ⟨#[105, 110, 116]⟩) := by unfold Hid; rw [← hr, typeTextT, hok]; rfl
      clear hr hok
      go_enter Tryd.func5, Tryd.ntmps5
      go_wp2_with fail
      refine (specTypeOk _ l s _ hs true HO.out).mono ?_
      rintro e w1 ⟨rfl, b1⟩
      have L1 := Lib.hid (hlay.out.below b1)
      obtain ⟨⟨c0, c1, c2⟩, _, _⟩ := L1.out
      clear b1
      go_wp2_with fail
      go_ret
      exact ⟨by rw [HR.out]; rfl, L1.out.2.2⟩
    · have HR : Hid (r = ⟨#[116, 101, 120, 116]⟩) := by unfold Hid; rw [← hr, typeTextT, hok]; rfl
      clear hr hok
      go_enter Tryd.func5, Tryd.ntmps5
      go_wp2_with fail
      refine (specTypeOk _ l s _ hs true HO.out).mono ?_
      rintro e w1 ⟨rfl, b1⟩
      have L1 := Lib.hid (hlay.out.below b1)
      obtain ⟨⟨c0, c1, c2⟩, _, _⟩ := L1.out
      clear b1
      go_wp2_with fail
      go_ret
      exact ⟨by rw [HR.out]; rfl, L1.out.2.2⟩
    · have HR : Hid (r = ⟨#[98, 111, 111, 108]⟩) := by unfold Hid; rw [← hr, typeTextT, hok]; rfl
      clear hr hok
      go_enter Tryd.func5, Tryd.ntmps5
      go_wp2_with fail
      refine (specTypeOk _ l s _ hs true HO.out).mono ?_
      rintro e w1 ⟨rfl, b1⟩
      have L1 := Lib.hid (hlay.out.below b1)
      obtain ⟨⟨c0, c1, c2⟩, _, _⟩ := L1.out
      clear b1
      go_wp2_with fail
      go_ret
      exact ⟨by rw [HR.out]; rfl, L1.out.2.2⟩
    · have HR : Hid (r = ⟨#[99, 104, 97, 114, 40]⟩ ++ dec l ++ ⟨#[41]⟩) := by unfold Hid; rw [← hr, typeTextT, hok]; rfl
      have hl : 1 ≤ l ∧ l ≤ 100 := by
        have : (inI l 1 100 && s.toList.isEmpty) = true := hok
        rw [Bool.and_eq_true] at this
        have := this.1
        unfold inI at this
        rw [Bool.and_eq_true, decide_eq_true_eq, decide_eq_true_eq] at this
        exact this
      have hz := dec_size l (by omega) (by omega)
      have hdt := fun w => specDecText l w (by omega) (by omega)
      generalize dec l = D at HR hz hdt
      clear hr hok hl
      go_enter Tryd.func5, Tryd.ntmps5
      go_wp2_with fail
      refine (specTypeOk _ l s _ hs true HO.out).mono ?_
      rintro e w1 ⟨rfl, b1⟩
      have L1 := Lib.hid (hlay.out.below b1)
      obtain ⟨⟨c0, c1, c2⟩, _, _⟩ := L1.out
      clear b1
      go_wp2_with fail
      refine (hdt _).mono ?_
      rintro e w2 ⟨rfl, rfl⟩
      go_wp2_with fail
      go_ret
      exact ⟨by rw [HR.out]; rfl, L1.out.2.2⟩
    · have HR : Hid (r = ⟨#[101, 110, 117, 109, 32]⟩ ++ nameT s) := by unfold Hid; rw [← hr, typeTextT, hok]; rfl
      have hz := nameT_size s
      have hdt := fun w => specPutName s w hs _ rfl
      generalize nameT s = D at HR hz hdt
      clear hr hok
      go_enter Tryd.func5, Tryd.ntmps5
      go_wp2_with fail
      refine (specTypeOk _ l s _ hs true HO.out).mono ?_
      rintro e w1 ⟨rfl, b1⟩
      have L1 := Lib.hid (hlay.out.below b1)
      obtain ⟨⟨c0, c1, c2⟩, _, _⟩ := L1.out
      clear b1
      go_wp2_with fail
      refine (hdt _).mono ?_
      rintro e w2 ⟨rfl, b2⟩
      go_wp2_with fail
      go_ret
      exact ⟨by rw [HR.out]; rfl, (L1.out.below b2).2.2⟩

end Go.Proofs.YtndbmnnomokfkaaDoor
