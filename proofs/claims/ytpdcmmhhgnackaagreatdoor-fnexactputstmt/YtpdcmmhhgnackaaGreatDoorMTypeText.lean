/- TypeText of the program and of the model. -/
/- Expressions: what is written is read back: the theorem. -/
/- Expressions: what is written is read back, every expression. -/
/- Words come back from how they are spelt: plain mathematics. -/
/- Expressions: their text is read as their words. -/
/- Expressions: their text. -/
import Derived.Test.YtpdcmmhhgnackaaGreatDoorMOkW
import Derived.Test.YtpdcmmhhgnackaaGreatDoorMStAg
import Derived.Test.YtpdcmmhhgnackaaGreatDoorMPl
import Derived.Lib.ItoaLen
import Derived.Test.YtpdcmmhhgnackaaGreatDoorMNameImpl
namespace Go.Proofs.YtpdcmmhhgnackaaGreatDoor
open Go.RowKit

def typeTextT (k l : Int) (s : ByteArray) : ByteArray :=
  if typeOkB k l s = false then ⟨#[]⟩ else if k = 0 then ⟨#[105, 110, 116]⟩ else if k = 1 then ⟨#[116, 101, 120, 116]⟩ else if k = 2 then ⟨#[98, 111, 111, 108]⟩
  else if k = 3 then ⟨#[99, 104, 97, 114, 40]⟩ ++ dec l ++ ⟨#[41]⟩ else ⟨#[101, 110, 117, 109, 32]⟩ ++ nameT s

def formText (f : ByteArray) (mx : Int) (nm : Bool) (l : Int) (s : ByteArray) : ByteArray :=
  if 0 < mx then f ++ ⟨#[40]⟩ ++ dec l ++ ⟨#[41]⟩ else if nm then f ++ ⟨#[32]⟩ ++ nameT s else f

theorem dec_size (n : Int) (h0 : -9223372036854775808 ≤ n) (h1 : n ≤ 9223372036854775807) : (dec n).size ≤ 21 := Lib.itoa_length_le n h0 h1

theorem quoteL_len3 (q : UInt8) (t : List UInt8) : (quoteL q t).length ≤ 2 * t.length + 2 := by
  have := dbl_len q t
  unfold dbl at this
  unfold quoteL
  simp only [List.length_append, List.length_cons, List.length_nil]
  omega

theorem nameT_size (s : ByteArray) : (nameT s).size ≤ 2 * s.size + 2 := by
  unfold nameT
  split
  · omega
  · have h1 := quoteL_len3 34 s.data.toList
    have h2 : (quoteT s 34).size = (quoteL 34 s.data.toList).length := by unfold quoteT; exact List.size_toArray
    have h3 : s.data.toList.length = s.size := by simp
    omega

theorem typeText_eq (k l : Int) (s : ByteArray) (h : 0 ≤ k ∧ k ≤ 4) : ∃ f mn mx nm, formOf k = .agg #[.string f, .int .i64 mn, .int .i64 mx, .bool nm] ∧ fitsB mn mx nm l s = typeOkB k l s ∧ f.size ≤ 10 ∧ (0 < mx → typeOkB k l s = true → 1 ≤ l ∧ l ≤ 100) ∧ (typeOkB k l s = true → formText f mx nm l s = typeTextT k l s) := by
  obtain ⟨f, mn, mx, nm, e1, e2⟩ := typeOk_eq k l s h
  refine ⟨f, mn, mx, nm, e1, e2, ?_⟩
  have hc : k = 0 ∨ k = 1 ∨ k = 2 ∨ k = 3 ∨ k = 4 := by omega
  have hin : ∀ a b c d a' b' c' d', (Value.agg #[.string a, .int .i64 b, .int .i64 c, .bool d]) = .agg #[.string a', .int .i64 b', .int .i64 c', .bool d'] → a = a' ∧ b = b' ∧ c = c' ∧ d = d' := fun a b c d a' b' c' d' e => by
    simp only [Value.agg.injEq, Array.mk.injEq, List.cons.injEq, Value.string.injEq, Value.int.injEq, Value.bool.injEq, and_true, true_and] at e
    exact e
  rcases hc with rfl | rfl | rfl | rfl | rfl
  · obtain ⟨rfl, rfl, rfl, rfl⟩ := hin _ _ _ _ _ _ _ _ e1
    exact ⟨by decide, fun h => absurd h (by decide), fun h => by unfold typeTextT; rw [h]; rfl⟩
  · obtain ⟨rfl, rfl, rfl, rfl⟩ := hin _ _ _ _ _ _ _ _ e1
    exact ⟨by decide, fun h => absurd h (by decide), fun h => by unfold typeTextT; rw [h]; rfl⟩
  · obtain ⟨rfl, rfl, rfl, rfl⟩ := hin _ _ _ _ _ _ _ _ e1
    exact ⟨by decide, fun h => absurd h (by decide), fun h => by unfold typeTextT; rw [h]; rfl⟩
  · obtain ⟨rfl, rfl, rfl, rfl⟩ := hin _ _ _ _ _ _ _ _ e1
    refine ⟨by decide, fun _ h => ?_, fun h => by unfold typeTextT; rw [h]; rfl⟩
    have : (inI l 1 100 && s.toList.isEmpty) = true := h
    rw [Bool.and_eq_true] at this
    have := this.1
    unfold inI at this
    rw [Bool.and_eq_true, decide_eq_true_eq, decide_eq_true_eq] at this
    exact this
  · obtain ⟨rfl, rfl, rfl, rfl⟩ := hin _ _ _ _ _ _ _ _ e1
    exact ⟨by decide, fun h => absurd h (by decide), fun h => by unfold typeTextT; rw [h]; rfl⟩

set_option maxHeartbeats 2000000 in
theorem specTypeText (k l : Int) (s : ByteArray) (w : World) (hs : s.size ≤ 1048576) (r : ByteArray) (hr : typeTextT k l s = r) :
    Calls Tryz.prog 25 #[.agg #[.int .i64 k, .int .i64 l, .string s]] w fun e w' => e = .returned (.string r) ∧ Below w.heap.size w w' := by
  have hlay := Lib.hid (lay1_new w 29 k l s)
  cases hok : typeOkB k l s with
  | false =>
    have HR : Hid (r = ⟨#[]⟩) := by unfold Hid; rw [← hr, typeTextT, if_pos hok]
    have HO := Lib.hid hok
    clear hr hok
    go_enter Tryz.func25, Tryz.ntmps25
    go_wp2_with fail
    refine (specTypeOk k l s _ hs false HO.out).mono ?_
    rintro e w1 ⟨rfl, b1⟩
    go_wp2_with fail
    go_ret
    exact ⟨by rw [HR.out]; rfl, (hlay.out.below b1).2.2⟩
  | true =>
    have HO := Lib.hid hok
    have hc : k = 0 ∨ k = 1 ∨ k = 2 ∨ k = 3 ∨ k = 4 := by
      rcases Classical.em (k = 0 ∨ k = 1 ∨ k = 2 ∨ k = 3 ∨ k = 4) with h | h
      · exact h
      · rw [typeOkB, if_neg (by omega), if_neg (by omega), if_neg (by omega)] at hok
        cases hok
    rcases hc with rfl | rfl | rfl | rfl | rfl
    · have HR : Hid (r = ⟨#[105, 110, 116]⟩) := by unfold Hid; rw [← hr, typeTextT, hok]; rfl
      clear hr hok
      go_enter Tryz.func25, Tryz.ntmps25
      go_wp2_with fail
      refine (specTypeOk _ l s _ hs true HO.out).mono ?_
      rintro e w1 ⟨rfl, b1⟩
      have L1 := Lib.hid (hlay.out.below b1)
      obtain ⟨⟨c0, c1, c2⟩, _, _⟩ := L1.out
      clear b1
      go_wp2_with fail
      go_ret
      exact ⟨by rw [HR.out]; rfl, L1.out.2.2⟩
    · have HR : Hid (r = ⟨#[116, 101, 120, 116]⟩) := by unfold Hid; rw [← hr, typeTextT, hok]; rfl
      clear hr hok
      go_enter Tryz.func25, Tryz.ntmps25
      go_wp2_with fail
      refine (specTypeOk _ l s _ hs true HO.out).mono ?_
      rintro e w1 ⟨rfl, b1⟩
      have L1 := Lib.hid (hlay.out.below b1)
      obtain ⟨⟨c0, c1, c2⟩, _, _⟩ := L1.out
      clear b1
      go_wp2_with fail
      go_ret
      exact ⟨by rw [HR.out]; rfl, L1.out.2.2⟩
    · have HR : Hid (r = ⟨#[98, 111, 111, 108]⟩) := by unfold Hid; rw [← hr, typeTextT, hok]; rfl
      clear hr hok
      go_enter Tryz.func25, Tryz.ntmps25
      go_wp2_with fail
      refine (specTypeOk _ l s _ hs true HO.out).mono ?_
      rintro e w1 ⟨rfl, b1⟩
      have L1 := Lib.hid (hlay.out.below b1)
      obtain ⟨⟨c0, c1, c2⟩, _, _⟩ := L1.out
      clear b1
      go_wp2_with fail
      go_ret
      exact ⟨by rw [HR.out]; rfl, L1.out.2.2⟩
    · have HR : Hid (r = ⟨#[99, 104, 97, 114, 40]⟩ ++ dec l ++ ⟨#[41]⟩) := by unfold Hid; rw [← hr, typeTextT, hok]; rfl
      have hl : 1 ≤ l ∧ l ≤ 100 := by
        have : (inI l 1 100 && s.toList.isEmpty) = true := hok
        rw [Bool.and_eq_true] at this
        have := this.1
        unfold inI at this
        rw [Bool.and_eq_true, decide_eq_true_eq, decide_eq_true_eq] at this
        exact this
      have hz := dec_size l (by omega) (by omega)
      have hdt := fun w => specDecText l w (by omega) (by omega)
      generalize dec l = D at HR hz hdt
      clear hr hok hl
      go_enter Tryz.func25, Tryz.ntmps25
      go_wp2_with fail
      refine (specTypeOk _ l s _ hs true HO.out).mono ?_
      rintro e w1 ⟨rfl, b1⟩
      have L1 := Lib.hid (hlay.out.below b1)
      obtain ⟨⟨c0, c1, c2⟩, _, _⟩ := L1.out
      clear b1
      go_wp2_with fail
      refine (hdt _).mono ?_
      rintro e w2 ⟨rfl, rfl⟩
      go_wp2_with fail
      go_ret
      exact ⟨by rw [HR.out]; rfl, L1.out.2.2⟩
    · have HR : Hid (r = ⟨#[101, 110, 117, 109, 32]⟩ ++ nameT s) := by unfold Hid; rw [← hr, typeTextT, hok]; rfl
      have hz := nameT_size s
      have hdt := fun w => specPutName s w hs _ rfl
      generalize nameT s = D at HR hz hdt
      clear hr hok
      go_enter Tryz.func25, Tryz.ntmps25
      go_wp2_with fail
      refine (specTypeOk _ l s _ hs true HO.out).mono ?_
      rintro e w1 ⟨rfl, b1⟩
      have L1 := Lib.hid (hlay.out.below b1)
      obtain ⟨⟨c0, c1, c2⟩, _, _⟩ := L1.out
      clear b1
      go_wp2_with fail
      refine (hdt _).mono ?_
      rintro e w2 ⟨rfl, b2⟩
      go_wp2_with fail
      go_ret
      exact ⟨by rw [HR.out]; rfl, (L1.out.below b2).2.2⟩

end Go.Proofs.YtpdcmmhhgnackaaGreatDoor

namespace Go.Proofs.YtpdcmmhhgnackaaGreatDoor

theorem binds_range (k : Int) : 1 ≤ bindsK k ∧ bindsK k ≤ 7 := by unfold bindsK; (repeat' split) <;> omega

/-- A sign of two kids, and no other. -/
theorem sign_next : ∀ k ∈ ([8, 9, 10, 11, 12, 13, 14, 15, 16, 17, 18] : List Int), ∀ b, b < 7 → nextK (signW k) b = if b = bindsK k then some k else none := by decide
theorem sign_is : ∀ k ∈ ([8, 9, 10, 11, 12, 13, 14, 15, 16, 17, 18] : List Int), isW (signW k) wIs = false := by decide
theorem shut_next : ∀ b, b < 7 → nextK (4, [41]) b = none := by decide
theorem is_next : ∀ b, b < 7 → nextK (0, wIs) b = none := by decide

theorem two_mem {k : Int} (h : kidsK k = 2) : k ∈ ([8, 9, 10, 11, 12, 13, 14, 15, 16, 17, 18] : List Int) := by
  unfold kidsK at h
  have : 8 ≤ k ∧ k ≤ 18 := by
    split at h
    · omega
    · split at h
      · omega
      · split at h <;> omega
  have hc : k = 8 ∨ k = 9 ∨ k = 10 ∨ k = 11 ∨ k = 12 ∨ k = 13 ∨ k = 14 ∨ k = 15 ∨ k = 16 ∨ k = 17 ∨ k = 18 := by omega
  rcases hc with rfl | rfl | rfl | rfl | rfl | rfl | rfl | rfl | rfl | rfl | rfl <;> decide

theorem stop_sign {k : Int} (hk : k ∈ ([8, 9, 10, 11, 12, 13, 14, 15, 16, 17, 18] : List Int)) (r : List W) : Stop (bindsK k + 1) (signW k :: r) := by
  intro x q e
  cases e
  refine ⟨fun b hb hb' => ?_, fun _ => sign_is k hk⟩
  rw [sign_next k hk b (by omega), if_neg (by omega)]

theorem stop_shut (L : Nat) (r : List W) : Stop L ((4, [41]) :: r) := by
  intro x q e
  cases e
  exact ⟨fun b _ hb' => shut_next b (by omega), fun _ => by decide⟩

theorem stop_is (r : List W) : Stop 5 ((0, wIs) :: r) := by
  intro x q e
  cases e
  exact ⟨fun b _ hb' => is_next b (by omega), fun h => by omega⟩

/-- The words of e do not begin with a not, unless e is one. -/
theorem head_not : ∀ (n : Nat) (e : Ex), e.nodes ≤ n → shapeE e = true → 4 ≤ bindsK e.kind → ∀ rest, hdW (wordsE e 1 ++ rest) wNot = false := by
  intro n
  induction n with
  | zero => intro e h; rw [Ex.nodes_eq] at h; omega
  | succ n ih =>
    intro e hn hs hb rest
    obtain ⟨k, t, m, kids⟩ := e
    rw [Ex.nodes_eq] at hn
    have hb' : 4 ≤ bindsK k := hb
    have h1 : ¬ bindsK k < 1 := by omega
    rw [shapeE, Bool.and_eq_true] at hs
    have inner : ∀ (a : Ex) (L : Nat) (q : List W), 4 ≤ L → a.nodes ≤ n → shapeE a = true → hdW (wordsE a L ++ q) wNot = false := fun a L q hL ha hsa => by
      by_cases hp : bindsK a.kind < L
      · rw [words_in hp]; rfl
      · rw [words_out hp (show ¬ bindsK a.kind < 1 by omega)]
        exact ih a ha hsa (by omega) q
    match kids, hs, hn with
    | [], hs, _ =>
      rw [wordsE, if_neg h1]
      have hn1 := hs.1
      show isW (leafW k t m) wNot = false
      unfold leafW
      split
      · rename_i hk0
        split
        · rename_i hpl
          rw [Bool.and_eq_true, Bool.not_eq_true'] at hpl
          unfold isW
          cases hq : (t.data.toList == wNot) with
          | false => simp [hq]
          | true =>
            have : t.data.toList = wNot := by simpa using hq
            rw [this] at hpl
            exact absurd hpl.2 (by decide)
        · rfl
      · split
        · rfl
        · split
          · rfl
          · split
            · rfl
            · split <;> rfl
    | [a], hs, hn =>
      have hsa : shapeE a = true := by have := hs.2; rw [shapeL, Bool.and_eq_true] at this; exact this.1
      have hna : a.nodes ≤ n := by change 1 + nodesL [a] ≤ n + 1 at hn; rw [nodesL, nodesL] at hn; omega
      rw [wordsE]
      by_cases hk : k = 6
      · subst hk; exact absurd hb' (by decide)
      · rw [if_neg hk, if_neg h1, List.append_assoc]
        exact inner a 5 _ (by omega) hna hsa
    | a :: b :: r, hs, hn =>
      have hsa : shapeE a = true := by have := hs.2; rw [shapeL, Bool.and_eq_true] at this; exact this.1
      have hna : a.nodes ≤ n := by change 1 + nodesL (a :: b :: r) ≤ n + 1 at hn; rw [nodesL] at hn; omega
      rw [wordsE, if_neg h1, List.append_assoc]
      exact inner a _ _ (by unfold firstK; split <;> omega) hna hsa

/-- From the strength of e itself to every one. -/
theorem all_levels {e : Ex} (hs : shapeE e = true) (own : RTat e (bindsK e.kind)) : ∀ L, 1 ≤ L → L ≤ 7 → RTat e L := by
  have hr := binds_range e.kind
  have notIn : ∀ L, bindsK e.kind < L → ∀ rest, hdW (wordsE e L ++ rest) wNot = false := fun L h rest => by rw [words_in h]; rfl
  have down : ∀ d L, L + d = bindsK e.kind → 1 ≤ L → RTat e L := by
    intro d
    induction d with
    | zero => intro L h _; have : L = bindsK e.kind := by omega
              rw [this]; exact own
    | succ d ih =>
      intro L h hL
      refine rt_of_a (by omega) (step_down (by omega) (words_out (by omega) (by omega)) ?_ (ih (L + 1) (by omega) (by omega)))
      intro h3 rest
      rw [words_out (L := L) (L' := 1) (by omega) (by omega)]
      exact head_not _ e (Nat.le_refl _) hs (by omega) rest
  have one : RTat e 1 := down (bindsK e.kind - 1) 1 (by omega) (Nat.le_refl _)
  have top : bindsK e.kind < 7 → RTat e 7 := by
    intro h rest f hf _
    rw [words_in h] at hf ⊢
    unfold enough at hf
    simp only [List.cons_append, List.append_assoc, List.length_cons, List.length_append, List.length_nil] at hf ⊢
    obtain ⟨f, rfl⟩ : ∃ g, f = g + 2 := ⟨f - 2, by omega⟩
    rw [anyP, if_pos rfl, atomP, if_neg (by decide), if_neg (by decide), if_neg (by decide), if_neg (by decide), if_neg (by decide), if_neg (by decide), if_pos (by decide)]
    have h2 := one ((4, [41]) :: ([] ++ rest)) f (by unfold enough; simp only [List.length_append, List.length_cons, List.nil_append]; omega) (stop_shut 1 _)
    simp only [List.nil_append] at h2 ⊢
    rw [h2]
    rfl
  have up : ∀ d L, L + d = 7 → bindsK e.kind < L → RTat e L := by
    intro d
    induction d with
    | zero => intro L h hb; have : L = 7 := by omega
              subst this; exact top hb
    | succ d ih =>
      intro L h hb
      exact rt_of_a (by omega) (step_down (by omega) (by rw [words_in hb, words_in (show bindsK e.kind < L + 1 by omega)]) (fun _ => notIn L hb) (ih (L + 1) (by omega) (by omega)))
  intro L h1 h7
  by_cases h : L ≤ bindsK e.kind
  · exact down (bindsK e.kind - L) L (by omega) h1
  · exact up (7 - L) L (by omega) (by omega)

/-- .. and ahead of more of that strength. -/
theorem all_sums {e : Ex} (hall : ∀ L, 1 ≤ L → L ≤ 7 → RTat e L) {L : Nat} (h1 : 1 ≤ L) (h6 : L ≤ 6) (h3 : L ≠ 3) (hne : L ≠ bindsK e.kind) : Aat e L := by
  refine step_down h6 ?_ (fun h => absurd h h3) (hall (L + 1) (by omega) (by omega))
  by_cases hb : bindsK e.kind < L
  · rw [words_in hb, words_in (show bindsK e.kind < L + 1 by omega)]
  · exact words_out hb (by omega)

end Go.Proofs.YtpdcmmhhgnackaaGreatDoor

namespace Go.Proofs.YtpdcmmhhgnackaaGreatDoor

theorem txt_data (t : ByteArray) : txt t.data.toList = t := by
  obtain ⟨⟨l⟩⟩ := t
  rfl

theorem txt_empty {t : ByteArray} (h : t.toList.isEmpty = true) : t = txt [] := by
  have : t.data.toList = [] := by rw [← Lib.toList_data]; exact List.isEmpty_iff.1 h
  rw [← txt_data t, this]

theorem zero_kids {k : Int} (h : kidsK k = 0) : k = 0 ∨ k = 1 ∨ k = 2 ∨ k = 3 ∨ k = 4 ∨ k = 5 := by
  unfold kidsK at h
  split at h
  · omega
  · split at h
    · omega
    · split at h <;> omega

theorem one_kid {k : Int} (h : kidsK k = 1) : k = 6 ∨ k = 7 := by
  unfold kidsK at h
  split at h
  · omega
  · split at h
    · omega
    · split at h <;> omega

/-- A leaf is read from its word. -/
theorem leaf_back {k : Int} {t : ByteArray} {n : Int} (h : node1 k t n 0 = true) (f : Nat) (rest : List W) : atomP (f + 1) (leafW k t n :: rest) = some (.mk k t n [], rest) := by
  unfold node1 at h
  simp only [Bool.and_eq_true] at h
  obtain ⟨⟨hk, ht⟩, hn⟩ := h
  have hk0 : kidsK k = 0 := by simpa using (of_decide_eq_true hk).symm
  rcases zero_kids hk0 with rfl | rfl | rfl | rfl | rfl | rfl
  · have hn0 : n = 0 := by simpa using hn
    subst hn0
    unfold leafW
    rw [if_pos rfl]
    split
    · rename_i hp
      rw [Bool.and_eq_true, Bool.not_eq_true'] at hp
      rw [atomP, if_neg (by simp), if_neg (by simp), if_pos (.inr ⟨rfl, hp.2⟩)]
      rw [leaf, txt_data]
    · rw [atomP, if_neg (by simp), if_neg (by simp), if_pos (.inl rfl)]
      rw [leaf, txt_data]
  · have hn0 : 0 ≤ n ∧ n ≤ 999999999 := by simpa using hn
    have ht0 : t = txt [] := txt_empty (by simpa using ht)
    subst ht0
    unfold leafW
    rw [if_neg (by decide), if_pos rfl, atomP, if_pos rfl, readD_inB n hn0.1 hn0.2]
    rfl
  · have hn0 : n = 0 := by simpa using hn
    subst hn0
    unfold leafW
    rw [if_neg (by decide), if_neg (by decide), if_pos rfl, atomP, if_neg (by simp), if_pos rfl]
    rw [leaf, txt_data]
  · have hn0 : n = 0 := by simpa using hn
    have ht0 : t = txt [] := txt_empty (by simpa using ht)
    subst hn0 ht0
    rfl
  · have hn0 : n = 0 := by simpa using hn
    have ht0 : t = txt [] := txt_empty (by simpa using ht)
    subst hn0 ht0
    rfl
  · have hn0 : n = 0 := by simpa using hn
    have ht0 : t = txt [] := txt_empty (by simpa using ht)
    subst hn0 ht0
    rfl

theorem inner_text {k : Int} {t : ByteArray} {n : Int} {m : Nat} (h : node1 k t n m = true) (hk : 6 ≤ k) : t = txt [] ∧ n = 0 := by
  unfold node1 at h
  simp only [Bool.and_eq_true] at h
  obtain ⟨⟨_, ht⟩, hn⟩ := h
  rw [if_neg (by omega), if_neg (by omega)] at ht
  rw [if_neg (by omega)] at hn
  exact ⟨txt_empty ht, of_decide_eq_true hn⟩

theorem arity {k : Int} {t : ByteArray} {n : Int} {m : Nat} (h : node1 k t n m = true) : kidsK k = m := by
  unfold node1 at h
  simp only [Bool.and_eq_true] at h
  exact (of_decide_eq_true h.1.1).symm

theorem two_binds {k : Int} (h : k ∈ ([8, 9, 10, 11, 12, 13, 14, 15, 16, 17, 18] : List Int)) : bindsK k ≤ 6 ∧ bindsK k ≠ 3 := by
  have : ∀ k ∈ ([8, 9, 10, 11, 12, 13, 14, 15, 16, 17, 18] : List Int), bindsK k ≤ 6 ∧ bindsK k ≠ 3 := by decide
  exact this k h

theorem read_back : ∀ (n : Nat) (e : Ex), e.nodes ≤ n → shapeE e = true → (∀ L, 1 ≤ L → L ≤ 7 → RTat e L) ∧ (∀ L, 1 ≤ L → L ≤ 6 → L ≠ 3 → L ≠ 4 → Aat e L) := by
  intro n
  induction n with
  | zero => intro e h; rw [Ex.nodes_eq] at h; omega
  | succ n ih =>
    intro e hn hs
    suffices H : RTat e (bindsK e.kind) ∧ (bindsK e.kind ≤ 6 → bindsK e.kind ≠ 3 → bindsK e.kind ≠ 4 → Aat e (bindsK e.kind)) by
      have hall := all_levels hs H.1
      refine ⟨hall, fun L h1 h6 h3 h4 => ?_⟩
      by_cases he : L = bindsK e.kind
      · subst he; exact H.2 h6 h3 h4
      · exact all_sums hall h1 h6 h3 he
    obtain ⟨k, t, m, kids⟩ := e
    rw [Ex.nodes_eq] at hn
    have hs0 := hs
    rw [shapeE, Bool.and_eq_true] at hs
    obtain ⟨h1, hl⟩ := hs
    match kids, h1, hl, hn, hs0 with
    | [], h1, _, _, _ =>
      have hk := zero_kids (arity h1)
      have hb : bindsK k = 7 := by rcases hk with rfl | rfl | rfl | rfl | rfl | rfl <;> rfl
      show RTat _ (bindsK k) ∧ _
      rw [hb]
      refine ⟨fun rest f hf _ => ?_, fun h => by have : bindsK k ≤ 6 := h; omega⟩
      rw [wordsE, hb, if_neg (by omega)]
      unfold enough at hf
      obtain ⟨f, rfl⟩ : ∃ g, f = g + 2 := ⟨f - 2, by simp only [List.length_append] at hf; have := words_pos (.mk k t m []) 7; omega⟩
      rw [anyP, if_pos rfl]
      exact leaf_back h1 f rest
    | [a], h1, hl, hn, _ =>
      have hsa : shapeE a = true := by rw [shapeL, Bool.and_eq_true] at hl; exact hl.1
      have hna : a.nodes ≤ n := by change 1 + nodesL [a] ≤ n + 1 at hn; rw [nodesL, nodesL] at hn; omega
      obtain ⟨ha, _⟩ := ih a hna hsa
      have hk := one_kid (arity h1)
      obtain ⟨rfl, rfl⟩ := inner_text h1 (by omega)
      rcases hk with rfl | rfl
      · show RTat _ 3 ∧ _
        refine ⟨fun rest f hf hst => ?_, fun _ h3 => absurd rfl h3⟩
        have hw : wordsE (.mk 6 (txt []) 0 [a]) 3 = (0, wNot) :: wordsE a 3 := by rw [wordsE, if_pos rfl, if_neg (by decide)]
        rw [hw] at hf ⊢
        unfold enough at hf
        simp only [List.cons_append, List.length_cons, List.length_append] at hf
        obtain ⟨f, rfl⟩ : ∃ g, f = g + 1 := ⟨f - 1, by omega⟩
        rw [List.cons_append, anyP, if_neg (by omega), if_pos ⟨rfl, rfl⟩, List.tail_cons, ha 3 (by omega) (by omega) rest f (by unfold enough; rw [List.length_append]; omega) hst]
        rfl
      · show RTat _ 4 ∧ _
        refine ⟨fun rest f hf hst => ?_, fun _ _ h4 => absurd rfl h4⟩
        have hw : wordsE (.mk 7 (txt []) 0 [a]) 4 = wordsE a 5 ++ [(0, wIs), (0, wNull)] := by rw [wordsE, if_neg (by decide), if_neg (by decide)]
        rw [hw] at hf ⊢
        unfold enough at hf
        simp only [List.append_assoc, List.cons_append, List.nil_append, List.length_cons, List.length_append] at hf ⊢
        obtain ⟨f, rfl⟩ : ∃ g, f = g + 2 := ⟨f - 2, by omega⟩
        rw [anyP, if_neg (by omega), if_neg (by omega), ha 5 (by omega) (by omega) _ (f + 1) (by unfold enough; simp only [List.length_append, List.length_cons]; omega) (stop_is _)]
        show some (loopP (f + 1) 4 a _) = _
        rw [loopP, if_pos ⟨rfl, rfl, rfl⟩]
        rfl
    | [a, b], h1, hl, hn, _ =>
      have hsa : shapeE a = true := by rw [shapeL, Bool.and_eq_true] at hl; exact hl.1
      have hsb : shapeE b = true := by rw [shapeL, shapeL, Bool.and_eq_true, Bool.and_eq_true] at hl; exact hl.2.1
      have hnn : a.nodes ≤ n ∧ b.nodes ≤ n := by
        change 1 + nodesL [a, b] ≤ n + 1 at hn
        rw [nodesL, nodesL, nodesL] at hn
        omega
      obtain ⟨ha, hA⟩ := ih a hnn.1 hsa
      obtain ⟨hb, _⟩ := ih b hnn.2 hsb
      have hk := two_mem (arity h1)
      obtain ⟨rfl, rfl⟩ := inner_text h1 (by have : ∀ k ∈ ([8, 9, 10, 11, 12, 13, 14, 15, 16, 17, 18] : List Int), 6 ≤ k := by decide
                                             exact this k hk)
      obtain ⟨hb6, hb3⟩ := two_binds hk
      have hr := binds_range k
      show RTat _ (bindsK k) ∧ (bindsK k ≤ 6 → bindsK k ≠ 3 → bindsK k ≠ 4 → Aat _ (bindsK k))
      have hw : wordsE (.mk k (txt []) 0 [a, b]) (bindsK k) = wordsE a (firstK k) ++ signW k :: wordsE b (bindsK k + 1) := by rw [wordsE, if_neg (by omega)]
      have hnx := sign_next k hk (bindsK k) (by omega)
      rw [if_pos rfl] at hnx
      have his := sign_is k hk
      by_cases h4 : bindsK k = 4
      · refine ⟨fun rest f hf hst => ?_, fun _ _ h => absurd h4 h⟩
        have hfk : firstK k = 5 := by unfold firstK; rw [if_pos h4]
        rw [hw, hfk] at hf ⊢
        rw [h4] at hf hst hnx ⊢
        unfold enough at hf
        simp only [List.append_assoc, List.cons_append, List.length_cons, List.length_append, show (4 : Nat) + 1 = 5 from rfl] at hf ⊢
        obtain ⟨f, rfl⟩ : ∃ g, f = g + 2 := ⟨f - 2, by omega⟩
        have hs5 : Stop 5 (signW k :: (wordsE b 5 ++ rest)) := by have := stop_sign hk (wordsE b 5 ++ rest); rw [h4] at this; exact this
        rw [anyP, if_neg (by omega), if_neg (by omega), ha 5 (by omega) (by omega) _ (f + 1) (by unfold enough; simp only [List.length_append, List.length_cons]; omega) hs5]
        show some (loopP (f + 1) 4 a _) = _
        rw [loopP, if_neg (by rintro ⟨_, h, _⟩; rw [his] at h; cases h), hnx]
        show some (match anyP f 5 (wordsE b 5 ++ rest) with | none => _ | some (s, r'') => _) = _
        rw [hb 5 (by omega) (by omega) rest f (by unfold enough; rw [List.length_append]; omega) (hst.mono (by omega))]
        rfl
      · have hfk : firstK k = bindsK k := by unfold firstK; rw [if_neg h4]
        have HA : Aat (.mk k (txt []) 0 [a, b]) (bindsK k) := by
          intro rest f hf hst
          rw [hw, hfk] at hf ⊢
          simp only [List.append_assoc, List.cons_append] at hf ⊢
          obtain ⟨f', hf', hp⟩ := hA (bindsK k) hr.1 hb6 hb3 h4 (signW k :: (wordsE b (bindsK k + 1) ++ rest)) f hf (stop_sign hk _)
          unfold enoughL at hf'
          simp only [List.length_cons, List.length_append] at hf'
          have hbp := words_pos b (bindsK k + 1)
          obtain ⟨f', rfl⟩ : ∃ g, f' = g + 1 := ⟨f' - 1, by omega⟩
          refine ⟨f', by unfold enoughL; omega, ?_⟩
          rw [hp, loopP, if_neg (by rintro ⟨h, _⟩; exact h4 h), hnx]
          show some (match anyP f' (bindsK k + 1) (wordsE b (bindsK k + 1) ++ rest) with | none => _ | some (s, r'') => _) = _
          rw [hb (bindsK k + 1) (by omega) (by omega) rest f' (by unfold enough; rw [List.length_append]; omega) hst]
          show some (if bindsK k = 4 then _ else _) = _
          rw [if_neg h4]
          rfl
        exact ⟨rt_of_a hb6 HA, fun _ _ _ => HA⟩
    | a :: b :: c :: r, h1, _, _, _ =>
      have := arity h1
      unfold kidsK at this
      simp only [List.length_cons] at this
      split at this
      · omega
      · split at this
        · omega
        · split at this <;> omega

end Go.Proofs.YtpdcmmhhgnackaaGreatDoor

namespace Go.Proofs.YtpdcmmhhgnackaaGreatDoor

theorem lowB_cases (b : UInt8) : (lowB b = b ∧ ¬ (65 ≤ b.toNat ∧ b.toNat ≤ 90)) ∨ ((lowB b).toNat = b.toNat + 32 ∧ 65 ≤ b.toNat ∧ b.toNat ≤ 90) := by
  unfold lowB
  by_cases h : 65 ≤ b.toNat ∧ b.toNat ≤ 90
  · right
    rw [if_pos (by simp [h.1, h.2])]
    refine ⟨?_, h⟩
    rw [UInt8.toNat_add]
    have : (32 : UInt8).toNat = 32 := rfl
    omega
  · left
    refine ⟨?_, h⟩
    rw [if_neg]
    intro hc
    simp only [Bool.and_eq_true, decide_eq_true_eq] at hc
    exact h hc

theorem letter_low (b : UInt8) (h : letterB b = true) : letterB (lowB b) = true := by
  rcases lowB_cases b with ⟨e, _⟩ | ⟨e, h1, h2⟩
  · rw [e]; exact h
  · simp only [letterB, e, Bool.or_eq_true, Bool.and_eq_true, decide_eq_true_eq, beq_iff_eq]; omega

theorem more_low (b : UInt8) (h : moreB b = true) : moreB (lowB b) = true := by
  rcases lowB_cases b with ⟨e, _⟩ | ⟨e, h1, h2⟩
  · rw [e]; exact h
  · simp only [moreB, letterB, digitB, e, Bool.or_eq_true, Bool.and_eq_true, decide_eq_true_eq, beq_iff_eq]; omega

theorem low_low (b : UInt8) : lowB (lowB b) = lowB b := by
  rcases lowB_cases b with ⟨e, _⟩ | ⟨e, h1, h2⟩
  · rw [e, e]
  · rcases lowB_cases (lowB b) with ⟨e', _⟩ | ⟨e', h3, h4⟩
    · exact e'
    · omega

/-- What may stand behind a spelt word. -/
def Ends (r : List UInt8) : Prop := ∀ b, r.head? = some b → b.toNat = 32 ∨ b.toNat = 10 ∨ b.toNat = 59

theorem ends_nil : Ends [] := fun _ h => by cases h
theorem ends_cons {b : UInt8} {r : List UInt8} (h : b.toNat = 32 ∨ b.toNat = 10 ∨ b.toNat = 59) : Ends (b :: r) := fun c hc => by cases hc; exact h

theorem Ends.more {r : List UInt8} (h : Ends r) : runL r = [] := by
  cases r with
  | nil => rfl
  | cons b r =>
    have := h b rfl
    have hm : moreB b = false := by
      simp only [moreB, letterB, digitB, Bool.or_eq_false_iff, Bool.and_eq_false_iff, decide_eq_false_iff_not, beq_eq_false_iff_ne]; omega
    simp [runL, hm]

theorem runL_append {t r : List UInt8} (h : ∀ b ∈ t, moreB b = true) (hr : Ends r) : runL (t ++ r) = t := by
  unfold runL
  rw [List.takeWhile_append_of_pos h]
  have := hr.more
  unfold runL at this
  rw [this, List.append_nil]

theorem runL_all (l : List UInt8) : ∀ b ∈ runL l, moreB b = true := by
  intro b hb
  unfold runL at hb
  induction l with
  | nil => cases hb
  | cons x r ih =>
    rw [List.takeWhile_cons] at hb
    split at hb
    · rcases List.mem_cons.1 hb with rfl | h
      · assumption
      · exact ih h
    · cases hb

theorem quoted_back (q : UInt8) (t r : List UInt8) (hr : ∀ b, r.head? = some b → b ≠ q) :
    quoted q ((t.flatMap fun b => if b = q then [q, b] else [b]) ++ q :: r) = some (t, (t.flatMap fun b => if b = q then [q, b] else [b]).length + 1) := by
  induction t with
  | nil =>
    cases r with
    | nil => simp [quoted]
    | cons c r => simp [quoted, hr c rfl]
  | cons b t ih =>
    rw [List.flatMap_cons]
    by_cases hb : b = q
    · subst hb
      rw [if_pos rfl, List.append_assoc, List.cons_append, List.cons_append, List.nil_append, quoted, if_pos rfl, if_pos rfl, ih]
      simp [Nat.add_comm]
      omega
    · rw [if_neg hb, List.append_assoc, List.cons_append, List.nil_append]
      cases hc : (t.flatMap fun b => if b = q then [q, b] else [b]) ++ q :: r with
      | nil => exact absurd hc (by simp)
      | cons c r' =>
        rw [quoted, if_neg hb, ← hc, ih]
        simp [Nat.add_comm]

/-- How a right word is spelt. -/
def sp (k : Nat) (t : List UInt8) : List UInt8 := if k = 1 then quoteL 34 t else if k = 3 then quoteL 39 t else t

/-- A word that is read as itself from how it is spelt. -/
def Right (k : Nat) (t : List UInt8) : Prop :=
  sp k t ≠ [] ∧ k ≤ 4 ∧ ∀ r, Ends r → one (sp k t ++ r) = some (k, t, (sp k t).length) ∧ gap false (sp k t ++ r) = 0

theorem gap_stop {b : UInt8} {r : List UInt8} (h1 : blankB b = false) (h2 : b.toNat ≠ 45) : gap false (b :: r) = 0 := by
  have : (b.toNat == 45) = false := by simpa using h2
  simp [gap, h1, this]

theorem letter_not_blank {b : UInt8} (h : moreB b = true) : blankB b = false ∧ b.toNat ≠ 45 := by
  simp only [moreB, letterB, digitB, Bool.or_eq_true, Bool.and_eq_true, decide_eq_true_eq, beq_iff_eq] at h
  constructor
  · simp only [blankB, Bool.or_eq_false_iff, beq_eq_false_iff_ne]; omega
  · omega

theorem right_run {k : Nat} {b : UInt8} {t : List UInt8} (hk : k = 0 ∨ k = 2) (hall : ∀ c ∈ b :: t, moreB c = true)
    (hone : ∀ r, runL (b :: t ++ r) = b :: t → one (b :: t ++ r) = some (k, b :: t, (b :: t).length)) : Right k (b :: t) := by
  have hs : sp k (b :: t) = b :: t := by rcases hk with rfl | rfl <;> simp [sp]
  unfold Right
  rw [hs]
  refine ⟨by simp, by omega, fun r hr => ⟨hone r (runL_append hall hr), ?_⟩⟩
  obtain ⟨h1, h2⟩ := letter_not_blank (hall b (List.mem_cons_self ..))
  exact gap_stop h1 h2

theorem right_word {b : UInt8} {t : List UInt8} (hb : letterB b = true) (hall : ∀ c ∈ b :: t, moreB c = true ∧ lowB c = c) : Right 0 (b :: t) := by
  refine right_run (.inl rfl) (fun c hc => (hall c hc).1) fun r hr => ?_
  rw [List.cons_append] at hr ⊢
  rw [one, if_pos hb, runN, hr]
  congr 2
  congr 1
  exact (List.map_congr_left fun c hc => (hall c hc).2).trans (List.map_id _)

theorem right_num {b : UInt8} {t : List UInt8} (hb : digitB b = true) (hl : letterB b = false) (hall : ∀ c ∈ b :: t, moreB c = true) (hn : 0 ≤ readD (b :: t)) : Right 2 (b :: t) := by
  refine right_run (.inr rfl) hall fun r hr => ?_
  rw [List.cons_append] at hr ⊢
  rw [one, if_neg (by simp [hl]), if_pos hb, runN, hr, if_pos hn]

theorem Ends.ne {r : List UInt8} (h : Ends r) {q : UInt8} (hq : q.toNat = 34 ∨ q.toNat = 39) : ∀ b, r.head? = some b → b ≠ q := by
  intro b hb e
  have := h b hb
  subst e
  omega

theorem right_name {t : List UInt8} (h : nameB t = true) : Right 1 t := by
  have hs : sp 1 t = quoteL 34 t := by simp [sp]
  unfold Right
  rw [hs]
  refine ⟨by simp [quoteL], by omega, fun r hr => ⟨?_, ?_⟩⟩
  · unfold quoteL
    rw [List.append_assoc, List.cons_append, List.singleton_append, one]
    rw [if_neg (by decide), if_neg (by decide), if_pos (by decide), quoted_back 34 t r (hr.ne (.inl rfl)), Option.bind_some, if_pos h]
    simp [Nat.add_comm]
  · exact gap_stop (b := 34) (by decide) (by decide)

theorem right_text {t : List UInt8} (h : t.length ≤ 100) : Right 3 t := by
  have hs : sp 3 t = quoteL 39 t := by simp [sp]
  unfold Right
  rw [hs]
  refine ⟨by simp [quoteL], by omega, fun r hr => ⟨?_, ?_⟩⟩
  · unfold quoteL
    rw [List.append_assoc, List.cons_append, List.singleton_append, one]
    rw [if_neg (by decide), if_neg (by decide), if_neg (by decide), if_pos (by decide), quoted_back 39 t r (hr.ne (.inr rfl)), Option.bind_some, if_pos h]
    simp [Nat.add_comm]
  · exact gap_stop (b := 39) (by decide) (by decide)

theorem sign_facts {b : UInt8} (h : signB b = true) : letterB b = false ∧ digitB b = false ∧ b.toNat ≠ 34 ∧ b.toNat ≠ 39 ∧ blankB b = false := by
  simp only [signB, List.contains_eq_mem, List.mem_cons, List.not_mem_nil, or_false, decide_eq_true_eq] at h
  simp only [letterB, digitB, blankB, Bool.or_eq_false_iff, Bool.and_eq_false_iff, decide_eq_false_iff_not, beq_eq_false_iff_ne]
  omega

theorem two_sign {b c : UInt8} (h : twoB b c = true) : signB b = true ∧ b.toNat ≠ 45 := by
  simp only [twoB, Bool.or_eq_true, Bool.and_eq_true, beq_iff_eq] at h
  simp only [signB, List.contains_eq_mem, List.mem_cons, List.not_mem_nil, or_false, decide_eq_true_eq]
  omega

theorem two_not {b c : UInt8} (h : c.toNat = 32 ∨ c.toNat = 10 ∨ c.toNat = 59) : twoB b c = false := by
  simp only [twoB, Bool.or_eq_false_iff, Bool.and_eq_false_iff, beq_eq_false_iff_ne]; omega

theorem signN_pos_sign {b : UInt8} {r : List UInt8} (h : signN (b :: r) ≠ 0) : signB b = true := by
  cases r with
  | nil =>
    rw [signN] at h
    split at h
    · assumption
    · exact absurd rfl h
  | cons c r =>
    rw [signN] at h
    split at h
    · rename_i h2; exact (two_sign h2).1
    · split at h
      · assumption
      · exact absurd rfl h

theorem one_sign {b : UInt8} {r : List UInt8} (h : signB b = true) (hn : signN (b :: r) ≠ 0) : one (b :: r) = some (4, (b :: r).take (signN (b :: r)), signN (b :: r)) := by
  obtain ⟨h1, h2, h3, h4, _⟩ := sign_facts h
  rw [one, if_neg (by simp [h1]), if_neg (by simp [h2]), if_neg h3, if_neg h4, if_neg hn]

theorem right_sign {l : List UInt8} (h : signN l ≠ 0) : Right 4 (l.take (signN l)) := by
  cases l with
  | nil => exact absurd rfl h
  | cons b r =>
    have hb := signN_pos_sign h
    have hf := sign_facts hb
    have hs : ∀ t, sp 4 t = t := fun t => by simp [sp]
    unfold Right
    rw [hs]
    have one1 : ∀ r', Ends r' → one ([b] ++ r') = some (4, [b], 1) ∧ gap false ([b] ++ r') = 0 := by
      intro r' hr'
      have e : signN ([b] ++ r') = 1 := by
        cases r' with
        | nil => simp [signN, hb]
        | cons c r'' => simp [signN, two_not (hr' c rfl), hb]
      refine ⟨?_, ?_⟩
      · rw [List.singleton_append] at e ⊢
        rw [one_sign hb (by omega), e]; rfl
      · rw [List.singleton_append, gap, if_neg (by simp [hf.2.2.2.2])]
        rw [if_neg]
        intro hc
        simp only [Bool.and_eq_true, beq_iff_eq, Option.map_eq_some_iff] at hc
        obtain ⟨_, x, hx, h45⟩ := hc
        have := hr' x hx
        omega
    have small : signN (b :: r) = 1 → ((b :: r).take (signN (b :: r)) ≠ [] ∧ 4 ≤ 4 ∧ ∀ r', Ends r' → one ((b :: r).take (signN (b :: r)) ++ r') = some (4, (b :: r).take (signN (b :: r)), ((b :: r).take (signN (b :: r))).length) ∧ gap false ((b :: r).take (signN (b :: r)) ++ r') = 0) := by
      intro e
      rw [e]
      exact ⟨by simp, by omega, fun r' hr' => one1 r' hr'⟩
    cases r with
    | nil => exact small (by simp [signN, hb])
    | cons c r =>
      by_cases h2 : twoB b c = true
      · have e : ∀ r', signN (b :: c :: r') = 2 := fun r' => by simp [signN, h2]
        rw [e]
        refine ⟨by simp, by omega, fun r' _ => ⟨?_, ?_⟩⟩
        · show one (b :: c :: r') = _
          rw [one_sign hb (by rw [e]; omega), e]; rfl
        · exact gap_stop (b := b) hf.2.2.2.2 (two_sign h2).2
      · exact small (by simp [signN, h2, hb])

/-- What is read is right. -/
theorem one_right {l : List UInt8} {k : Nat} {t : List UInt8} {n : Nat} (h : one l = some (k, t, n)) : Right k t := by
  cases l with
  | nil => simp [one] at h
  | cons b r =>
    rw [one] at h
    split at h
    · rename_i hb
      simp only [Option.some.injEq, Prod.mk.injEq] at h
      obtain ⟨rfl, rfl, _⟩ := h
      have hm : moreB b = true := by simp [moreB, hb]
      have e : runL (b :: r) = b :: runL r := by simp [runL, hm]
      rw [e, List.map_cons]
      refine right_word (letter_low b hb) fun c hc => ?_
      rw [← List.map_cons (f := lowB), ← e] at hc
      obtain ⟨x, hx, rfl⟩ := List.mem_map.1 hc
      exact ⟨more_low x (runL_all _ x hx), low_low x⟩
    · rename_i hnl
      split at h
      · rename_i hb
        split at h
        · rename_i hn
          simp only [Option.some.injEq, Prod.mk.injEq] at h
          obtain ⟨rfl, rfl, _⟩ := h
          have hm : moreB b = true := by simp [moreB, hb]
          have e : runL (b :: r) = b :: runL r := by simp [runL, hm]
          rw [e] at hn ⊢
          refine right_num hb (by simpa using hnl) (fun c hc => ?_) hn
          rw [← e] at hc
          exact runL_all _ c hc
        · cases h
      · split at h
        · cases hq : quoted 34 r with
          | none => rw [hq] at h; cases h
          | some x =>
            rw [hq, Option.bind_some] at h
            split at h
            · rename_i hn
              simp only [Option.some.injEq, Prod.mk.injEq] at h
              obtain ⟨rfl, rfl, _⟩ := h
              exact right_name hn
            · cases h
        · split at h
          · cases hq : quoted 39 r with
            | none => rw [hq] at h; cases h
            | some x =>
              rw [hq, Option.bind_some] at h
              split at h
              · rename_i hn
                simp only [Option.some.injEq, Prod.mk.injEq] at h
                obtain ⟨rfl, rfl, _⟩ := h
                exact right_text hn
              · cases h
          · split at h
            · cases h
            · rename_i hn
              simp only [Option.some.injEq, Prod.mk.injEq] at h
              obtain ⟨rfl, rfl, _⟩ := h
              exact right_sign hn

theorem lexAt_right : ∀ (m : Nat) (p : Nat) (l : List UInt8) (ts : List Tok), l.length ≤ m → lexAt p l = .ok ts → ∀ x ∈ ts, Right x.kind x.text
  | 0, p, l, ts, hm, h, x, hx => by
    obtain rfl : l = [] := List.eq_nil_of_length_eq_zero (by omega)
    rw [lexAt_nil] at h
    cases h
    cases hx
  | m + 1, p, l, ts, hm, h, x, hx => by
    by_cases h0 : l = []
    · subst h0
      rw [lexAt_nil] at h
      cases h
      cases hx
    · cases h1 : one l with
      | none => rw [lexAt_bad h0 h1] at h; cases h
      | some y =>
        obtain ⟨k, t, n⟩ := y
        rw [lexAt_one h1] at h
        cases h2 : lexAt (p + n + gap false (l.drop n)) ((l.drop n).drop (gap false (l.drop n))) with
        | error e => rw [h2] at h; cases h
        | ok us =>
          rw [h2] at h
          cases h
          have hpos := one_pos h1
          have hl : 0 < l.length := List.length_pos_iff.2 h0
          rcases List.mem_append.1 hx with hx | hx
          · simp only [List.mem_singleton] at hx
            subst hx
            exact one_right h1
          · exact lexAt_right m _ _ us (by simp only [List.length_drop]; omega) h2 x hx

/-- The spelt words, each behind a blank but for the first. -/
def spellR : List (Nat × List UInt8) → List UInt8
  | [] => []
  | [x] => sp x.1 x.2
  | x :: y :: r => sp x.1 x.2 ++ 32 :: spellR (y :: r)

def kt (ts : List Tok) : List (Nat × List UInt8) := ts.map fun x => (x.kind, x.text)

theorem spellR_head {x : Nat × List UInt8} {r : List (Nat × List UInt8)} : ∃ q, spellR (x :: r) = sp x.1 x.2 ++ q ∧ Ends q := by
  cases r with
  | nil => exact ⟨[], by simp [spellR], ends_nil⟩
  | cons y r => exact ⟨32 :: spellR (y :: r), rfl, ends_cons (.inl rfl)⟩

theorem gap_blank (r : List UInt8) : gap false (32 :: r) = 1 + gap false r := by
  rw [gap, if_pos (by decide)]

theorem spell_back : ∀ (xs : List (Nat × List UInt8)) (p : Nat), (∀ x ∈ xs, Right x.1 x.2) → ∃ ts, lexAt p (spellR xs) = .ok ts ∧ kt ts = xs ∧ gap false (spellR xs) = 0
  | [], p, _ => ⟨[], lexAt_nil p, rfl, rfl⟩
  | [x], p, h => by
    have hx := h x (List.mem_cons_self ..)
    have := hx.2.2 [] ends_nil
    rw [List.append_nil] at this
    refine ⟨[⟨x.1, x.2, p⟩], ?_, rfl, this.2⟩
    rw [spellR, lexAt_one this.1, List.drop_length, gap, List.drop_nil, lexAt_nil]
    rfl
  | x :: y :: r, p, h => by
    have hx := h x (List.mem_cons_self ..)
    have := hx.2.2 (32 :: spellR (y :: r)) (ends_cons (.inl rfl))
    obtain ⟨ts, h1, h2, h3⟩ := spell_back (y :: r) (p + (sp x.1 x.2).length + 1) (fun z hz => h z (List.mem_cons_of_mem _ hz))
    refine ⟨⟨x.1, x.2, p⟩ :: ts, ?_, by simp only [kt, List.map_cons] at h2 ⊢; rw [h2], this.2⟩
    rw [spellR, lexAt_one this.1, List.drop_left, gap_blank, h3, Nat.add_zero, List.drop_succ_cons, List.drop_zero, h1]
    rfl

end Go.Proofs.YtpdcmmhhgnackaaGreatDoor

namespace Go.Proofs.YtpdcmmhhgnackaaGreatDoor

/-- What stands behind a word in an expression's text. -/
def Ends2 (r : List UInt8) : Prop := ∀ b, r.head? = some b → b.toNat = 32 ∨ b.toNat = 41
theorem ends2_nil : Ends2 [] := fun _ h => by cases h
theorem ends2_blank (r : List UInt8) : Ends2 (32 :: r) := fun c hc => by cases hc; exact .inl rfl
theorem ends2_shut (r : List UInt8) : Ends2 (41 :: r) := fun c hc => by cases hc; exact .inr rfl

theorem Ends2.more {r : List UInt8} (h : Ends2 r) : runL r = [] := by
  cases r with
  | nil => rfl
  | cons b r =>
    have := h b rfl
    have hm : moreB b = false := by
      simp only [moreB, letterB, digitB, Bool.or_eq_false_iff, Bool.and_eq_false_iff, decide_eq_false_iff_not, beq_eq_false_iff_ne]; omega
    simp [runL, hm]

theorem runL_append2 {t r : List UInt8} (h : ∀ b ∈ t, moreB b = true) (hr : Ends2 r) : runL (t ++ r) = t := by
  unfold runL
  rw [List.takeWhile_append_of_pos h]
  have := hr.more
  unfold runL at this
  rw [this, List.append_nil]

/-- A word that is read as itself there. -/
def Right2 (k : Nat) (t : List UInt8) : Prop :=
  sp k t ≠ [] ∧ ∀ r, Ends2 r → one (sp k t ++ r) = some (k, t, (sp k t).length) ∧ gap false (sp k t ++ r) = 0

theorem word2 {b : UInt8} {t : List UInt8} (hb : letterB b = true) (hall : ∀ c ∈ b :: t, moreB c = true ∧ lowB c = c) : Right2 0 (b :: t) := by
  have hs : sp 0 (b :: t) = b :: t := rfl
  unfold Right2
  rw [hs]
  refine ⟨by simp, fun r hr => ⟨?_, ?_⟩⟩
  · have hrun := runL_append2 (fun c hc => (hall c hc).1) hr
    rw [List.cons_append] at hrun ⊢
    rw [one, if_pos hb, runN, hrun]
    congr 2
    congr 1
    exact (List.map_congr_left fun c hc => (hall c hc).2).trans (List.map_id _)
  · obtain ⟨h1, h2⟩ := letter_not_blank (hall b (List.mem_cons_self ..)).1
    exact gap_stop h1 h2

theorem num2 {b : UInt8} {t : List UInt8} (hb : digitB b = true) (hl : letterB b = false) (hall : ∀ c ∈ b :: t, moreB c = true) (hn : 0 ≤ readD (b :: t)) : Right2 2 (b :: t) := by
  have hs : sp 2 (b :: t) = b :: t := rfl
  unfold Right2
  rw [hs]
  refine ⟨by simp, fun r hr => ⟨?_, ?_⟩⟩
  · have hrun := runL_append2 hall hr
    rw [List.cons_append] at hrun ⊢
    rw [one, if_neg (by simp [hl]), if_pos hb, runN, hrun, if_pos hn]
  · obtain ⟨h1, h2⟩ := letter_not_blank (hall b (List.mem_cons_self ..))
    exact gap_stop h1 h2

theorem Ends2.ne {r : List UInt8} (h : Ends2 r) {q : UInt8} (hq : q.toNat = 34 ∨ q.toNat = 39) : ∀ b, r.head? = some b → b ≠ q := by
  intro b hb e
  have := h b hb
  subst e
  omega

theorem name2 {t : List UInt8} (h : nameB t = true) : Right2 1 t := by
  have hs : sp 1 t = quoteL 34 t := rfl
  unfold Right2
  rw [hs]
  refine ⟨by simp [quoteL], fun r hr => ⟨?_, ?_⟩⟩
  · unfold quoteL
    rw [List.append_assoc, List.cons_append, List.singleton_append, one]
    rw [if_neg (by decide), if_neg (by decide), if_pos (by decide), quoted_back 34 t r (hr.ne (.inl rfl)), Option.bind_some, if_pos h]
    simp [Nat.add_comm]
  · exact gap_stop (b := 34) (by decide) (by decide)

theorem text2 {t : List UInt8} (h : t.length ≤ 100) : Right2 3 t := by
  have hs : sp 3 t = quoteL 39 t := rfl
  unfold Right2
  rw [hs]
  refine ⟨by simp [quoteL], fun r hr => ⟨?_, ?_⟩⟩
  · unfold quoteL
    rw [List.append_assoc, List.cons_append, List.singleton_append, one]
    rw [if_neg (by decide), if_neg (by decide), if_neg (by decide), if_pos (by decide), quoted_back 39 t r (hr.ne (.inr rfl)), Option.bind_some, if_pos h]
    simp [Nat.add_comm]
  · exact gap_stop (b := 39) (by decide) (by decide)

theorem two_not2 {b c : UInt8} (h : c.toNat = 32 ∨ c.toNat = 41) : twoB b c = false := by
  simp only [twoB, Bool.or_eq_false_iff, Bool.and_eq_false_iff, beq_eq_false_iff_ne]; omega

theorem sign1 {b : UInt8} (hb : signB b = true) : Right2 4 [b] := by
  have hs : sp 4 [b] = [b] := rfl
  have hf := sign_facts hb
  unfold Right2
  rw [hs]
  refine ⟨by simp, fun r' hr' => ?_⟩
  have e : signN ([b] ++ r') = 1 := by
    cases r' with
    | nil => simp [signN, hb]
    | cons c r'' => simp [signN, two_not2 (hr' c rfl), hb]
  refine ⟨?_, ?_⟩
  · rw [List.singleton_append] at e ⊢
    rw [one_sign hb (by omega), e]; rfl
  · rw [List.singleton_append, gap, if_neg (by simp [hf.2.2.2.2])]
    rw [if_neg]
    intro hc
    simp only [Bool.and_eq_true, beq_iff_eq, Option.map_eq_some_iff] at hc
    obtain ⟨_, x, hx, h45⟩ := hc
    have := hr' x hx
    omega

theorem sign2 {b c : UInt8} (h2 : twoB b c = true) : Right2 4 [b, c] := by
  have hs : sp 4 [b, c] = [b, c] := rfl
  have hb := (two_sign h2).1
  have hf := sign_facts hb
  unfold Right2
  rw [hs]
  have e : ∀ r', signN (b :: c :: r') = 2 := fun r' => by simp [signN, h2]
  refine ⟨by simp, fun r' _ => ⟨?_, ?_⟩⟩
  · show one (b :: c :: r') = _
    rw [one_sign hb (by rw [e]; omega), e]; rfl
  · exact gap_stop (b := b) hf.2.2.2.2 (two_sign h2).2

/-- An open bracket is read as itself whatever comes. -/
theorem open_any (r : List UInt8) : one (40 :: r) = some (4, [40], 1) ∧ gap false (40 :: r) = 0 := by
  have hb : signB 40 = true := by decide
  have e : signN (40 :: r) = 1 := by
    cases r with
    | nil => rfl
    | cons c r'' =>
      have : twoB 40 c = false := by simp [twoB]
      simp [signN, this, hb]
  exact ⟨by rw [one_sign hb (by omega), e]; rfl, gap_stop (by decide) (by decide)⟩

/-- Words behind one another: a blank between, but none behind an open bracket or ahead of a shut one. -/
def joinW : List (Nat × List UInt8) → List UInt8
  | [] => []
  | [x] => sp x.1 x.2
  | x :: y :: r => sp x.1 x.2 ++ ((if x = (4, [40]) ∨ y = (4, [41]) then [] else [32]) ++ joinW (y :: r))

theorem join_head (y : Nat × List UInt8) (r : List (Nat × List UInt8)) : ∃ q, joinW (y :: r) = sp y.1 y.2 ++ q := by
  cases r with
  | nil => exact ⟨[], by simp [joinW]⟩
  | cons z r => exact ⟨_, rfl⟩

theorem join_lex : ∀ (xs : List (Nat × List UInt8)) (p : Nat), (∀ x ∈ xs, Right2 x.1 x.2) → ∃ ts, lexAt p (joinW xs) = .ok ts ∧ kt ts = xs ∧ gap false (joinW xs) = 0
  | [], p, _ => ⟨[], lexAt_nil p, rfl, rfl⟩
  | [x], p, h => by
    have hx := h x (List.mem_cons_self ..)
    have := hx.2 [] ends2_nil
    rw [List.append_nil] at this
    refine ⟨[⟨x.1, x.2, p⟩], ?_, rfl, this.2⟩
    rw [joinW, lexAt_one this.1, List.drop_length, gap, List.drop_nil, lexAt_nil]
    rfl
  | x :: y :: r, p, h => by
    have hx := h x (List.mem_cons_self ..)
    by_cases hc : x = (4, [40]) ∨ y = (4, [41])
    · obtain ⟨ts, h1, h2, h3⟩ := join_lex (y :: r) (p + (sp x.1 x.2).length) (fun z hz => h z (List.mem_cons_of_mem _ hz))
      have this : one (sp x.1 x.2 ++ joinW (y :: r)) = some (x.1, x.2, (sp x.1 x.2).length) ∧ gap false (sp x.1 x.2 ++ joinW (y :: r)) = 0 := by
        rcases hc with rfl | rfl
        · exact open_any _
        · refine hx.2 _ ?_
          obtain ⟨q, hq⟩ := join_head (4, [41]) r
          rw [hq]
          exact ends2_shut _
      refine ⟨⟨x.1, x.2, p⟩ :: ts, ?_, by simp only [kt, List.map_cons] at h2 ⊢; rw [h2], by rw [joinW, if_pos hc, List.nil_append]; exact this.2⟩
      rw [joinW, if_pos hc, List.nil_append, lexAt_one this.1, List.drop_left, h3, Nat.add_zero, List.drop_zero, h1]
      rfl
    · have := hx.2 (32 :: joinW (y :: r)) (ends2_blank _)
      obtain ⟨ts, h1, h2, h3⟩ := join_lex (y :: r) (p + (sp x.1 x.2).length + 1) (fun z hz => h z (List.mem_cons_of_mem _ hz))
      refine ⟨⟨x.1, x.2, p⟩ :: ts, ?_, by simp only [kt, List.map_cons] at h2 ⊢; rw [h2], by rw [joinW, if_neg hc]; exact this.2⟩
      rw [joinW, if_neg hc, List.singleton_append, lexAt_one this.1, List.drop_left, gap_blank, h3, Nat.add_zero, List.drop_succ_cons, List.drop_zero, h1]
      rfl

end Go.Proofs.YtpdcmmhhgnackaaGreatDoor

namespace Go.Proofs.YtpdcmmhhgnackaaGreatDoor

def wn (x : W) : Nat × List UInt8 := (x.1.toNat, x.2)
/-- The text of an expression that has to bind L. -/
def textE (e : Ex) (L : Nat) : List UInt8 := joinW ((wordsE e L).map wn)

theorem join_cons (x : Nat × List UInt8) (ys : List (Nat × List UInt8)) (hy : ys ≠ []) (h : x = (4, [40]) ∨ ys.head? = some (4, [41])) : joinW (x :: ys) = sp x.1 x.2 ++ joinW ys := by
  cases ys with
  | nil => exact absurd rfl hy
  | cons y r =>
    rw [joinW, if_pos (by rcases h with h | h; exact .inl h; right; simpa using h)]
    rfl

theorem join_blank (x : Nat × List UInt8) (ys : List (Nat × List UInt8)) (hy : ys ≠ []) (h1 : x ≠ (4, [40])) (h2 : ys.head? ≠ some (4, [41])) : joinW (x :: ys) = sp x.1 x.2 ++ 32 :: joinW ys := by
  cases ys with
  | nil => exact absurd rfl hy
  | cons y r =>
    rw [joinW, if_neg (by rintro (h | h); exact h1 h; exact h2 (by simp [h]))]
    rfl

theorem join_append_blank : ∀ (xs ys : List (Nat × List UInt8)), xs ≠ [] → ys ≠ [] → xs.getLast? ≠ some (4, [40]) → ys.head? ≠ some (4, [41]) → joinW (xs ++ ys) = joinW xs ++ 32 :: joinW ys
  | [], _, h, _, _, _ => absurd rfl h
  | [x], ys, _, hy, h1, h2 => by
    rw [List.singleton_append, join_blank x ys hy (fun e => h1 (by simp [e])) h2]
    simp [joinW]
  | x :: z :: r, ys, _, hy, h1, h2 => by
    have ih := join_append_blank (z :: r) ys (by simp) hy (by simpa using h1) h2
    rw [List.cons_append, List.cons_append, joinW, ← List.cons_append, ih, joinW]
    simp [List.append_assoc]

theorem join_append_shut : ∀ (xs : List (Nat × List UInt8)), xs ≠ [] → joinW (xs ++ [(4, [41])]) = joinW xs ++ [41]
  | [], h => absurd rfl h
  | [x], _ => by
    rw [List.singleton_append, join_cons x _ (by simp) (.inr rfl)]
    simp [joinW, sp]
  | x :: z :: r, _ => by
    have ih := join_append_shut (z :: r) (by simp)
    rw [List.cons_append, List.cons_append, joinW, ← List.cons_append, ih, joinW]
    simp [List.append_assoc]

/-- Neither a shut bracket at the head nor an open one at the end. -/
def Fair (ws : List W) : Prop := ws ≠ [] ∧ (ws.map wn).head? ≠ some (4, [41]) ∧ (ws.map wn).getLast? ≠ some (4, [40])

theorem leaf_fair (k : Int) (t : ByteArray) (n : Int) : (wn (leafW k t n)).1 ≠ 4 := by
  have h : (leafW k t n).1 = 0 ∨ (leafW k t n).1 = 1 ∨ (leafW k t n).1 = 2 ∨ (leafW k t n).1 = 3 := by
    unfold leafW
    split
    · split
      · exact .inl rfl
      · exact .inr (.inl rfl)
    · split
      · exact .inr (.inr (.inl rfl))
      · split
        · exact .inr (.inr (.inr rfl))
        · split
          · exact .inl rfl
          · split <;> exact .inl rfl
  unfold wn
  show (leafW k t n).1.toNat ≠ 4
  omega

theorem fair_in (ws : List W) : Fair ((4, [40]) :: (ws ++ [(4, [41])])) := by
  refine ⟨by simp, by simp [wn], ?_⟩
  rw [List.map_cons, List.map_append, List.getLast?_cons, List.getLast?_append]
  simp [wn]

theorem words_fair : ∀ (n : Nat) (e : Ex) (L : Nat), e.nodes ≤ n → Fair (wordsE e L) := by
  intro n
  induction n with
  | zero => intro e L h; rw [Ex.nodes_eq] at h; omega
  | succ n ih =>
    intro e L hn
    by_cases hp : bindsK e.kind < L
    · rw [words_in hp]; exact fair_in _
    · obtain ⟨k, t, m, kids⟩ := e
      have hp' : ¬ bindsK k < L := hp
      rw [Ex.nodes_eq] at hn
      match kids, hn with
      | [], _ =>
        rw [wordsE, if_neg hp']
        have := leaf_fair k t m
        refine ⟨by simp, ?_, ?_⟩
        · intro h; simp at h; rw [h] at this; exact this rfl
        · intro h; simp at h; rw [h] at this; exact this rfl
      | [a], hn =>
        have hna : a.nodes ≤ n := by change 1 + nodesL [a] ≤ n + 1 at hn; rw [nodesL, nodesL] at hn; omega
        rw [wordsE, if_neg hp', if_neg hp']
        split
        · obtain ⟨h1, h2, h3⟩ := ih a 3 hna
          refine ⟨by simp, by simp [wn], ?_⟩
          rw [List.map_cons, List.getLast?_cons]
          cases hl : ((wordsE a 3).map wn).getLast? with
          | none => simp [wn, wNot]
          | some y => rw [hl] at h3; simpa using h3
        · obtain ⟨h1, h2, h3⟩ := ih a 5 hna
          refine ⟨by simp, ?_, ?_⟩
          · rw [List.map_append, List.head?_append]
            cases hh : ((wordsE a 5).map wn).head? with
            | none => simp at hh; exact absurd hh h1
            | some y => rw [hh] at h2; simpa using h2
          · rw [List.map_append, List.getLast?_append]
            simp [wn, wIs, wNull]
      | a :: b :: r, hn =>
        have hnn : a.nodes ≤ n ∧ b.nodes ≤ n := by
          change 1 + nodesL (a :: b :: r) ≤ n + 1 at hn
          rw [nodesL, nodesL] at hn
          omega
        rw [wordsE, if_neg hp']
        obtain ⟨h1, h2, h3⟩ := ih a (firstK k) hnn.1
        obtain ⟨g1, g2, g3⟩ := ih b (bindsK k + 1) hnn.2
        refine ⟨by simp, ?_, ?_⟩
        · rw [List.map_append, List.head?_append]
          cases hh : ((wordsE a (firstK k)).map wn).head? with
          | none => simp at hh; exact absurd hh h1
          | some y => rw [hh] at h2; simpa using h2
        · rw [List.map_append, List.map_cons, List.getLast?_append, List.getLast?_cons]
          cases hl : ((wordsE b (bindsK k + 1)).map wn).getLast? with
          | none => simp at hl; exact absurd hl g1
          | some y => rw [hl] at g3; simpa using g3

theorem text_in {e : Ex} {L : Nat} (h : bindsK e.kind < L) : textE e L = 40 :: (textE e 1 ++ [41]) := by
  obtain ⟨h1, _, _⟩ := words_fair e.nodes e 1 (Nat.le_refl _)
  unfold textE
  rw [words_in h, List.map_cons, List.map_append, join_cons (wn (4, [40])) _ (by simp) (.inl rfl)]
  show 40 :: joinW (_ ++ [(4, [41])]) = _
  rw [join_append_shut _ (by simpa using h1)]

theorem text_out {e : Ex} {L L' : Nat} (h : ¬ bindsK e.kind < L) (h' : ¬ bindsK e.kind < L') : textE e L = textE e L' := by
  unfold textE; rw [words_out h h']

theorem text_leaf (k : Int) (t : ByteArray) (n : Int) : textE (.mk k t n []) 1 = sp (wn (leafW k t n)).1 (wn (leafW k t n)).2 := by
  have := (binds_range k).1
  unfold textE
  rw [wordsE, if_neg (by omega)]
  rfl

theorem text_not (t : ByteArray) (n : Int) (a : Ex) : textE (.mk 6 t n [a]) 1 = wNot ++ 32 :: textE a 3 := by
  obtain ⟨h1, h2, _⟩ := words_fair a.nodes a 3 (Nat.le_refl _)
  unfold textE
  rw [wordsE, if_pos rfl, if_neg (by decide), List.map_cons, join_blank _ _ (by simpa using h1) (by decide) h2]
  rfl

theorem text_null {k : Int} (hk : k ≠ 6) (t : ByteArray) (n : Int) (a : Ex) : textE (.mk k t n [a]) 1 = textE a 5 ++ 32 :: (wIs ++ 32 :: wNull) := by
  have := (binds_range k).1
  obtain ⟨h1, _, h3⟩ := words_fair a.nodes a 5 (Nat.le_refl _)
  unfold textE
  rw [wordsE, if_neg hk, if_neg (by omega), List.map_append, join_append_blank _ _ (by simpa using h1) (by simp) h3 (by decide)]
  rfl

theorem text_two (k : Int) (t : ByteArray) (n : Int) (a b : Ex) (r : List Ex) (hs : signK k ≠ [40] ∧ signK k ≠ [41]) : textE (.mk k t n (a :: b :: r)) 1 = textE a (firstK k) ++ 32 :: (signK k ++ 32 :: textE b (bindsK k + 1)) := by
  have := (binds_range k).1
  obtain ⟨h1, _, h3⟩ := words_fair a.nodes a (firstK k) (Nat.le_refl _)
  obtain ⟨g1, g2, _⟩ := words_fair b.nodes b (bindsK k + 1) (Nat.le_refl _)
  have hsp : sp (wn (signW k)).1 (wn (signW k)).2 = signK k := by
    unfold signW wn
    split <;> rfl
  unfold textE
  rw [wordsE, if_neg (by omega), List.map_append, List.map_cons, join_append_blank _ _ (by simpa using h1) (by simp) h3 ?_, join_blank _ _ (by simpa using g1) ?_ g2, hsp]
  · intro h
    have : (wn (signW k)).2 = [40] := by rw [h]
    exact hs.1 this
  · intro h
    simp only [List.head?_cons, Option.some.injEq] at h
    have : (wn (signW k)).2 = [41] := by rw [h]
    exact hs.2 this

end Go.Proofs.YtpdcmmhhgnackaaGreatDoor
