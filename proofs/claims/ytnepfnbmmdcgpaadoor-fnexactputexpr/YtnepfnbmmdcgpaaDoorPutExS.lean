/- spec.l04Put writes the text of a right expression. -/
import Derived.Test.YtnepfnbmmdcgpaaDoorTextB
import Derived.Test.YtnepfnbmmdcgpaaDoorBindsS
import Derived.Test.YtnepfnbmmdcgpaaDoorShapeS
import Derived.Test.YtnepfnbmmdcgpaaDoorPutNameS
import Derived.Deep.RegionHeld3
namespace Go.Proofs.YtnepfnbmmdcgpaaDoor
open Go.RowKit

def PutP (d : Nat) : Prop := ∀ (e : Ex) (a : Option Addr) (c : Nat) (L : Nat) (w : World), shapeE e = true → e.nodes ≤ 40 → L ≤ 7 → KidsAt w d a c e.kids →
  Calls Tryd.prog 36 #[.agg #[.int .i64 e.kind, .string e.text, .int .i64 e.num, .slice a e.kids.length c], .int .i64 (L : Int)] w fun x w' => x = .returned (.string (tE e L)) ∧ Below w.heap.size w w'

theorem specBindsB (k : Int) (h0 : 0 ≤ k) (h1 : k ≤ 18) (w : World) (b : Int) (hb : (bindsK k : Int) = b) : Calls Tryd.prog 55 #[.int .i64 k] w fun e w' => e = .returned (.int .i64 b) ∧ w' = w := by
  subst hb; exact specBinds k h0 h1 w

/-- The last lines: brackets or none. -/
theorem tE_end {e : Ex} {L : Nat} {s : ByteArray} (hs : s = tE e 1) : (bindsK e.kind < L → tE e L = txt [40] ++ s ++ txt [41]) ∧ (¬ bindsK e.kind < L → tE e L = s) := by
  subst hs
  exact ⟨tE_in, tE_out⟩

theorem shape_parts {k : Int} {t : ByteArray} {n : Int} {kids : List Ex} (h : shapeE (.mk k t n kids) = true) : node1 k t n kids.length = true ∧ shapeL kids = true := by
  rw [shapeE, Bool.and_eq_true] at h; exact h

theorem kind_in {k : Int} {t : ByteArray} {n : Int} {m : Nat} (h : node1 k t n m = true) : 0 ≤ k ∧ k ≤ 18 := by
  have := arity h
  unfold kidsK at this
  split at this
  · omega
  · omega

theorem small_text {k : Int} {t : ByteArray} {n : Int} {m : Nat} (h : node1 k t n m = true) : t.size ≤ 100 := by
  unfold node1 at h
  simp only [Bool.and_eq_true] at h
  obtain ⟨⟨_, ht⟩, _⟩ := h
  split at ht
  · unfold nameB at ht
    simp only [Bool.and_eq_true, decide_eq_true_eq] at ht
    have hl : t.data.toList.length = t.size := by simp
    omega
  · split at ht
    · simpa using ht
    · have : t = txt [] := txt_empty ht
      rw [this]; decide

theorem small_num {k : Int} {t : ByteArray} {n : Int} {m : Nat} (h : node1 k t n m = true) : 0 ≤ n ∧ n ≤ 999999999 := by
  unfold node1 at h
  simp only [Bool.and_eq_true] at h
  have := h.2
  split at this
  · simpa using this
  · have : n = 0 := by simpa using this
    omega

set_option maxRecDepth 100000 in
set_option maxHeartbeats 4000000 in
/-- A leaf. -/
theorem putLeaf (k : Int) (t : ByteArray) (n : Int) (a : Option Addr) (c : Nat) (L : Nat) (w : World) (h : node1 k t n 0 = true) (hL : L ≤ 7) :
    Calls Tryd.prog 36 #[.agg #[.int .i64 k, .string t, .int .i64 n, .slice a 0 c], .int .i64 (L : Int)] w fun x w' => x = .returned (.string (tE (.mk k t n []) L)) ∧ Below w.heap.size w w' := by
  have hk := zero_kids (arity h)
  have hts := small_text h
  have hns := small_num h
  have HR : Hid (tE (.mk k t n []) L = tE (.mk k t n []) 1) := tE_out (by
    have : bindsK k = 7 := by rcases hk with rfl | rfl | rfl | rfl | rfl | rfl <;> rfl
    show ¬ bindsK k < L
    omega)
  have HBX := Lib.hid (fun T => boxK_new w k t n a 0 c T)
  have hd : decide ((7 : Int) < (L : Int)) = false := by simp; omega
  clear h
  rcases hk with rfl | rfl | rfl | rfl | rfl | rfl
  · have hq : ∃ r, nameT t = r := ⟨_, rfl⟩
    obtain ⟨r, hr⟩ := hq
    have HE : Hid (tE (.mk 0 t n []) L = r) := by unfold Hid; rw [HR.out, tE_name, hr]
    go_enter Tryd.func36, Tryd.ntmps36
    go_wp2_with (first | (go_at_call 55; refine (specBindsB 0 (by omega) (by omega) _ 7 rfl).mono ?_; rintro e w1 ⟨rfl, rfl⟩) | (go_at_call 56; refine (specPutName t _ (by omega) r hr).mono ?_; rintro e w2 ⟨rfl, hb2⟩))
    go_ret
    exact ⟨by rw [HE.out]; rfl, ((HBX.out _).below hb2).bel⟩
  · have HE : Hid (tE (.mk 1 t n []) L = dec n) := by unfold Hid; rw [HR.out, tE_num]
    go_enter Tryd.func36, Tryd.ntmps36
    go_wp2_with (first | (go_at_call 55; refine (specBindsB 1 (by omega) (by omega) _ 7 rfl).mono ?_; rintro e w1 ⟨rfl, rfl⟩) | (go_at_call 57; refine (specDecText n _ (by omega) (by omega)).mono ?_; rintro e w2 ⟨rfl, rfl⟩))
    go_ret
    exact ⟨by rw [HE.out]; rfl, (HBX.out _).bel⟩
  · have HE : Hid (tE (.mk 2 t n []) L = quoteT t 39) := by unfold Hid; rw [HR.out, tE_text]
    go_enter Tryd.func36, Tryd.ntmps36
    go_wp2_with (first | (go_at_call 55; refine (specBindsB 2 (by omega) (by omega) _ 7 rfl).mono ?_; rintro e w1 ⟨rfl, rfl⟩) | (go_at_call 58; refine (specQuote t 39 _ (by omega)).mono ?_; rintro e w2 ⟨rfl, hb2⟩))
    go_ret
    exact ⟨by rw [HE.out]; rfl, ((HBX.out _).below hb2).bel⟩
  · have HE : Hid (tE (.mk 3 t n []) L = txt wTrue) := by unfold Hid; rw [HR.out, tE_true]
    go_enter Tryd.func36, Tryd.ntmps36
    go_wp2_with (go_at_call 55; refine (specBindsB 3 (by omega) (by omega) _ 7 rfl).mono ?_; rintro e w1 ⟨rfl, rfl⟩)
    go_ret
    exact ⟨by rw [HE.out]; rfl, (HBX.out _).bel⟩
  · have HE : Hid (tE (.mk 4 t n []) L = txt wFalse) := by unfold Hid; rw [HR.out, tE_false]
    go_enter Tryd.func36, Tryd.ntmps36
    go_wp2_with (go_at_call 55; refine (specBindsB 4 (by omega) (by omega) _ 7 rfl).mono ?_; rintro e w1 ⟨rfl, rfl⟩)
    go_ret
    exact ⟨by rw [HE.out]; rfl, (HBX.out _).bel⟩
  · have HE : Hid (tE (.mk 5 t n []) L = txt wNull) := by unfold Hid; rw [HR.out, tE_nul]
    go_enter Tryd.func36, Tryd.ntmps36
    go_wp2_with (go_at_call 55; refine (specBindsB 5 (by omega) (by omega) _ 7 rfl).mono ?_; rintro e w1 ⟨rfl, rfl⟩)
    go_ret
    exact ⟨by rw [HE.out]; rfl, (HBX.out _).bel⟩

set_option maxRecDepth 100000 in
set_option maxHeartbeats 4000000 in
/-- A not, or an is null. -/
theorem putOne (d : Nat) (ih : PutP d) (k : Int) (hk : k = 6 ∨ k = 7) (t : ByteArray) (n : Int) (x : Ex) (a : Option Addr) (c : Nat) (L : Nat) (w : World) (hs : shapeE x = true) (hn : x.nodes ≤ 39) (hL : L ≤ 7) (hx : KidsAt w (d + 1) a c [x]) :
    Calls Tryd.prog 36 #[.agg #[.int .i64 k, .string t, .int .i64 n, .slice a 1 c], .int .i64 (L : Int)] w fun z w' => z = .returned (.string (tE (.mk k t n [x]) L)) ∧ Below w.heap.size w w' := by
  have HBX := Lib.hid (fun T => boxK_new w k t n a 1 c T)
  have HK := Lib.hid (fun w' hb => hx.below (w' := w') hb)
  clear hx
  have l1 : (ByteArray.mk #[110, 111, 116, 32]).size = 4 := rfl
  have l2 : (ByteArray.mk #[32, 105, 115, 32, 110, 117, 108, 108]).size = 8 := rfl
  have l3 : (ByteArray.mk #[40]).size = 1 := rfl
  have l4 : (ByteArray.mk #[41]).size = 1 := rfl
  rcases hk with rfl | rfl
  · obtain ⟨s, hs1⟩ : ∃ s, s = tE x 3 := ⟨_, rfl⟩
    have hsz : s.size ≤ 8400 := by rw [hs1]; exact tE_size hs (by omega)
    have HE := Lib.hid (tE_end (e := .mk 6 t n [x]) (L := L) (s := (ByteArray.mk #[110, 111, 116, 32]) ++ s) (by rw [tE_not, hs1]; rfl))
    have HS := Lib.hid hs1
    clear hs1
    have ad0 : ∀ w, (Op.stringOp .add (ByteArray.mk #[110, 111, 116, 32]) s).run Tryd.prog w = .ok (.string ((ByteArray.mk #[110, 111, 116, 32]) ++ s)) w := fun w => run_string_add_sum w _ _ (by omega)
    obtain ⟨s1, hs1⟩ : ∃ s1, s1 = (ByteArray.mk #[110, 111, 116, 32]) ++ s := ⟨_, rfl⟩
    rw [← hs1] at ad0 HE
    have hs1z : s1.size ≤ 8404 := by rw [hs1, ByteArray.size_append]; omega
    clear hs1
    have ad1 : ∀ w, (Op.stringOp .add (ByteArray.mk #[40]) s1).run Tryd.prog w = .ok (.string ((ByteArray.mk #[40]) ++ s1)) w := fun w => run_string_add_sum w _ _ (by omega)
    have ad2 : ∀ w, (Op.stringOp .add ((ByteArray.mk #[40]) ++ s1) (ByteArray.mk #[41])).run Tryd.prog w = .ok (.string ((ByteArray.mk #[40]) ++ s1 ++ (ByteArray.mk #[41]))) w := fun w => run_string_add_sum w _ _ (by rw [ByteArray.size_append]; omega)
    go_enter Tryd.func36, Tryd.ntmps36
    go_wp2_with fail
    refine (specBindsB 6 (by omega) (by omega) _ 3 rfl).mono ?_
    rintro e w1 ⟨rfl, rfl⟩
    have BX := HBX.out 26
    generalize w.alloc (.cells #[.int .i64 6, .string t, .int .i64 n, .slice a 1 c] 26) = W1 at BX ⊢
    obtain ⟨hW1, c0, c1, c2, c3, bW1⟩ := BX
    obtain ⟨b, off, rfl, hbl, d0, d1, d2, hfit, a', c', d3, hkid⟩ := (HK.out _ bW1).spot (i := 0) (by simp)
    simp only [List.getElem_cons_zero, Nat.zero_mul, Nat.add_zero] at d0 d1 d2 d3 hkid hfit
    have HX := Lib.hid hkid
    clear hkid
    go_wp2_with fail
    refine (ih x a' c' 3 _ hs (by omega) (by omega) HX.out).mono ?_
    rw [← HS.out]
    rintro z w2 ⟨rfl, hb2⟩
    have B2 := Lib.hid (bW1.trans (hb2.mono bW1.size))
    clear hb2 d0 d1 d2 d3
    by_cases hlt : (3 : Int) < (L : Int)
    · have HR := Lib.hid (HE.out.1 (by show 3 < L; omega))
      go_wp2_with fail
      go_ret
      exact ⟨by rw [HR.out]; rfl, B2.out⟩
    · have HR := Lib.hid (HE.out.2 (by show ¬ 3 < L; omega))
      go_wp2_with fail
      go_ret
      exact ⟨by rw [HR.out]; rfl, B2.out⟩
  · obtain ⟨s, hs1⟩ : ∃ s, s = tE x 5 := ⟨_, rfl⟩
    have hsz : s.size ≤ 8400 := by rw [hs1]; exact tE_size hs (by omega)
    have HE := Lib.hid (tE_end (e := .mk 7 t n [x]) (L := L) (s := s ++ (ByteArray.mk #[32, 105, 115, 32, 110, 117, 108, 108])) (by rw [tE_null, hs1]; rfl))
    have HS := Lib.hid hs1
    clear hs1
    have ad0 : ∀ w, (Op.stringOp .add s (ByteArray.mk #[32, 105, 115, 32, 110, 117, 108, 108])).run Tryd.prog w = .ok (.string (s ++ (ByteArray.mk #[32, 105, 115, 32, 110, 117, 108, 108]))) w := fun w => run_string_add_sum w _ _ (by omega)
    obtain ⟨s1, hs1⟩ : ∃ s1, s1 = s ++ (ByteArray.mk #[32, 105, 115, 32, 110, 117, 108, 108]) := ⟨_, rfl⟩
    rw [← hs1] at ad0 HE
    have hs1z : s1.size ≤ 8408 := by rw [hs1, ByteArray.size_append]; omega
    clear hs1
    have ad1 : ∀ w, (Op.stringOp .add (ByteArray.mk #[40]) s1).run Tryd.prog w = .ok (.string ((ByteArray.mk #[40]) ++ s1)) w := fun w => run_string_add_sum w _ _ (by omega)
    have ad2 : ∀ w, (Op.stringOp .add ((ByteArray.mk #[40]) ++ s1) (ByteArray.mk #[41])).run Tryd.prog w = .ok (.string ((ByteArray.mk #[40]) ++ s1 ++ (ByteArray.mk #[41]))) w := fun w => run_string_add_sum w _ _ (by rw [ByteArray.size_append]; omega)
    go_enter Tryd.func36, Tryd.ntmps36
    go_wp2_with fail
    refine (specBindsB 7 (by omega) (by omega) _ 4 rfl).mono ?_
    rintro e w1 ⟨rfl, rfl⟩
    have BX := HBX.out 26
    generalize w.alloc (.cells #[.int .i64 7, .string t, .int .i64 n, .slice a 1 c] 26) = W1 at BX ⊢
    obtain ⟨hW1, c0, c1, c2, c3, bW1⟩ := BX
    obtain ⟨b, off, rfl, hbl, d0, d1, d2, hfit, a', c', d3, hkid⟩ := (HK.out _ bW1).spot (i := 0) (by simp)
    simp only [List.getElem_cons_zero, Nat.zero_mul, Nat.add_zero] at d0 d1 d2 d3 hkid hfit
    have HX := Lib.hid hkid
    clear hkid
    go_wp2_with fail
    refine (ih x a' c' 5 _ hs (by omega) (by omega) HX.out).mono ?_
    rw [← HS.out]
    rintro z w2 ⟨rfl, hb2⟩
    have B2 := Lib.hid (bW1.trans (hb2.mono bW1.size))
    clear hb2 d0 d1 d2 d3
    by_cases hlt : (4 : Int) < (L : Int)
    · have HR := Lib.hid (HE.out.1 (by show 4 < L; omega))
      go_wp2_with fail
      go_ret
      exact ⟨by rw [HR.out]; rfl, B2.out⟩
    · have HR := Lib.hid (HE.out.2 (by show ¬ 4 < L; omega))
      go_wp2_with fail
      go_ret
      exact ⟨by rw [HR.out]; rfl, B2.out⟩

end Go.Proofs.YtnepfnbmmdcgpaaDoor
