/- The model's own look at an expression: spec.l04Kids, spec.l04Shape, spec.ExprOk. -/
import Derived.Test.YtefjjcoaeanagaaDoorExprQ
import Derived.Test.YtefjjcoaeanagaaDoorMEx
import Derived.Test.YtefjjcoaeanagaaDoorMExNodes
import Derived.Test.YtefjjcoaeanagaaDoorMExSz
import Derived.Test.YtefjjcoaeanagaaDoorMLexSpec1
import Derived.Deep.RegionHeld3
namespace Go.Proofs.YtefjjcoaeanagaaDoor
open Go.RowKit

set_option maxHeartbeats 1000000 in
theorem specKids (k : Int) (w : World) (v : Int) (hv : kidsK k = v) :
    Calls Tryd.prog 59 #[.int .i64 k] w fun e w' => e = .returned (.int .i64 v) ∧ w = w' := by
  unfold kidsK at hv
  by_cases h1 : k < 0 ∨ 18 < k
  · rw [if_pos h1] at hv
    subst hv
    have H1 : Hid (inI k 0 18 = false) := by unfold Hid inI; simp; omega
    clear h1
    go_enter Tryd.func59, Tryd.ntmps59
    go_wp2_with (go_at_call 73; refine (specInIs _ 0 18 _ false H1.out).mono ?_; rintro e w' ⟨rfl, rfl⟩)
    go_ret
    exact ⟨rfl, rfl⟩
  · rw [if_neg h1] at hv
    have H1 : Hid (inI k 0 18 = true) := by unfold Hid inI; simp; omega
    by_cases h5 : k ≤ 5
    · rw [if_pos h5] at hv
      subst hv
      clear h1
      go_enter Tryd.func59, Tryd.ntmps59
      go_wp2_with (go_at_call 73; refine (specInIs _ 0 18 _ true H1.out).mono ?_; rintro e w' ⟨rfl, rfl⟩)
      go_ret
      exact ⟨rfl, rfl⟩
    · rw [if_neg h5] at hv
      by_cases h7 : k ≤ 7
      · rw [if_pos h7] at hv
        subst hv
        clear h1
        go_enter Tryd.func59, Tryd.ntmps59
        go_wp2_with (go_at_call 73; refine (specInIs _ 0 18 _ true H1.out).mono ?_; rintro e w' ⟨rfl, rfl⟩)
        go_ret
        exact ⟨rfl, rfl⟩
      · rw [if_neg h7] at hv
        subst hv
        clear h1
        go_enter Tryd.func59, Tryd.ntmps59
        go_wp2_with (go_at_call 73; refine (specInIs _ 0 18 _ true H1.out).mono ?_; rintro e w' ⟨rfl, rfl⟩)
        go_ret
        exact ⟨rfl, rfl⟩

theorem specKidsQ (k : Int) (w : World) (v : Int) (hv : kidsK k = v) :
    Calls Tryd.prog 59 #[.int .i64 k] w fun e w' => e = .returned (.int .i64 v) ∧ w' = w := (specKids k w v hv).mono fun _ _ h => ⟨h.1, h.2.symm⟩

def ShapeP (d : Nat) : Prop := ∀ (k : Int) (t : ByteArray) (n : Int) (kids : List Ex) (a : Option Addr) (c : Nat) (w : World), t.size ≤ 1048576 → wtL kids ≤ 1048576 → KidsAt w d a c kids →
  Calls Tryd.prog 43 #[.agg #[.int .i64 k, .string t, .int .i64 n, .slice a kids.length c]] w fun x w' => x = .returned (.bool (shapeE (.mk k t n kids))) ∧ Below w.heap.size w w'

theorem shape_eq (k : Int) (t : ByteArray) (n : Int) (kids : List Ex) : shapeE (.mk k t n kids) = (node1 k t n kids.length && shapeL kids) := by rw [shapeE]

theorem shapeL_drop (l : List Ex) (k : Nat) (h : k < l.length) : shapeL (l.drop k) = (shapeE l[k] && shapeL (l.drop (k + 1))) := by
  rw [List.drop_eq_getElem_cons h, shapeL]

theorem Ex.eta (e : Ex) : e = .mk e.kind e.text e.num e.kids := by cases e; rfl

/-- The cells of the argument's own box. -/
structure BoxK (w : World) (k : Int) (t : ByteArray) (n : Int) (a : Option Addr) (l c : Nat) (w1 : World) : Prop where
  lt : w.heap.size < w1.heap.size
  c0 : w1.cell? ⟨w.heap.size, 0, none⟩ = some (.int .i64 k)
  c1 : w1.cell? ⟨w.heap.size, 1, none⟩ = some (.string t)
  c2 : w1.cell? ⟨w.heap.size, 2, none⟩ = some (.int .i64 n)
  c3 : w1.cell? ⟨w.heap.size, 3, none⟩ = some (.slice a l c)
  bel : Below w.heap.size w w1

theorem boxK_new (w : World) (k : Int) (t : ByteArray) (n : Int) (a : Option Addr) (l c : Nat) (T : TypeId) : BoxK w k t n a l c (w.alloc (.cells #[.int .i64 k, .string t, .int .i64 n, .slice a l c] T)) :=
  ⟨by simp, by simp [go_sem], by simp [go_sem], by simp [go_sem], by simp [go_sem], (Below.refl _ _).alloc (Nat.le_refl _) _⟩

theorem BoxK.below {w w1 w2 : World} {k : Int} {t : ByteArray} {n : Int} {a : Option Addr} {l c : Nat} (h : BoxK w k t n a l c w1) (hb : Below w1.heap.size w1 w2) : BoxK w k t n a l c w2 :=
  ⟨Nat.lt_of_lt_of_le h.lt hb.size, (hb.cell (p := ⟨w.heap.size, 0, none⟩) h.lt).trans h.c0, (hb.cell (p := ⟨w.heap.size, 1, none⟩) h.lt).trans h.c1, (hb.cell (p := ⟨w.heap.size, 2, none⟩) h.lt).trans h.c2, (hb.cell (p := ⟨w.heap.size, 3, none⟩) h.lt).trans h.c3, h.bel.trans (hb.mono h.bel.size)⟩

theorem BoxK.drewN {w w1 : World} {k : Int} {t : ByteArray} {n : Int} {a : Option Addr} {l c : Nat} (h : BoxK w k t n a l c w1) (m : Nat) : BoxK w k t n a l c (w1.drewN m) := h.below (below_drewN (Below.refl _ _) m)

set_option maxRecDepth 100000 in
set_option maxHeartbeats 4000000 in
theorem specShape : ∀ d, ShapeP d
  | 0 => fun _ _ _ _ _ _ _ _ _ h => h.elim
  | d + 1 => by
    intro k t n kids a c w ht hwt hk
    have ih := specShape d
    have hl := hk.len
    have HK := Lib.hid (fun w' hb => hk.below (w' := w') hb)
    have HSE := Lib.hid (shape_eq k t n kids)
    have HBX := Lib.hid (fun T m => (boxK_new w k t n a kids.length c T).drewN m)
    have ht9 : t.size ≤ 9223372036854775807 := by omega
    clear hk
    by_cases hlen : (kids.length : Int) = kidsK k
    · have hin : 0 ≤ k ∧ k ≤ 18 := by unfold kidsK at hlen; split at hlen <;> omega
      have hne : (((kids.length : Int)) != kidsK k) = false := by simp; exact hlen
      have HLn := Lib.hid hlen
      by_cases k0 : k = 0
      · subst k0
        generalize hkk : kidsK 0 = m at hne
        cases hnm : nameB t.data.toList with
        | false =>
          have HNM := Lib.hid hnm
          have HN1 : Hid (node1 0 t n kids.length = false) := by unfold Hid node1; rw [if_pos rfl, hnm]; simp
          clear hnm
          go_enter Tryd.func43, Tryd.ntmps43
          go_wp2_with fail
          go_quiet ((go_at_call 59; exact Calls.quiet_of_same (specKidsQ 0 _ _ hkk)))
          have BX := HBX.out 26 nq
          generalize World.drewN (w.alloc (.cells #[.int .i64 0, .string t, .int .i64 n, .slice a kids.length c] 26)) nq = W1 at BX ⊢
          obtain ⟨hW1, c0, c1, c2, c3, bW1⟩ := BX
          go_wp2_with (go_at_call 72; refine (specNameOk t _ ht _ HNM.out).mono ?_; rintro e w1 ⟨rfl, rfl⟩)
          go_ret
          exact ⟨by rw [HSE.out, HN1.out]; rfl, bW1⟩
        | true =>
          have HNM := Lib.hid hnm
          by_cases hn0 : n = 0
          · subst hn0
            have HN1 : Hid (node1 0 t 0 kids.length = true) := by unfold Hid node1; rw [if_pos rfl, hnm, decide_eq_true HLn.out]; rfl
            clear hnm
            go_enter Tryd.func43, Tryd.ntmps43
            go_wp2_with fail
            go_quiet ((go_at_call 59; exact Calls.quiet_of_same (specKidsQ 0 _ _ hkk)))
            have BX := HBX.out 26 nq
            generalize World.drewN (w.alloc (.cells #[.int .i64 0, .string t, .int .i64 0, .slice a kids.length c] 26)) nq = W1 at BX ⊢
            obtain ⟨hW1, c0, c1, c2, c3, bW1⟩ := BX
            go_wp2_with (go_at_call 72; refine (specNameOk t _ ht _ HNM.out).mono ?_; rintro e w1 ⟨rfl, rfl⟩)
            go_loopw [3] (fun i wr => ∃ j : Nat, j ≤ kids.length ∧ i = .int .i64 j ∧ Hid (BoxK w 0 t 0 a kids.length c wr) ∧ Hid (shapeL kids = shapeL (kids.drop j))) (fun i _ => kids.length - (intOf i).toNat)
            case atStart => exact ⟨0, Nat.zero_le _, rfl, ⟨hW1, c0, c1, c2, c3, bW1⟩, rfl⟩
            case round =>
              obtain ⟨j, hj, rfl, BX2, HD⟩ := hrel
              obtain ⟨hW2, c0', c1', c2', c3', bW2⟩ := BX2.out
              by_cases hlt : j < kids.length
              · obtain ⟨b, off, rfl, hbl, d0, d1, d2, hfit, a', c', d3, hkid⟩ := (HK.out _ bW2).spot hlt
                have HT := Lib.hid (shapeL_drop kids j hlt)
                have HX := Lib.hid hkid
                have HG := Lib.hid (wtL_get hlt)
                have HE := Lib.hid (Ex.eta kids[j])
                have HW := Lib.hid (Ex.wt_eq kids[j])
                clear hkid
                go_wp2_with fail
                refine (ih kids[j].kind kids[j].text kids[j].num kids[j].kids a' c' _ (by have := HG.out; have := HW.out; omega) (by have := HG.out; have := HW.out; omega) HX.out).mono ?_
                rw [← HE.out]
                rintro x w2 ⟨rfl, hb2⟩
                have BX3 := Lib.hid (BX2.out.below hb2)
                clear d0 d1 d2 d3 c0' c1' c2' c3' hb2
                cases hs : shapeE kids[j] with
                | true =>
                  have HS := Lib.hid hs
                  clear hs
                  go_wp2_with fail
                  go_roundw
                  case rel => exact ⟨j + 1, by omega, by go_num, BX3, by unfold Hid; rw [HD.out, HT.out, HS.out, Bool.true_and]⟩
                  case measure => simp [intOf]; omega
                | false =>
                  have HS := Lib.hid hs
                  clear hs
                  go_wp2_with fail
                  go_ret
                  exact ⟨by rw [HSE.out, HD.out, HT.out, HS.out]; simp, BX3.out.bel⟩
              · obtain rfl : j = kids.length := by omega
                go_wp2_with fail
                go_ret
                exact ⟨by rw [HSE.out, HN1.out, HD.out, List.drop_length]; rfl, bW2⟩
          · have HN1 : Hid (node1 0 t n kids.length = false) := by unfold Hid node1; rw [if_neg (show ¬ (0 : Int) = 1 by omega), decide_eq_false hn0]; simp
            have hnb : (n != 0) = true := by simp; exact hn0
            clear hnm hn0
            go_enter Tryd.func43, Tryd.ntmps43
            go_wp2_with fail
            go_quiet ((go_at_call 59; exact Calls.quiet_of_same (specKidsQ 0 _ _ hkk)))
            have BX := HBX.out 26 nq
            generalize World.drewN (w.alloc (.cells #[.int .i64 0, .string t, .int .i64 n, .slice a kids.length c] 26)) nq = W1 at BX ⊢
            obtain ⟨hW1, c0, c1, c2, c3, bW1⟩ := BX
            go_wp2_with (go_at_call 72; refine (specNameOk t _ ht _ HNM.out).mono ?_; rintro e w1 ⟨rfl, rfl⟩)
            go_ret
            exact ⟨by rw [HSE.out, HN1.out]; rfl, bW1⟩
      by_cases k1 : k = 1
      · subst k1
        generalize hkk : kidsK 1 = m at hne
        cases htx : t.toList.isEmpty with
        | false =>
          have htb : (!t.toList.isEmpty) = true := by rw [htx]; rfl
          have HN1 : Hid (node1 1 t n kids.length = false) := by unfold Hid node1; rw [if_neg (by omega), if_neg (by omega), htx]; simp
          clear htx
          go_enter Tryd.func43, Tryd.ntmps43
          go_wp2_with fail
          go_quiet ((go_at_call 59; exact Calls.quiet_of_same (specKidsQ 1 _ _ hkk)))
          have BX := HBX.out 26 nq
          generalize World.drewN (w.alloc (.cells #[.int .i64 1, .string t, .int .i64 n, .slice a kids.length c] 26)) nq = W1 at BX ⊢
          obtain ⟨hW1, c0, c1, c2, c3, bW1⟩ := BX
          go_wp2_with fail
          go_ret
          exact ⟨by rw [HSE.out, HN1.out]; rfl, bW1⟩
        | true =>
          have htb : (!t.toList.isEmpty) = false := by rw [htx]; rfl
          cases hin1 : inI n 0 999999999 with
          | true =>
            have HIN := Lib.hid hin1
            have HN1 : Hid (node1 1 t n kids.length = true) := by unfold Hid node1; rw [if_neg (by omega), if_neg (by omega), if_pos rfl, htx, decide_eq_true HLn.out]; unfold inI at hin1; simpa using hin1
            clear htx hin1
            go_enter Tryd.func43, Tryd.ntmps43
            go_wp2_with fail
            go_quiet ((go_at_call 59; exact Calls.quiet_of_same (specKidsQ 1 _ _ hkk)))
            have BX := HBX.out 26 nq
            generalize World.drewN (w.alloc (.cells #[.int .i64 1, .string t, .int .i64 n, .slice a kids.length c] 26)) nq = W1 at BX ⊢
            obtain ⟨hW1, c0, c1, c2, c3, bW1⟩ := BX
            go_wp2_with (go_at_call 73; refine (specInIs _ 0 999999999 _ _ HIN.out).mono ?_; rintro e w1 ⟨rfl, rfl⟩)
            go_loopw [3] (fun i wr => ∃ j : Nat, j ≤ kids.length ∧ i = .int .i64 j ∧ Hid (BoxK w 1 t n a kids.length c wr) ∧ Hid (shapeL kids = shapeL (kids.drop j))) (fun i _ => kids.length - (intOf i).toNat)
            case atStart => exact ⟨0, Nat.zero_le _, rfl, ⟨hW1, c0, c1, c2, c3, bW1⟩, rfl⟩
            case round =>
              obtain ⟨j, hj, rfl, BX2, HD⟩ := hrel
              obtain ⟨hW2, c0', c1', c2', c3', bW2⟩ := BX2.out
              by_cases hlt : j < kids.length
              · obtain ⟨b, off, rfl, hbl, d0, d1, d2, hfit, a', c', d3, hkid⟩ := (HK.out _ bW2).spot hlt
                have HT := Lib.hid (shapeL_drop kids j hlt)
                have HX := Lib.hid hkid
                have HG := Lib.hid (wtL_get hlt)
                have HE := Lib.hid (Ex.eta kids[j])
                have HW := Lib.hid (Ex.wt_eq kids[j])
                clear hkid
                go_wp2_with fail
                refine (ih kids[j].kind kids[j].text kids[j].num kids[j].kids a' c' _ (by have := HG.out; have := HW.out; omega) (by have := HG.out; have := HW.out; omega) HX.out).mono ?_
                rw [← HE.out]
                rintro x w2 ⟨rfl, hb2⟩
                have BX3 := Lib.hid (BX2.out.below hb2)
                clear d0 d1 d2 d3 c0' c1' c2' c3' hb2
                cases hs : shapeE kids[j] with
                | true =>
                  have HS := Lib.hid hs
                  clear hs
                  go_wp2_with fail
                  go_roundw
                  case rel => exact ⟨j + 1, by omega, by go_num, BX3, by unfold Hid; rw [HD.out, HT.out, HS.out, Bool.true_and]⟩
                  case measure => simp [intOf]; omega
                | false =>
                  have HS := Lib.hid hs
                  clear hs
                  go_wp2_with fail
                  go_ret
                  exact ⟨by rw [HSE.out, HD.out, HT.out, HS.out]; simp, BX3.out.bel⟩
              · obtain rfl : j = kids.length := by omega
                go_wp2_with fail
                go_ret
                exact ⟨by rw [HSE.out, HN1.out, HD.out, List.drop_length]; rfl, bW2⟩
          | false =>
            have HIN := Lib.hid hin1
            have HN1 : Hid (node1 1 t n kids.length = false) := by unfold Hid node1; rw [if_neg (by omega), if_neg (by omega), if_pos rfl, show decide (0 ≤ n ∧ n ≤ 999999999) = false from decide_eq_false (by intro h; rw [show inI n 0 999999999 = true by unfold inI; simp; exact h] at hin1; cases hin1)]; simp
            clear htx hin1
            go_enter Tryd.func43, Tryd.ntmps43
            go_wp2_with fail
            go_quiet ((go_at_call 59; exact Calls.quiet_of_same (specKidsQ 1 _ _ hkk)))
            have BX := HBX.out 26 nq
            generalize World.drewN (w.alloc (.cells #[.int .i64 1, .string t, .int .i64 n, .slice a kids.length c] 26)) nq = W1 at BX ⊢
            obtain ⟨hW1, c0, c1, c2, c3, bW1⟩ := BX
            go_wp2_with (go_at_call 73; refine (specInIs _ 0 999999999 _ _ HIN.out).mono ?_; rintro e w1 ⟨rfl, rfl⟩)
            go_ret
            exact ⟨by rw [HSE.out, HN1.out]; rfl, bW1⟩
      by_cases k2 : k = 2
      · subst k2
        generalize hkk : kidsK 2 = m at hne
        by_cases htx : t.size ≤ 100
        · by_cases hn0 : n = 0
          · subst hn0
            have HN1 : Hid (node1 2 t 0 kids.length = true) := by unfold Hid node1; rw [if_neg (by omega), if_pos rfl, if_neg (by omega), decide_eq_true htx, decide_eq_true HLn.out]; rfl
            go_enter Tryd.func43, Tryd.ntmps43
            go_wp2_with fail
            go_quiet ((go_at_call 59; exact Calls.quiet_of_same (specKidsQ 2 _ _ hkk)))
            have BX := HBX.out 26 nq
            generalize World.drewN (w.alloc (.cells #[.int .i64 2, .string t, .int .i64 0, .slice a kids.length c] 26)) nq = W1 at BX ⊢
            obtain ⟨hW1, c0, c1, c2, c3, bW1⟩ := BX
            go_wp2_with fail
            go_loopw [3] (fun i wr => ∃ j : Nat, j ≤ kids.length ∧ i = .int .i64 j ∧ Hid (BoxK w 2 t 0 a kids.length c wr) ∧ Hid (shapeL kids = shapeL (kids.drop j))) (fun i _ => kids.length - (intOf i).toNat)
            case atStart => exact ⟨0, Nat.zero_le _, rfl, ⟨hW1, c0, c1, c2, c3, bW1⟩, rfl⟩
            case round =>
              obtain ⟨j, hj, rfl, BX2, HD⟩ := hrel
              obtain ⟨hW2, c0', c1', c2', c3', bW2⟩ := BX2.out
              by_cases hlt : j < kids.length
              · obtain ⟨b, off, rfl, hbl, d0, d1, d2, hfit, a', c', d3, hkid⟩ := (HK.out _ bW2).spot hlt
                have HT := Lib.hid (shapeL_drop kids j hlt)
                have HX := Lib.hid hkid
                have HG := Lib.hid (wtL_get hlt)
                have HE := Lib.hid (Ex.eta kids[j])
                have HW := Lib.hid (Ex.wt_eq kids[j])
                clear hkid
                go_wp2_with fail
                refine (ih kids[j].kind kids[j].text kids[j].num kids[j].kids a' c' _ (by have := HG.out; have := HW.out; omega) (by have := HG.out; have := HW.out; omega) HX.out).mono ?_
                rw [← HE.out]
                rintro x w2 ⟨rfl, hb2⟩
                have BX3 := Lib.hid (BX2.out.below hb2)
                clear d0 d1 d2 d3 c0' c1' c2' c3' hb2
                cases hs : shapeE kids[j] with
                | true =>
                  have HS := Lib.hid hs
                  clear hs
                  go_wp2_with fail
                  go_roundw
                  case rel => exact ⟨j + 1, by omega, by go_num, BX3, by unfold Hid; rw [HD.out, HT.out, HS.out, Bool.true_and]⟩
                  case measure => simp [intOf]; omega
                | false =>
                  have HS := Lib.hid hs
                  clear hs
                  go_wp2_with fail
                  go_ret
                  exact ⟨by rw [HSE.out, HD.out, HT.out, HS.out]; simp, BX3.out.bel⟩
              · obtain rfl : j = kids.length := by omega
                go_wp2_with fail
                go_ret
                exact ⟨by rw [HSE.out, HN1.out, HD.out, List.drop_length]; rfl, bW2⟩
          · have HN1 : Hid (node1 2 t n kids.length = false) := by unfold Hid node1; rw [if_neg (show ¬ (2 : Int) = 1 by omega), decide_eq_false hn0]; simp
            have hnb : (n != 0) = true := by simp; exact hn0
            clear hn0
            go_enter Tryd.func43, Tryd.ntmps43
            go_wp2_with fail
            go_quiet ((go_at_call 59; exact Calls.quiet_of_same (specKidsQ 2 _ _ hkk)))
            have BX := HBX.out 26 nq
            generalize World.drewN (w.alloc (.cells #[.int .i64 2, .string t, .int .i64 n, .slice a kids.length c] 26)) nq = W1 at BX ⊢
            obtain ⟨hW1, c0, c1, c2, c3, bW1⟩ := BX
            go_wp2_with fail
            go_ret
            exact ⟨by rw [HSE.out, HN1.out]; rfl, bW1⟩
        · have HN1 : Hid (node1 2 t n kids.length = false) := by unfold Hid node1; rw [if_neg (by omega), if_pos rfl, decide_eq_false htx]; simp
          go_enter Tryd.func43, Tryd.ntmps43
          go_wp2_with fail
          go_quiet ((go_at_call 59; exact Calls.quiet_of_same (specKidsQ 2 _ _ hkk)))
          have BX := HBX.out 26 nq
          generalize World.drewN (w.alloc (.cells #[.int .i64 2, .string t, .int .i64 n, .slice a kids.length c] 26)) nq = W1 at BX ⊢
          obtain ⟨hW1, c0, c1, c2, c3, bW1⟩ := BX
          go_wp2_with fail
          go_ret
          exact ⟨by rw [HSE.out, HN1.out]; rfl, bW1⟩
      have kb0 : (k == 0) = false := by simp; exact k0
      have kb1 : (k == 1) = false := by simp; exact k1
      have kb2 : (k == 2) = false := by simp; exact k2
      have kb3 : (k != 1) = true := by simp; exact k1
      generalize hkk : kidsK k = m at hne
      cases htx : t.toList.isEmpty with
      | false =>
        have htb : (!t.toList.isEmpty) = true := by rw [htx]; rfl
        have HN1 : Hid (node1 k t n kids.length = false) := by unfold Hid node1; rw [if_neg k0, if_neg k2, htx]; simp
        clear htx k0 k1 k2
        go_enter Tryd.func43, Tryd.ntmps43
        go_wp2_with fail
        go_quiet ((go_at_call 59; exact Calls.quiet_of_same (specKidsQ k _ _ hkk)))
        have BX := HBX.out 26 nq
        generalize World.drewN (w.alloc (.cells #[.int .i64 k, .string t, .int .i64 n, .slice a kids.length c] 26)) nq = W1 at BX ⊢
        obtain ⟨hW1, c0, c1, c2, c3, bW1⟩ := BX
        go_wp2_with fail
        go_ret
        exact ⟨by rw [HSE.out, HN1.out]; rfl, bW1⟩
      | true =>
        have htb : (!t.toList.isEmpty) = false := by rw [htx]; rfl
        by_cases hn0 : n = 0
        · subst hn0
          have HN1 : Hid (node1 k t 0 kids.length = true) := by unfold Hid node1; rw [if_neg k0, if_neg k2, if_neg k1, htx, decide_eq_true HLn.out]; rfl
          clear htx k0 k1 k2
          go_enter Tryd.func43, Tryd.ntmps43
          go_wp2_with fail
          go_quiet ((go_at_call 59; exact Calls.quiet_of_same (specKidsQ k _ _ hkk)))
          have BX := HBX.out 26 nq
          generalize World.drewN (w.alloc (.cells #[.int .i64 k, .string t, .int .i64 0, .slice a kids.length c] 26)) nq = W1 at BX ⊢
          obtain ⟨hW1, c0, c1, c2, c3, bW1⟩ := BX
          go_wp2_with fail
          go_loopw [3] (fun i wr => ∃ j : Nat, j ≤ kids.length ∧ i = .int .i64 j ∧ Hid (BoxK w k t 0 a kids.length c wr) ∧ Hid (shapeL kids = shapeL (kids.drop j))) (fun i _ => kids.length - (intOf i).toNat)
          case atStart => exact ⟨0, Nat.zero_le _, rfl, ⟨hW1, c0, c1, c2, c3, bW1⟩, rfl⟩
          case round =>
            obtain ⟨j, hj, rfl, BX2, HD⟩ := hrel
            obtain ⟨hW2, c0', c1', c2', c3', bW2⟩ := BX2.out
            by_cases hlt : j < kids.length
            · obtain ⟨b, off, rfl, hbl, d0, d1, d2, hfit, a', c', d3, hkid⟩ := (HK.out _ bW2).spot hlt
              have HT := Lib.hid (shapeL_drop kids j hlt)
              have HX := Lib.hid hkid
              have HG := Lib.hid (wtL_get hlt)
              have HE := Lib.hid (Ex.eta kids[j])
              have HW := Lib.hid (Ex.wt_eq kids[j])
              clear hkid
              go_wp2_with fail
              refine (ih kids[j].kind kids[j].text kids[j].num kids[j].kids a' c' _ (by have := HG.out; have := HW.out; omega) (by have := HG.out; have := HW.out; omega) HX.out).mono ?_
              rw [← HE.out]
              rintro x w2 ⟨rfl, hb2⟩
              have BX3 := Lib.hid (BX2.out.below hb2)
              clear d0 d1 d2 d3 c0' c1' c2' c3' hb2
              cases hs : shapeE kids[j] with
              | true =>
                have HS := Lib.hid hs
                clear hs
                go_wp2_with fail
                go_roundw
                case rel => exact ⟨j + 1, by omega, by go_num, BX3, by unfold Hid; rw [HD.out, HT.out, HS.out, Bool.true_and]⟩
                case measure => simp [intOf]; omega
              | false =>
                have HS := Lib.hid hs
                clear hs
                go_wp2_with fail
                go_ret
                exact ⟨by rw [HSE.out, HD.out, HT.out, HS.out]; simp, BX3.out.bel⟩
            · obtain rfl : j = kids.length := by omega
              go_wp2_with fail
              go_ret
              exact ⟨by rw [HSE.out, HN1.out, HD.out, List.drop_length]; rfl, bW2⟩
        · have HN1 : Hid (node1 k t n kids.length = false) := by unfold Hid node1; rw [if_neg k1, decide_eq_false hn0]; simp
          have hnb : (n != 0) = true := by simp; exact hn0
          clear htx hn0 k0 k1 k2
          go_enter Tryd.func43, Tryd.ntmps43
          go_wp2_with fail
          go_quiet ((go_at_call 59; exact Calls.quiet_of_same (specKidsQ k _ _ hkk)))
          have BX := HBX.out 26 nq
          generalize World.drewN (w.alloc (.cells #[.int .i64 k, .string t, .int .i64 n, .slice a kids.length c] 26)) nq = W1 at BX ⊢
          obtain ⟨hW1, c0, c1, c2, c3, bW1⟩ := BX
          go_wp2_with fail
          go_ret
          exact ⟨by rw [HSE.out, HN1.out]; rfl, bW1⟩
    · have HN1 : Hid (node1 k t n kids.length = false) := by
        unfold Hid node1; rw [decide_eq_false hlen]; rfl
      have hne : (((kids.length : Int)) != kidsK k) = true := by simp; exact hlen
      clear hlen
      generalize hkk : kidsK k = m at hne
      go_enter Tryd.func43, Tryd.ntmps43
      go_wp2_with fail
      go_quiet ((go_at_call 59; exact Calls.quiet_of_same (specKidsQ k _ _ hkk)))
      have BX := HBX.out 26 nq
      generalize World.drewN (w.alloc (.cells #[.int .i64 k, .string t, .int .i64 n, .slice a kids.length c] 26)) nq = W1 at BX ⊢
      obtain ⟨hW1, c0, c1, c2, c3, bW1⟩ := BX
      go_wp2_with fail
      go_ret
      exact ⟨by rw [HSE.out, HN1.out]; rfl, bW1⟩

end Go.Proofs.YtefjjcoaeanagaaDoor
