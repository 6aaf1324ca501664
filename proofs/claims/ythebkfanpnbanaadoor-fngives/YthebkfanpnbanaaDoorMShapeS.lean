/- The model's own look at an expression: spec.l04Kids, spec.l04Shape, spec.ExprOk. -/
/- The model's ExprOk. -/
/- spec.SortOf. -/
import Derived.Test.YthebkfanpnbanaaDoorMPutNameP
import Derived.Test.YthebkfanpnbanaaDoorMMem
import Derived.Test.YthebkfanpnbanaaDoorMBytes1
import Derived.Deep.RegionHeld3
import Derived.Test.YthebkfanpnbanaaDoorMSrtW
import Derived.Test.YthebkfanpnbanaaDoorMPutSpec
namespace Go.Proofs.YthebkfanpnbanaaDoor
open Go.RowKit

set_option maxHeartbeats 1000000 in
theorem specKids (k : Int) (w : World) (v : Int) (hv : kidsK k = v) :
    Calls Tryd.prog 43 #[.int .i64 k] w fun e w' => e = .returned (.int .i64 v) ∧ w = w' := by
  unfold kidsK at hv
  by_cases h1 : k < 0 ∨ 18 < k
  · rw [if_pos h1] at hv
    subst hv
    have H1 : Hid (inI k 0 18 = false) := by unfold Hid inI; simp; omega
    clear h1
    go_enter Tryd.func43, Tryd.ntmps43
    go_wp2_with (go_at_call 66; refine (specInIs _ 0 18 _ false H1.out).mono ?_; rintro e w' ⟨rfl, rfl⟩)
    go_ret
    exact ⟨rfl, rfl⟩
  · rw [if_neg h1] at hv
    have H1 : Hid (inI k 0 18 = true) := by unfold Hid inI; simp; omega
    by_cases h5 : k ≤ 5
    · rw [if_pos h5] at hv
      subst hv
      clear h1
      go_enter Tryd.func43, Tryd.ntmps43
      go_wp2_with (go_at_call 66; refine (specInIs _ 0 18 _ true H1.out).mono ?_; rintro e w' ⟨rfl, rfl⟩)
      go_ret
      exact ⟨rfl, rfl⟩
    · rw [if_neg h5] at hv
      by_cases h7 : k ≤ 7
      · rw [if_pos h7] at hv
        subst hv
        clear h1
        go_enter Tryd.func43, Tryd.ntmps43
        go_wp2_with (go_at_call 66; refine (specInIs _ 0 18 _ true H1.out).mono ?_; rintro e w' ⟨rfl, rfl⟩)
        go_ret
        exact ⟨rfl, rfl⟩
      · rw [if_neg h7] at hv
        subst hv
        clear h1
        go_enter Tryd.func43, Tryd.ntmps43
        go_wp2_with (go_at_call 66; refine (specInIs _ 0 18 _ true H1.out).mono ?_; rintro e w' ⟨rfl, rfl⟩)
        go_ret
        exact ⟨rfl, rfl⟩

theorem specKidsQ (k : Int) (w : World) (v : Int) (hv : kidsK k = v) :
    Calls Tryd.prog 43 #[.int .i64 k] w fun e w' => e = .returned (.int .i64 v) ∧ w' = w := (specKids k w v hv).mono fun _ _ h => ⟨h.1, h.2.symm⟩

def ShapeP (d : Nat) : Prop := ∀ (k : Int) (t : ByteArray) (n : Int) (kids : List Ex) (a : Option Addr) (c : Nat) (w : World), t.size ≤ 1048576 → wtL kids ≤ 1048576 → KidsAt w d a c kids →
  Calls Tryd.prog 50 #[.agg #[.int .i64 k, .string t, .int .i64 n, .slice a kids.length c]] w fun x w' => x = .returned (.bool (shapeE (.mk k t n kids))) ∧ Below w.heap.size w w'

theorem shape_eq (k : Int) (t : ByteArray) (n : Int) (kids : List Ex) : shapeE (.mk k t n kids) = (node1 k t n kids.length && shapeL kids) := by rw [shapeE]

theorem shapeL_drop (l : List Ex) (k : Nat) (h : k < l.length) : shapeL (l.drop k) = (shapeE l[k] && shapeL (l.drop (k + 1))) := by
  rw [List.drop_eq_getElem_cons h, shapeL]

theorem Ex.eta (e : Ex) : e = .mk e.kind e.text e.num e.kids := by cases e; rfl

/-- The cells of the argument's own box. -/
structure BoxK (w : World) (k : Int) (t : ByteArray) (n : Int) (a : Option Addr) (l c : Nat) (w1 : World) : Prop where
  lt : w.heap.size < w1.heap.size
  c0 : w1.cell? ⟨w.heap.size, 0, none⟩ = some (.int .i64 k)
  c1 : w1.cell? ⟨w.heap.size, 1, none⟩ = some (.string t)
  c2 : w1.cell? ⟨w.heap.size, 2, none⟩ = some (.int .i64 n)
  c3 : w1.cell? ⟨w.heap.size, 3, none⟩ = some (.slice a l c)
  bel : Below w.heap.size w w1

theorem boxK_new (w : World) (k : Int) (t : ByteArray) (n : Int) (a : Option Addr) (l c : Nat) (T : TypeId) : BoxK w k t n a l c (w.alloc (.cells #[.int .i64 k, .string t, .int .i64 n, .slice a l c] T)) :=
  ⟨by simp, by simp [go_sem], by simp [go_sem], by simp [go_sem], by simp [go_sem], (Below.refl _ _).alloc (Nat.le_refl _) _⟩

theorem BoxK.below {w w1 w2 : World} {k : Int} {t : ByteArray} {n : Int} {a : Option Addr} {l c : Nat} (h : BoxK w k t n a l c w1) (hb : Below w1.heap.size w1 w2) : BoxK w k t n a l c w2 :=
  ⟨Nat.lt_of_lt_of_le h.lt hb.size, (hb.cell (p := ⟨w.heap.size, 0, none⟩) h.lt).trans h.c0, (hb.cell (p := ⟨w.heap.size, 1, none⟩) h.lt).trans h.c1, (hb.cell (p := ⟨w.heap.size, 2, none⟩) h.lt).trans h.c2, (hb.cell (p := ⟨w.heap.size, 3, none⟩) h.lt).trans h.c3, h.bel.trans (hb.mono h.bel.size)⟩

theorem BoxK.drewN {w w1 : World} {k : Int} {t : ByteArray} {n : Int} {a : Option Addr} {l c : Nat} (h : BoxK w k t n a l c w1) (m : Nat) : BoxK w k t n a l c (w1.drewN m) := h.below (below_drewN (Below.refl _ _) m)

set_option maxRecDepth 100000 in
set_option maxHeartbeats 4000000 in
theorem specShape : ∀ d, ShapeP d
  | 0 => fun _ _ _ _ _ _ _ _ _ h => h.elim
  | d + 1 => by
    intro k t n kids a c w ht hwt hk
    have ih := specShape d
    have hl := hk.len
    have HK := Lib.hid (fun w' hb => hk.below (w' := w') hb)
    have HSE := Lib.hid (shape_eq k t n kids)
    have HBX := Lib.hid (fun T m => (boxK_new w k t n a kids.length c T).drewN m)
    have ht9 : t.size ≤ 9223372036854775807 := by omega
    clear hk
    by_cases hlen : (kids.length : Int) = kidsK k
    · have hin : 0 ≤ k ∧ k ≤ 18 := by unfold kidsK at hlen; split at hlen <;> omega
      have hne : (((kids.length : Int)) != kidsK k) = false := by simp; exact hlen
      have HLn := Lib.hid hlen
      by_cases k0 : k = 0
      · subst k0
        generalize hkk : kidsK 0 = m at hne
        cases hnm : nameB t.data.toList with
        | false =>
          have HNM := Lib.hid hnm
          have HN1 : Hid (node1 0 t n kids.length = false) := by unfold Hid node1; rw [if_pos rfl, hnm]; simp
          clear hnm
          go_enter Tryd.func50, Tryd.ntmps50
          go_wp2_with fail
          go_quiet ((go_at_call 43; exact Calls.quiet_of_same (specKidsQ 0 _ _ hkk)))
          have BX := HBX.out 26 nq
          generalize World.drewN (w.alloc (.cells #[.int .i64 0, .string t, .int .i64 n, .slice a kids.length c] 26)) nq = W1 at BX ⊢
          obtain ⟨hW1, c0, c1, c2, c3, bW1⟩ := BX
          go_wp2_with (go_at_call 75; refine (specNameOk t _ ht _ HNM.out).mono ?_; rintro e w1 ⟨rfl, rfl⟩)
          go_ret
          exact ⟨by rw [HSE.out, HN1.out]; rfl, bW1⟩
        | true =>
          have HNM := Lib.hid hnm
          by_cases hn0 : n = 0
          · subst hn0
            have HN1 : Hid (node1 0 t 0 kids.length = true) := by unfold Hid node1; rw [if_pos rfl, hnm, decide_eq_true HLn.out]; rfl
            clear hnm
            go_enter Tryd.func50, Tryd.ntmps50
            go_wp2_with fail
            go_quiet ((go_at_call 43; exact Calls.quiet_of_same (specKidsQ 0 _ _ hkk)))
            have BX := HBX.out 26 nq
            generalize World.drewN (w.alloc (.cells #[.int .i64 0, .string t, .int .i64 0, .slice a kids.length c] 26)) nq = W1 at BX ⊢
            obtain ⟨hW1, c0, c1, c2, c3, bW1⟩ := BX
            go_wp2_with (go_at_call 75; refine (specNameOk t _ ht _ HNM.out).mono ?_; rintro e w1 ⟨rfl, rfl⟩)
            go_loopw [3] (fun i wr => ∃ j : Nat, j ≤ kids.length ∧ i = .int .i64 j ∧ Hid (BoxK w 0 t 0 a kids.length c wr) ∧ Hid (shapeL kids = shapeL (kids.drop j))) (fun i _ => kids.length - (intOf i).toNat)
            case atStart => exact ⟨0, Nat.zero_le _, rfl, ⟨hW1, c0, c1, c2, c3, bW1⟩, rfl⟩
            case round =>
              obtain ⟨j, hj, rfl, BX2, HD⟩ := hrel
              obtain ⟨hW2, c0', c1', c2', c3', bW2⟩ := BX2.out
              by_cases hlt : j < kids.length
              · obtain ⟨b, off, rfl, hbl, d0, d1, d2, hfit, a', c', d3, hkid⟩ := (HK.out _ bW2).spot hlt
                have HT := Lib.hid (shapeL_drop kids j hlt)
                have HX := Lib.hid hkid
                have HG := Lib.hid (wtL_get hlt)
                have HE := Lib.hid (Ex.eta kids[j])
                have HW := Lib.hid (Ex.wt_eq kids[j])
                clear hkid
                go_wp2_with fail
                refine (ih kids[j].kind kids[j].text kids[j].num kids[j].kids a' c' _ (by have := HG.out; have := HW.out; omega) (by have := HG.out; have := HW.out; omega) HX.out).mono ?_
                rw [← HE.out]
                rintro x w2 ⟨rfl, hb2⟩
                have BX3 := Lib.hid (BX2.out.below hb2)
                clear d0 d1 d2 d3 c0' c1' c2' c3' hb2
                cases hs : shapeE kids[j] with
                | true =>
                  have HS := Lib.hid hs
                  clear hs
                  go_wp2_with fail
                  go_roundw
                  case rel => exact ⟨j + 1, by omega, by go_num, BX3, by unfold Hid; rw [HD.out, HT.out, HS.out, Bool.true_and]⟩
                  case measure => simp [intOf]; omega
                | false =>
                  have HS := Lib.hid hs
                  clear hs
                  go_wp2_with fail
                  go_ret
                  exact ⟨by rw [HSE.out, HD.out, HT.out, HS.out]; simp, BX3.out.bel⟩
              · obtain rfl : j = kids.length := by omega
                go_wp2_with fail
                go_ret
                exact ⟨by rw [HSE.out, HN1.out, HD.out, List.drop_length]; rfl, bW2⟩
          · have HN1 : Hid (node1 0 t n kids.length = false) := by unfold Hid node1; rw [if_neg (show ¬ (0 : Int) = 1 by omega), decide_eq_false hn0]; simp
            have hnb : (n != 0) = true := by simp; exact hn0
            clear hnm hn0
            go_enter Tryd.func50, Tryd.ntmps50
            go_wp2_with fail
            go_quiet ((go_at_call 43; exact Calls.quiet_of_same (specKidsQ 0 _ _ hkk)))
            have BX := HBX.out 26 nq
            generalize World.drewN (w.alloc (.cells #[.int .i64 0, .string t, .int .i64 n, .slice a kids.length c] 26)) nq = W1 at BX ⊢
            obtain ⟨hW1, c0, c1, c2, c3, bW1⟩ := BX
            go_wp2_with (go_at_call 75; refine (specNameOk t _ ht _ HNM.out).mono ?_; rintro e w1 ⟨rfl, rfl⟩)
            go_ret
            exact ⟨by rw [HSE.out, HN1.out]; rfl, bW1⟩
      by_cases k1 : k = 1
      · subst k1
        generalize hkk : kidsK 1 = m at hne
        cases htx : t.toList.isEmpty with
        | false =>
          have htb : (!t.toList.isEmpty) = true := by rw [htx]; rfl
          have HN1 : Hid (node1 1 t n kids.length = false) := by unfold Hid node1; rw [if_neg (by omega), if_neg (by omega), htx]; simp
          clear htx
          go_enter Tryd.func50, Tryd.ntmps50
          go_wp2_with fail
          go_quiet ((go_at_call 43; exact Calls.quiet_of_same (specKidsQ 1 _ _ hkk)))
          have BX := HBX.out 26 nq
          generalize World.drewN (w.alloc (.cells #[.int .i64 1, .string t, .int .i64 n, .slice a kids.length c] 26)) nq = W1 at BX ⊢
          obtain ⟨hW1, c0, c1, c2, c3, bW1⟩ := BX
          go_wp2_with fail
          go_ret
          exact ⟨by rw [HSE.out, HN1.out]; rfl, bW1⟩
        | true =>
          have htb : (!t.toList.isEmpty) = false := by rw [htx]; rfl
          cases hin1 : inI n 0 999999999 with
          | true =>
            have HIN := Lib.hid hin1
            have HN1 : Hid (node1 1 t n kids.length = true) := by unfold Hid node1; rw [if_neg (by omega), if_neg (by omega), if_pos rfl, htx, decide_eq_true HLn.out]; unfold inI at hin1; simpa using hin1
            clear htx hin1
            go_enter Tryd.func50, Tryd.ntmps50
            go_wp2_with fail
            go_quiet ((go_at_call 43; exact Calls.quiet_of_same (specKidsQ 1 _ _ hkk)))
            have BX := HBX.out 26 nq
            generalize World.drewN (w.alloc (.cells #[.int .i64 1, .string t, .int .i64 n, .slice a kids.length c] 26)) nq = W1 at BX ⊢
            obtain ⟨hW1, c0, c1, c2, c3, bW1⟩ := BX
            go_wp2_with (go_at_call 66; refine (specInIs _ 0 999999999 _ _ HIN.out).mono ?_; rintro e w1 ⟨rfl, rfl⟩)
            go_loopw [3] (fun i wr => ∃ j : Nat, j ≤ kids.length ∧ i = .int .i64 j ∧ Hid (BoxK w 1 t n a kids.length c wr) ∧ Hid (shapeL kids = shapeL (kids.drop j))) (fun i _ => kids.length - (intOf i).toNat)
            case atStart => exact ⟨0, Nat.zero_le _, rfl, ⟨hW1, c0, c1, c2, c3, bW1⟩, rfl⟩
            case round =>
              obtain ⟨j, hj, rfl, BX2, HD⟩ := hrel
              obtain ⟨hW2, c0', c1', c2', c3', bW2⟩ := BX2.out
              by_cases hlt : j < kids.length
              · obtain ⟨b, off, rfl, hbl, d0, d1, d2, hfit, a', c', d3, hkid⟩ := (HK.out _ bW2).spot hlt
                have HT := Lib.hid (shapeL_drop kids j hlt)
                have HX := Lib.hid hkid
                have HG := Lib.hid (wtL_get hlt)
                have HE := Lib.hid (Ex.eta kids[j])
                have HW := Lib.hid (Ex.wt_eq kids[j])
                clear hkid
                go_wp2_with fail
                refine (ih kids[j].kind kids[j].text kids[j].num kids[j].kids a' c' _ (by have := HG.out; have := HW.out; omega) (by have := HG.out; have := HW.out; omega) HX.out).mono ?_
                rw [← HE.out]
                rintro x w2 ⟨rfl, hb2⟩
                have BX3 := Lib.hid (BX2.out.below hb2)
                clear d0 d1 d2 d3 c0' c1' c2' c3' hb2
                cases hs : shapeE kids[j] with
                | true =>
                  have HS := Lib.hid hs
                  clear hs
                  go_wp2_with fail
                  go_roundw
                  case rel => exact ⟨j + 1, by omega, by go_num, BX3, by unfold Hid; rw [HD.out, HT.out, HS.out, Bool.true_and]⟩
                  case measure => simp [intOf]; omega
                | false =>
                  have HS := Lib.hid hs
                  clear hs
                  go_wp2_with fail
                  go_ret
                  exact ⟨by rw [HSE.out, HD.out, HT.out, HS.out]; simp, BX3.out.bel⟩
              · obtain rfl : j = kids.length := by omega
                go_wp2_with fail
                go_ret
                exact ⟨by rw [HSE.out, HN1.out, HD.out, List.drop_length]; rfl, bW2⟩
          | false =>
            have HIN := Lib.hid hin1
            have HN1 : Hid (node1 1 t n kids.length = false) := by unfold Hid node1; rw [if_neg (by omega), if_neg (by omega), if_pos rfl, show decide (0 ≤ n ∧ n ≤ 999999999) = false from decide_eq_false (by intro h; rw [show inI n 0 999999999 = true by unfold inI; simp; exact h] at hin1; cases hin1)]; simp
            clear htx hin1
            go_enter Tryd.func50, Tryd.ntmps50
            go_wp2_with fail
            go_quiet ((go_at_call 43; exact Calls.quiet_of_same (specKidsQ 1 _ _ hkk)))
            have BX := HBX.out 26 nq
            generalize World.drewN (w.alloc (.cells #[.int .i64 1, .string t, .int .i64 n, .slice a kids.length c] 26)) nq = W1 at BX ⊢
            obtain ⟨hW1, c0, c1, c2, c3, bW1⟩ := BX
            go_wp2_with (go_at_call 66; refine (specInIs _ 0 999999999 _ _ HIN.out).mono ?_; rintro e w1 ⟨rfl, rfl⟩)
            go_ret
            exact ⟨by rw [HSE.out, HN1.out]; rfl, bW1⟩
      by_cases k2 : k = 2
      · subst k2
        generalize hkk : kidsK 2 = m at hne
        by_cases htx : t.size ≤ 100
        · by_cases hn0 : n = 0
          · subst hn0
            have HN1 : Hid (node1 2 t 0 kids.length = true) := by unfold Hid node1; rw [if_neg (by omega), if_pos rfl, if_neg (by omega), decide_eq_true htx, decide_eq_true HLn.out]; rfl
            go_enter Tryd.func50, Tryd.ntmps50
            go_wp2_with fail
            go_quiet ((go_at_call 43; exact Calls.quiet_of_same (specKidsQ 2 _ _ hkk)))
            have BX := HBX.out 26 nq
            generalize World.drewN (w.alloc (.cells #[.int .i64 2, .string t, .int .i64 0, .slice a kids.length c] 26)) nq = W1 at BX ⊢
            obtain ⟨hW1, c0, c1, c2, c3, bW1⟩ := BX
            go_wp2_with fail
            go_loopw [3] (fun i wr => ∃ j : Nat, j ≤ kids.length ∧ i = .int .i64 j ∧ Hid (BoxK w 2 t 0 a kids.length c wr) ∧ Hid (shapeL kids = shapeL (kids.drop j))) (fun i _ => kids.length - (intOf i).toNat)
            case atStart => exact ⟨0, Nat.zero_le _, rfl, ⟨hW1, c0, c1, c2, c3, bW1⟩, rfl⟩
            case round =>
              obtain ⟨j, hj, rfl, BX2, HD⟩ := hrel
              obtain ⟨hW2, c0', c1', c2', c3', bW2⟩ := BX2.out
              by_cases hlt : j < kids.length
              · obtain ⟨b, off, rfl, hbl, d0, d1, d2, hfit, a', c', d3, hkid⟩ := (HK.out _ bW2).spot hlt
                have HT := Lib.hid (shapeL_drop kids j hlt)
                have HX := Lib.hid hkid
                have HG := Lib.hid (wtL_get hlt)
                have HE := Lib.hid (Ex.eta kids[j])
                have HW := Lib.hid (Ex.wt_eq kids[j])
                clear hkid
                go_wp2_with fail
                refine (ih kids[j].kind kids[j].text kids[j].num kids[j].kids a' c' _ (by have := HG.out; have := HW.out; omega) (by have := HG.out; have := HW.out; omega) HX.out).mono ?_
                rw [← HE.out]
                rintro x w2 ⟨rfl, hb2⟩
                have BX3 := Lib.hid (BX2.out.below hb2)
                clear d0 d1 d2 d3 c0' c1' c2' c3' hb2
                cases hs : shapeE kids[j] with
                | true =>
                  have HS := Lib.hid hs
                  clear hs
                  go_wp2_with fail
                  go_roundw
                  case rel => exact ⟨j + 1, by omega, by go_num, BX3, by unfold Hid; rw [HD.out, HT.out, HS.out, Bool.true_and]⟩
                  case measure => simp [intOf]; omega
                | false =>
                  have HS := Lib.hid hs
                  clear hs
                  go_wp2_with fail
                  go_ret
                  exact ⟨by rw [HSE.out, HD.out, HT.out, HS.out]; simp, BX3.out.bel⟩
              · obtain rfl : j = kids.length := by omega
                go_wp2_with fail
                go_ret
                exact ⟨by rw [HSE.out, HN1.out, HD.out, List.drop_length]; rfl, bW2⟩
          · have HN1 : Hid (node1 2 t n kids.length = false) := by unfold Hid node1; rw [if_neg (show ¬ (2 : Int) = 1 by omega), decide_eq_false hn0]; simp
            have hnb : (n != 0) = true := by simp; exact hn0
            clear hn0
            go_enter Tryd.func50, Tryd.ntmps50
            go_wp2_with fail
            go_quiet ((go_at_call 43; exact Calls.quiet_of_same (specKidsQ 2 _ _ hkk)))
            have BX := HBX.out 26 nq
            generalize World.drewN (w.alloc (.cells #[.int .i64 2, .string t, .int .i64 n, .slice a kids.length c] 26)) nq = W1 at BX ⊢
            obtain ⟨hW1, c0, c1, c2, c3, bW1⟩ := BX
            go_wp2_with fail
            go_ret
            exact ⟨by rw [HSE.out, HN1.out]; rfl, bW1⟩
        · have HN1 : Hid (node1 2 t n kids.length = false) := by unfold Hid node1; rw [if_neg (by omega), if_pos rfl, decide_eq_false htx]; simp
          go_enter Tryd.func50, Tryd.ntmps50
          go_wp2_with fail
          go_quiet ((go_at_call 43; exact Calls.quiet_of_same (specKidsQ 2 _ _ hkk)))
          have BX := HBX.out 26 nq
          generalize World.drewN (w.alloc (.cells #[.int .i64 2, .string t, .int .i64 n, .slice a kids.length c] 26)) nq = W1 at BX ⊢
          obtain ⟨hW1, c0, c1, c2, c3, bW1⟩ := BX
          go_wp2_with fail
          go_ret
          exact ⟨by rw [HSE.out, HN1.out]; rfl, bW1⟩
      have kb0 : (k == 0) = false := by simp; exact k0
      have kb1 : (k == 1) = false := by simp; exact k1
      have kb2 : (k == 2) = false := by simp; exact k2
      have kb3 : (k != 1) = true := by simp; exact k1
      generalize hkk : kidsK k = m at hne
      cases htx : t.toList.isEmpty with
      | false =>
        have htb : (!t.toList.isEmpty) = true := by rw [htx]; rfl
        have HN1 : Hid (node1 k t n kids.length = false) := by unfold Hid node1; rw [if_neg k0, if_neg k2, htx]; simp
        clear htx k0 k1 k2
        go_enter Tryd.func50, Tryd.ntmps50
        go_wp2_with fail
        go_quiet ((go_at_call 43; exact Calls.quiet_of_same (specKidsQ k _ _ hkk)))
        have BX := HBX.out 26 nq
        generalize World.drewN (w.alloc (.cells #[.int .i64 k, .string t, .int .i64 n, .slice a kids.length c] 26)) nq = W1 at BX ⊢
        obtain ⟨hW1, c0, c1, c2, c3, bW1⟩ := BX
        go_wp2_with fail
        go_ret
        exact ⟨by rw [HSE.out, HN1.out]; rfl, bW1⟩
      | true =>
        have htb : (!t.toList.isEmpty) = false := by rw [htx]; rfl
        by_cases hn0 : n = 0
        · subst hn0
          have HN1 : Hid (node1 k t 0 kids.length = true) := by unfold Hid node1; rw [if_neg k0, if_neg k2, if_neg k1, htx, decide_eq_true HLn.out]; rfl
          clear htx k0 k1 k2
          go_enter Tryd.func50, Tryd.ntmps50
          go_wp2_with fail
          go_quiet ((go_at_call 43; exact Calls.quiet_of_same (specKidsQ k _ _ hkk)))
          have BX := HBX.out 26 nq
          generalize World.drewN (w.alloc (.cells #[.int .i64 k, .string t, .int .i64 0, .slice a kids.length c] 26)) nq = W1 at BX ⊢
          obtain ⟨hW1, c0, c1, c2, c3, bW1⟩ := BX
          go_wp2_with fail
          go_loopw [3] (fun i wr => ∃ j : Nat, j ≤ kids.length ∧ i = .int .i64 j ∧ Hid (BoxK w k t 0 a kids.length c wr) ∧ Hid (shapeL kids = shapeL (kids.drop j))) (fun i _ => kids.length - (intOf i).toNat)
          case atStart => exact ⟨0, Nat.zero_le _, rfl, ⟨hW1, c0, c1, c2, c3, bW1⟩, rfl⟩
          case round =>
            obtain ⟨j, hj, rfl, BX2, HD⟩ := hrel
            obtain ⟨hW2, c0', c1', c2', c3', bW2⟩ := BX2.out
            by_cases hlt : j < kids.length
            · obtain ⟨b, off, rfl, hbl, d0, d1, d2, hfit, a', c', d3, hkid⟩ := (HK.out _ bW2).spot hlt
              have HT := Lib.hid (shapeL_drop kids j hlt)
              have HX := Lib.hid hkid
              have HG := Lib.hid (wtL_get hlt)
              have HE := Lib.hid (Ex.eta kids[j])
              have HW := Lib.hid (Ex.wt_eq kids[j])
              clear hkid
              go_wp2_with fail
              refine (ih kids[j].kind kids[j].text kids[j].num kids[j].kids a' c' _ (by have := HG.out; have := HW.out; omega) (by have := HG.out; have := HW.out; omega) HX.out).mono ?_
              rw [← HE.out]
              rintro x w2 ⟨rfl, hb2⟩
              have BX3 := Lib.hid (BX2.out.below hb2)
              clear d0 d1 d2 d3 c0' c1' c2' c3' hb2
              cases hs : shapeE kids[j] with
              | true =>
                have HS := Lib.hid hs
                clear hs
                go_wp2_with fail
                go_roundw
                case rel => exact ⟨j + 1, by omega, by go_num, BX3, by unfold Hid; rw [HD.out, HT.out, HS.out, Bool.true_and]⟩
                case measure => simp [intOf]; omega
              | false =>
                have HS := Lib.hid hs
                clear hs
                go_wp2_with fail
                go_ret
                exact ⟨by rw [HSE.out, HD.out, HT.out, HS.out]; simp, BX3.out.bel⟩
            · obtain rfl : j = kids.length := by omega
              go_wp2_with fail
              go_ret
              exact ⟨by rw [HSE.out, HN1.out, HD.out, List.drop_length]; rfl, bW2⟩
        · have HN1 : Hid (node1 k t n kids.length = false) := by unfold Hid node1; rw [if_neg k1, decide_eq_false hn0]; simp
          have hnb : (n != 0) = true := by simp; exact hn0
          clear htx hn0 k0 k1 k2
          go_enter Tryd.func50, Tryd.ntmps50
          go_wp2_with fail
          go_quiet ((go_at_call 43; exact Calls.quiet_of_same (specKidsQ k _ _ hkk)))
          have BX := HBX.out 26 nq
          generalize World.drewN (w.alloc (.cells #[.int .i64 k, .string t, .int .i64 n, .slice a kids.length c] 26)) nq = W1 at BX ⊢
          obtain ⟨hW1, c0, c1, c2, c3, bW1⟩ := BX
          go_wp2_with fail
          go_ret
          exact ⟨by rw [HSE.out, HN1.out]; rfl, bW1⟩
    · have HN1 : Hid (node1 k t n kids.length = false) := by
        unfold Hid node1; rw [decide_eq_false hlen]; rfl
      have hne : (((kids.length : Int)) != kidsK k) = true := by simp; exact hlen
      clear hlen
      generalize hkk : kidsK k = m at hne
      go_enter Tryd.func50, Tryd.ntmps50
      go_wp2_with fail
      go_quiet ((go_at_call 43; exact Calls.quiet_of_same (specKidsQ k _ _ hkk)))
      have BX := HBX.out 26 nq
      generalize World.drewN (w.alloc (.cells #[.int .i64 k, .string t, .int .i64 n, .slice a kids.length c] 26)) nq = W1 at BX ⊢
      obtain ⟨hW1, c0, c1, c2, c3, bW1⟩ := BX
      go_wp2_with fail
      go_ret
      exact ⟨by rw [HSE.out, HN1.out]; rfl, bW1⟩

end Go.Proofs.YthebkfanpnbanaaDoor

namespace Go.Proofs.YthebkfanpnbanaaDoor
open Go.RowKit

set_option maxHeartbeats 1000000 in
theorem specExprOk (e : Ex) (a : Option Addr) (c d : Nat) (w : World) (hk : KidsAt w d a c e.kids) (hwt : e.wt ≤ 1048576) (v : Bool) (hv : (decide (e.nodes ≤ 40) && shapeE e) = v) :
    Calls Tryd.prog 34 #[.agg #[.int .i64 e.kind, .string e.text, .int .i64 e.num, .slice a e.kids.length c]] w fun x w' => x = .returned (.bool v) ∧ Below w.heap.size w w' := by
  have hwe := Ex.wt_eq e
  have hnw := nodes_wt e
  have HE := Lib.hid (Ex.eta e)
  have HK := Lib.hid (fun w' hb => hk.below (w' := w') hb)
  have HBX := Lib.hid (fun T => boxK_new w e.kind e.text e.num a e.kids.length c T)
  clear hk
  by_cases hn : e.nodes ≤ 40
  · rw [decide_eq_true hn, Bool.true_and] at hv
    have hd : decide ((e.nodes : Int) ≤ 40) = true := by simp; omega
    subst hv
    go_enter Tryd.func34, Tryd.ntmps34
    go_wp2_with fail
    refine (specNodes d e a c _ (by omega) (HK.out _ (HBX.out _).bel)).mono ?_
    rintro x w2 ⟨rfl, hb2⟩
    have BX := (HBX.out _).below hb2
    obtain ⟨hW1, c0, c1, c2, c3, bW1⟩ := BX
    clear hb2
    go_wp2_with fail
    refine (specShape d e.kind e.text e.num e.kids a c _ (by omega) (by omega) (HK.out _ bW1)).mono ?_
    rw [← HE.out]
    rintro x w3 ⟨rfl, hb3⟩
    have B3 := Lib.hid (bW1.trans (hb3.mono bW1.size))
    clear hb3
    cases hs : shapeE e with
    | true => go_wp2_with fail; go_ret; exact ⟨by rw [hs]; rfl, B3.out⟩
    | false => go_wp2_with fail; go_ret; exact ⟨by rw [hs]; rfl, B3.out⟩
  · rw [decide_eq_false hn, Bool.false_and] at hv
    have hd : decide ((e.nodes : Int) ≤ 40) = false := by simp; omega
    subst hv
    go_enter Tryd.func34, Tryd.ntmps34
    go_wp2_with fail
    refine (specNodes d e a c _ (by omega) (HK.out _ (HBX.out _).bel)).mono ?_
    rintro x w2 ⟨rfl, hb2⟩
    have B2 := Lib.hid ((HBX.out _).below hb2).bel
    clear hb2
    go_wp2_with fail
    go_ret
    exact ⟨rfl, B2.out⟩

end Go.Proofs.YthebkfanpnbanaaDoor

namespace Go.Proofs.YthebkfanpnbanaaDoor
open Go.RowKit

/-- What SortOf answers. -/
def sofS (cols : List Co) (ls : List Lb) (e : Ex) : So × Int :=
  if (decide (e.nodes ≤ 40) && shapeE e) = true then (if (e.ucols.all fun s => decide (0 ≤ findAt Co.name cols s)) = true then (match srtE (colF cols) ls e with | some s => (s, 0) | none => (soK 0, 2)) else (soK 0, 1)) else (soK 0, 1)

theorem colF_some {cols : List Co} {s : ByteArray} (h : 0 ≤ findAt Co.name cols s) : (colF cols s).isSome = true := by
  unfold colF
  have hl := (findAt_small Co.name cols s).2
  rw [if_pos h, List.getElem?_eq_getElem (by omega)]
  rfl

mutual
theorem all_ok {cf : ByteArray → Option So} : (e : Ex) → shapeE e = true → (∀ t, t ∈ e.cols → (cf t).isSome = true) → e.all (okS cf) = true
  | .mk k t n kids => by
    intro hs hc
    rw [shapeE, Bool.and_eq_true] at hs
    rw [Ex.all, Bool.and_eq_true]
    refine ⟨?_, allL_ok kids hs.2 fun t ht => hc t (by rw [Ex.cols]; exact List.mem_append.2 (.inr ht))⟩
    have h1 := hs.1
    unfold node1 at h1
    simp only [Bool.and_eq_true, decide_eq_true_eq] at h1
    unfold okS
    simp only [Ex.kind, Ex.text, Ex.kids, Bool.and_eq_true, Bool.or_eq_true]
    refine ⟨?_, ?_⟩
    · by_cases h0 : k = 0
      · right
        refine hc t ?_
        rw [Ex.cols]
        refine List.mem_append.2 (.inl ?_)
        simp [own1, h0, Ex.kind, Ex.text]
      · left
        simp [h0]
    · by_cases h10 : k = 10 ∨ k = 11
      · right
        have : kidsK k = 2 := by rcases h10 with h | h <;> subst h <;> rfl
        have h2 := h1.1.1
        rw [this] at h2
        simp
        omega
      · left
        simp only [not_or] at h10
        simp [h10.1, h10.2]
theorem allL_ok {cf : ByteArray → Option So} : (l : List Ex) → shapeL l = true → (∀ t, t ∈ colsL l → (cf t).isSome = true) → allL (okS cf) l = true
  | [] => fun _ _ => by rw [allL]
  | e :: r => by
    intro hs hc
    rw [shapeL, Bool.and_eq_true] at hs
    rw [allL, Bool.and_eq_true]
    exact ⟨all_ok e hs.1 fun t ht => hc t (by rw [colsL]; exact List.mem_append.2 (.inl ht)), allL_ok r hs.2 fun t ht => hc t (by rw [colsL]; exact List.mem_append.2 (.inr ht))⟩
end

set_option maxRecDepth 100000 in
set_option maxHeartbeats 8000000 in
theorem specSortOf (e : Ex) (ak : Option Addr) (ck d : Nat) (ca : Option Addr) (cc : Nat) (cols : List Co) (la : Option Addr) (lc : Nat) (ls : List Lb) (w : World) (hfit : e.fit) (hk : KidsAt w d ak ck e.kids) (hwt : e.wt ≤ 1048576) (hC : Sl 6 RCo 0 w ca cc cols) (hL : Lbs w la lc ls) :
    Calls Tryd.prog 19 #[.agg #[.int .i64 e.kind, .string e.text, .int .i64 e.num, .slice ak e.kids.length ck], .slice ca cols.length cc, .slice la ls.length lc] w fun x w' => x = .returned (.tuple #[(sofS cols ls e).1.v, .int .i64 (sofS cols ls e).2]) ∧ Below w.heap.size w w' := by
  have HK := Lib.hid (fun w' hb => hk.below (w' := w') hb)
  have HN := Lib.hid (nodes_wt e)
  have HSRT := Lib.hid (specSrt ca cc cols la lc ls w hC hL d)
  have HCS := Lib.hid (fun w' (hb : Below w.heap.size w w') => hC.kept goodCo (Kept.below hb))
  have hok : ∃ v, (decide (e.nodes ≤ 40) && shapeE e) = v := ⟨_, rfl⟩
  obtain ⟨v, hv⟩ := hok
  have HV := Lib.hid hv
  have HUL := Lib.hid (ucols_facts e)
  have HUW := Lib.hid (ucols_wt e)
  clear hk hC hL
  go_enter Tryd.func19, Tryd.ntmps19
  go_wp2_with fail
  refine (specExprOk e ak ck d _ (HK.out _ (((Below.refl _ _).alloc (Nat.le_refl _) _).alloc (by simp) _)) hwt v hv).mono ?_
  rintro x w1 ⟨rfl, b1⟩
  have HB1 : Hid (BS w e ak ck w1) := BS.below ⟨(blk_new w _ [.int .i64 e.kind, .string e.text, .int .i64 e.num, .slice ak e.kids.length ck]).alloc _, blk_new' (w := w.alloc _) (b := w.heap.size + 1) (by simp) _ [.int .i64 0, .string ByteArray.empty], by simp, ((Below.refl _ _).alloc (Nat.le_refl _) _).alloc (by simp) _⟩ b1
  have y0w1 : w1.cell? ⟨w.heap.size + 1, 0, none⟩ = some (.int .i64 0) := (HB1.out.2.1.2 0 (by simp)).1
  have y1w1 : w1.cell? ⟨w.heap.size + 1, 1, none⟩ = some (.string ByteArray.empty) := (HB1.out.2.1.2 1 (by simp)).1
  have f0w1 : w1.frozen? ⟨w.heap.size + 1, 0, none⟩ = false := (HB1.out.2.1.2 0 (by simp)).2
  have f1w1 : w1.frozen? ⟨w.heap.size + 1, 1, none⟩ = false := (HB1.out.2.1.2 1 (by simp)).2
  have e0w1 : w1.cell? ⟨w.heap.size, 0, none⟩ = some (.int .i64 e.kind) := (HB1.out.1.2 0 (by simp)).1
  have e1w1 : w1.cell? ⟨w.heap.size, 1, none⟩ = some (.string e.text) := (HB1.out.1.2 1 (by simp)).1
  have e2w1 : w1.cell? ⟨w.heap.size, 2, none⟩ = some (.int .i64 e.num) := (HB1.out.1.2 2 (by simp)).1
  have e3w1 : w1.cell? ⟨w.heap.size, 3, none⟩ = some (.slice ak e.kids.length ck) := (HB1.out.1.2 3 (by simp)).1
  clear b1 hv
  cases v with
  | false =>
    have HC : Hid (sofS cols ls e = (soK 0, 1)) := by unfold Hid sofS; rw [if_neg (by rw [HV.out]; simp)]
    go_wp2_with fail
    refine bodyPost_ret (v := .tuple #[.agg #[.int .i64 0, .string ByteArray.empty], .int .i64 1]) (by simp [results, Tryd.results19, go_sem, *]; rfl) rfl ⟨by rw [HC.out]; rfl, ?_⟩
    refine Below.setCell ?_ (by first | omega | (simp; done) | (simp; omega) | (simp [World.setCell]; omega)) _
    refine Below.setCell ?_ (by first | omega | (simp; done) | (simp; omega) | (simp [World.setCell]; omega)) _
    exact HB1.out.2.2.2
  | true =>
    have HSH : Hid (shapeE e = true) := by have := HV.out; rw [Bool.and_eq_true] at this; exact this.2
    have hnl : e.ucols.length ≤ 9223372036854775807 := by have h1 := HUL.out.2.2; have h2 := HN.out; omega
    go_wp2_with fail
    refine (specCols d e ak ck _ hfit hwt (HK.out _ HB1.out.2.2.2)).mono ?_
    rintro x w2 ⟨a2, c2, rfl, ho, b2⟩
    have HB2 := Lib.hid (HB1.out.below b2)
    have HST := Lib.hid (ho.strs fun s hs => by have h1 := HUW.out s hs; unfold maxLen; omega)
    clear b2 ho y0w1 y1w1 f0w1 f1w1 e0w1 e1w1 e2w1 e3w1
    go_wp2_with fail
    go_loopw [9] (fun i wr => ∃ k : Nat, k ≤ e.ucols.length ∧ i = .int .i64 k ∧ Hid (∀ m (hm : m < e.ucols.length), m < k → 0 ≤ findAt Co.name cols e.ucols[m]) ∧ Below w2.heap.size w2 wr) (fun i _ => e.ucols.length - (intOf i).toNat)
    case atStart => exact ⟨0, Nat.zero_le _, rfl, fun m h hm => absurd hm (by omega), Below.refl _ _⟩
    case round =>
      obtain ⟨k, hk, rfl, hall, hb⟩ := hrel
      have HBr := Lib.hid (HB2.out.below hb)
      by_cases hlt : k < e.ucols.length
      · obtain ⟨b, off, rfl, hbl, hc⟩ := (HST.out.below hb).spot hlt
        go_wp2_with fail
        refine (specCol ca cc cols e.ucols[k] _ (HCS.out _ HBr.out.2.2.2)).mono ?_
        rintro x w3 ⟨rfl, b3⟩
        have HB3 := Lib.hid (HBr.out.below b3)
        have HB23 := Lib.hid (hb.trans (b3.mono hb.size))
        clear b3
        by_cases hf : findAt Co.name cols e.ucols[k] < 0
        · have hd : decide (findAt Co.name cols e.ucols[k] < 0) = true := by simpa using hf
          have HC : Hid (sofS cols ls e = (soK 0, 1)) := by
            unfold Hid sofS
            rw [if_pos HV.out, if_neg]
            intro hh
            have := List.all_eq_true.1 hh _ (List.getElem_mem hlt)
            simp only [decide_eq_true_eq] at this
            omega
          have y0w3 : w3.cell? ⟨w.heap.size + 1, 0, none⟩ = some (.int .i64 0) := (HB3.out.2.1.2 0 (by simp)).1
          have y1w3 : w3.cell? ⟨w.heap.size + 1, 1, none⟩ = some (.string ByteArray.empty) := (HB3.out.2.1.2 1 (by simp)).1
          have f0w3 : w3.frozen? ⟨w.heap.size + 1, 0, none⟩ = false := (HB3.out.2.1.2 0 (by simp)).2
          have f1w3 : w3.frozen? ⟨w.heap.size + 1, 1, none⟩ = false := (HB3.out.2.1.2 1 (by simp)).2
          clear hf
          go_wp2_with fail
          refine bodyPost_ret (v := .tuple #[.agg #[.int .i64 0, .string ByteArray.empty], .int .i64 1]) (by simp [results, Tryd.results19, go_sem, *]; rfl) rfl ⟨by rw [HC.out]; rfl, ?_⟩
          refine Below.setCell ?_ (by first | omega | (simp; done) | (simp; omega) | (simp [World.setCell]; omega)) _
          refine Below.setCell ?_ (by first | omega | (simp; done) | (simp; omega) | (simp [World.setCell]; omega)) _
          exact HB3.out.2.2.2
        · have hd : decide (findAt Co.name cols e.ucols[k] < 0) = false := by simpa using hf
          have HF : Hid (0 ≤ findAt Co.name cols e.ucols[k]) := by unfold Hid; omega
          clear hf
          go_wp2_with fail
          go_roundw
          case rel => exact ⟨k + 1, by omega, by go_num, fun m hm h1 => by
            rcases Nat.lt_or_ge m k with h2 | h2
            · exact hall.out m hm h2
            · obtain rfl : m = k := by omega
              exact HF.out, HB23.out⟩
          case measure => simp [intOf]; omega
      · have HALL : Hid ((e.ucols.all fun s => decide (0 ≤ findAt Co.name cols s)) = true) := by
          unfold Hid
          rw [List.all_eq_true]
          intro s hs
          obtain ⟨m, hm, rfl⟩ := List.mem_iff_getElem.1 hs
          simpa using hall.out m hm (by omega)
        have HOK : Hid (e.all (okS (colF cols)) = true) := all_ok e HSH.out fun t ht => by
          have h1 := List.all_eq_true.1 HALL.out t ((HUL.out.2.1 t).2 ht)
          exact colF_some (by simpa using h1)
        have hne : e.nodes ≤ 1048577 := by have := HN.out; omega
        have e0wr : wr.cell? ⟨w.heap.size, 0, none⟩ = some (.int .i64 e.kind) := (HBr.out.1.2 0 (by simp)).1
        have e1wr : wr.cell? ⟨w.heap.size, 1, none⟩ = some (.string e.text) := (HBr.out.1.2 1 (by simp)).1
        have e2wr : wr.cell? ⟨w.heap.size, 2, none⟩ = some (.int .i64 e.num) := (HBr.out.1.2 2 (by simp)).1
        have e3wr : wr.cell? ⟨w.heap.size, 3, none⟩ = some (.slice ak e.kids.length ck) := (HBr.out.1.2 3 (by simp)).1
        go_wp2_with fail
        refine (HSRT.out e ak ck _ HBr.out.2.2.2 (HK.out _ HBr.out.2.2.2) HOK.out hne).mono ?_
        cases hs : srtE (colF cols) ls e with
        | none =>
          simp only [Option.isSome_none]
          rintro x w3 ⟨⟨sk, sn⟩, rfl, _, b3⟩
          have HC : Hid (sofS cols ls e = (soK 0, 2)) := by unfold Hid sofS; rw [if_pos HV.out, if_pos HALL.out, hs]
          have HB3 := Lib.hid (HBr.out.below b3)
          have y0w3 : w3.cell? ⟨w.heap.size + 1, 0, none⟩ = some (.int .i64 0) := (HB3.out.2.1.2 0 (by simp)).1
          have y1w3 : w3.cell? ⟨w.heap.size + 1, 1, none⟩ = some (.string ByteArray.empty) := (HB3.out.2.1.2 1 (by simp)).1
          have f0w3 : w3.frozen? ⟨w.heap.size + 1, 0, none⟩ = false := (HB3.out.2.1.2 0 (by simp)).2
          have f1w3 : w3.frozen? ⟨w.heap.size + 1, 1, none⟩ = false := (HB3.out.2.1.2 1 (by simp)).2
          have hs3 := HB3.out.2.2.1
          have hn1 : w.heap.size + 1 < w3.heap.size := by omega
          clear b3 hs
          unfold So.v
          go_wp2_with fail
          refine bodyPost_ret (v := .tuple #[.agg #[.int .i64 0, .string ByteArray.empty], .int .i64 2]) (by simp [results, Tryd.results19, go_sem, *]; rfl) rfl ⟨by rw [HC.out]; rfl, ?_⟩
          refine Below.alloc ?_ (by first | omega | (simp; done) | (simp; omega) | (simp [World.setCell]; omega)) _
          refine Below.setCell ?_ (by first | omega | (simp; done) | (simp; omega) | (simp [World.setCell]; omega)) _
          refine Below.setCell ?_ (by first | omega | (simp; done) | (simp; omega) | (simp [World.setCell]; omega)) _
          exact HB3.out.2.2.2
        | some o =>
          simp only [Option.isSome_some]
          rintro x w3 ⟨s, rfl, hso, b3⟩
          obtain rfl := hso o rfl
          have HC : Hid (sofS cols ls e = (s, 0)) := by unfold Hid sofS; rw [if_pos HV.out, if_pos HALL.out, hs]
          obtain ⟨sk, sn⟩ := s
          have HB3 := Lib.hid (HBr.out.below b3)
          have y0w3 : w3.cell? ⟨w.heap.size + 1, 0, none⟩ = some (.int .i64 0) := (HB3.out.2.1.2 0 (by simp)).1
          have y1w3 : w3.cell? ⟨w.heap.size + 1, 1, none⟩ = some (.string ByteArray.empty) := (HB3.out.2.1.2 1 (by simp)).1
          have f0w3 : w3.frozen? ⟨w.heap.size + 1, 0, none⟩ = false := (HB3.out.2.1.2 0 (by simp)).2
          have f1w3 : w3.frozen? ⟨w.heap.size + 1, 1, none⟩ = false := (HB3.out.2.1.2 1 (by simp)).2
          have hs3 := HB3.out.2.2.1
          have hn1 : w.heap.size + 1 < w3.heap.size := by omega
          clear b3 hs hso
          unfold So.v
          go_wp2_with fail
          refine bodyPost_ret (v := .tuple #[.agg #[.int .i64 sk, .string sn], .int .i64 0]) (by simp [results, Tryd.results19, go_sem, *]) rfl ⟨by rw [HC.out]; rfl, ?_⟩
          refine Below.alloc ?_ (by first | omega | (simp; done) | (simp; omega) | (simp [World.setCell]; omega)) _
          refine Below.setCell ?_ (by first | omega | (simp; done) | (simp; omega) | (simp [World.setCell]; omega)) _
          refine Below.setCell ?_ (by first | omega | (simp; done) | (simp; omega) | (simp [World.setCell]; omega)) _
          exact HB3.out.2.2.2

end Go.Proofs.YthebkfanpnbanaaDoor
