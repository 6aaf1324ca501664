/- impl.nodeOk: what one node asks for. -/
import Derived.Test.YtefjjcoaeanagaaDoorMColNo
import Derived.Test.YtefjjcoaeanagaaDoorExprQ
import Derived.Test.YtefjjcoaeanagaaDoorNameImpl
import Derived.Test.YtefjjcoaeanagaaDoorShapeS
import Derived.BigQuiet
namespace Go.Proofs.YtefjjcoaeanagaaDoor
open Go.RowKit

theorem fm_kids : ∀ i, i < 19 → (fm i).kids = kidsK (i : Int) := by decide
theorem fm_strength : ∀ i, i < 19 → (fm i).strength = (bindsK (i : Int) : Int) := by decide

set_option maxRecDepth 100000 in
set_option maxHeartbeats 2000000 in
theorem implNodeOk (k : Int) (t : ByteArray) (n : Int) (a : Option Addr) (l c : Nat) (w : World) (hF : FormsAt w) (ht : t.size ≤ maxLen) (hl : l ≤ 9223372036854775807) (v : Bool) (hv : node1 k t n l = v) :
    Calls Tryd.prog 80 #[.agg #[.int .i64 k, .string t, .int .i64 n, .slice a l c]] w fun x w' => x = .returned (.bool v) ∧ Below w.heap.size w w' := by
  have HBX := Lib.hid (fun T => boxK_new w k t n a l c T)
  have HBD := Lib.hid (fun T m => (boxK_new w k t n a l c T).drewN m)
  have ht9 : t.size ≤ 9223372036854775807 := by unfold maxLen at ht; omega
  by_cases h0 : k < 0
  · have HN : Hid (v = false) := by
      unfold Hid; rw [← hv]; unfold node1
      rw [decide_eq_false (by unfold kidsK; rw [if_pos (.inl h0)]; omega)]; rfl
    have hd0 : decide (k < 0) = true := decide_eq_true h0
    clear hv hF
    go_enter Tryd.func80, Tryd.ntmps80
    go_wp2_with fail
    go_quiet (fail)
    go_wp2_with fail
    go_ret
    exact ⟨by rw [HN.out]; rfl, (HBD.out _ _).bel⟩
  · by_cases h19 : 19 ≤ k
    · have HN : Hid (v = false) := by
        unfold Hid; rw [← hv]; unfold node1
        rw [decide_eq_false (by unfold kidsK; rw [if_pos (.inr (by omega))]; omega)]; rfl
      have hd0 : decide (k < 0) = false := decide_eq_false h0
      have hd1 : decide (19 ≤ k) = true := decide_eq_true h19
      clear hv hF
      go_enter Tryd.func80, Tryd.ntmps80
      go_wp2_with fail
      go_quiet (fail)
      go_wp2_with fail
      go_ret
      exact ⟨by rw [HN.out]; rfl, (HBD.out _ _).bel⟩
    · obtain ⟨i, rfl⟩ : ∃ i : Nat, k = i := ⟨k.toNat, by omega⟩
      have hi : i < 19 := by omega
      have hd0 : decide ((i : Int) < 0) = false := decide_eq_false h0
      have hd1 : decide (19 ≤ (i : Int)) = false := decide_eq_false h19
      have hb0 : (0 : Int) ≤ (i : Int) := by omega
      have hb1 : (i : Int) < 19 := by omega
      have HG : Hid (∀ o, (w.alloc o).cell? ⟨0, i * 4, none⟩ = some (.int .i64 (kidsK i))) := fun o => by
        rw [← fm_kids i hi]
        exact ((hF.below ((Below.refl w.heap.size w).alloc (Nat.le_refl _) o) hF.1).2 i hi).1
      have hg := HG.out
      have hkk : ∃ m, kidsK (i : Int) = m := ⟨_, rfl⟩
      obtain ⟨m, hkk⟩ := hkk
      have HV := Lib.hid hv
      rw [hkk] at hg
      clear hF h0 h19 hv
      by_cases hlm : (l : Int) = m
      · have hne : ((l : Int) != m) = false := by simp; exact hlm
        by_cases k0 : i = 0
        · subst k0
          have HE : Hid (v = (nameB t.data.toList && decide (n = 0))) := by unfold Hid; rw [← HV.out]; unfold node1; rw [hkk, decide_eq_true hlm, if_pos (by omega), if_neg (by omega)]; rfl
          cases hnm : nameB t.data.toList with
          | false =>
            rw [hnm] at HE
            have HNM := Lib.hid hnm
            clear hnm HV
            have hn0 : ∃ q, (n == 0) = q ∧ decide (n = 0) = q := ⟨_, rfl, rfl⟩
            obtain ⟨q, hq1, hq2⟩ := hn0
            rw [hq2] at HE
            clear hq2
            have hg1 := hg (.cells #[.int .i64 (0 : Int), .string t, .int .i64 n, .slice a l c] 26)
            clear hg
            go_enter Tryd.func80, Tryd.ntmps80
            go_wp2_with fail
            go_quiet (fail)
            have BX := HBD.out 26 nq
            generalize World.drewN (w.alloc (.cells #[.int .i64 0, .string t, .int .i64 n, .slice a l c] 26)) nq = W1 at BX ⊢
            obtain ⟨hW1, c0, c1, c2, c3, bW1⟩ := BX
            clear hg1
            go_wp2_with (go_at_call 98; refine (implNameOk t _ _ HNM.out).mono ?_; rintro e w1 ⟨rfl, rfl⟩)
            go_ret
            exact ⟨by rw [HE.out]; rfl, bW1⟩
          | true =>
            rw [hnm] at HE
            have HNM := Lib.hid hnm
            clear hnm HV
            have hn0 : ∃ q, (n == 0) = q ∧ decide (n = 0) = q := ⟨_, rfl, rfl⟩
            obtain ⟨q, hq1, hq2⟩ := hn0
            rw [hq2] at HE
            clear hq2
            have hg1 := hg (.cells #[.int .i64 (0 : Int), .string t, .int .i64 n, .slice a l c] 26)
            clear hg
            go_enter Tryd.func80, Tryd.ntmps80
            go_wp2_with fail
            go_quiet (fail)
            have BX := HBD.out 26 nq
            generalize World.drewN (w.alloc (.cells #[.int .i64 0, .string t, .int .i64 n, .slice a l c] 26)) nq = W1 at BX ⊢
            obtain ⟨hW1, c0, c1, c2, c3, bW1⟩ := BX
            clear hg1
            go_wp2_with (go_at_call 98; refine (implNameOk t _ _ HNM.out).mono ?_; rintro e w1 ⟨rfl, rfl⟩)
            go_ret
            exact ⟨by rw [HE.out]; rfl, bW1⟩
        by_cases k1 : i = 1
        · subst k1
          have HE : Hid (v = (t.toList.isEmpty && (decide (0 ≤ n) && decide (n ≤ 999999999)))) := by unfold Hid; rw [← HV.out]; unfold node1; rw [hkk, decide_eq_true hlm, if_neg (by omega), if_neg (by omega), if_pos (by omega), Bool.decide_and]; rfl
          cases htx : t.toList.isEmpty with
          | false =>
            rw [htx] at HE
            clear HV
            have hg1 := hg (.cells #[.int .i64 (1 : Int), .string t, .int .i64 n, .slice a l c] 26)
            clear hg
            go_enter Tryd.func80, Tryd.ntmps80
            go_wp2_with fail
            go_quiet (fail)
            have BX := HBD.out 26 nq
            generalize World.drewN (w.alloc (.cells #[.int .i64 1, .string t, .int .i64 n, .slice a l c] 26)) nq = W1 at BX ⊢
            obtain ⟨hW1, c0, c1, c2, c3, bW1⟩ := BX
            clear hg1
            go_wp2_with fail
            go_ret
            exact ⟨by rw [HE.out]; rfl, bW1⟩
          | true =>
            rw [htx] at HE
            clear HV
            by_cases h1 : ¬ 0 ≤ n
            · rw [decide_eq_false h1] at HE
              have hg1 := hg (.cells #[.int .i64 (1 : Int), .string t, .int .i64 n, .slice a l c] 26)
              clear hg
              go_enter Tryd.func80, Tryd.ntmps80
              go_wp2_with fail
              go_quiet (fail)
              have BX := HBD.out 26 nq
              generalize World.drewN (w.alloc (.cells #[.int .i64 1, .string t, .int .i64 n, .slice a l c] 26)) nq = W1 at BX ⊢
              obtain ⟨hW1, c0, c1, c2, c3, bW1⟩ := BX
              clear hg1
              go_wp2_with fail
              go_ret
              exact ⟨by rw [HE.out]; rfl, bW1⟩
            · have h1 : 0 ≤ n := by omega
              rw [decide_eq_true h1] at HE
              have hg1 := hg (.cells #[.int .i64 (1 : Int), .string t, .int .i64 n, .slice a l c] 26)
              clear hg
              go_enter Tryd.func80, Tryd.ntmps80
              go_wp2_with fail
              go_quiet (fail)
              have BX := HBD.out 26 nq
              generalize World.drewN (w.alloc (.cells #[.int .i64 1, .string t, .int .i64 n, .slice a l c] 26)) nq = W1 at BX ⊢
              obtain ⟨hW1, c0, c1, c2, c3, bW1⟩ := BX
              clear hg1
              go_wp2_with fail
              go_ret
              exact ⟨by rw [HE.out]; rfl, bW1⟩
        by_cases k2 : i = 2
        · subst k2
          have HE : Hid (v = (decide (t.size ≤ 100) && decide (n = 0))) := by unfold Hid; rw [← HV.out]; unfold node1; rw [hkk, decide_eq_true hlm, if_neg (by omega), if_pos (by omega), if_neg (by omega)]; rfl
          have hn0 : ∃ q, (n == 0) = q ∧ decide (n = 0) = q := ⟨_, rfl, rfl⟩
          obtain ⟨q, hq1, hq2⟩ := hn0
          rw [hq2] at HE
          clear hq2
          by_cases htx : t.size ≤ 100
          · rw [decide_eq_true htx] at HE
            clear HV
            have hg1 := hg (.cells #[.int .i64 (2 : Int), .string t, .int .i64 n, .slice a l c] 26)
            clear hg
            go_enter Tryd.func80, Tryd.ntmps80
            go_wp2_with fail
            go_quiet (fail)
            have BX := HBD.out 26 nq
            generalize World.drewN (w.alloc (.cells #[.int .i64 2, .string t, .int .i64 n, .slice a l c] 26)) nq = W1 at BX ⊢
            obtain ⟨hW1, c0, c1, c2, c3, bW1⟩ := BX
            clear hg1
            go_wp2_with fail
            go_ret
            exact ⟨by rw [HE.out]; rfl, bW1⟩
          · rw [decide_eq_false htx] at HE
            clear HV
            have hg1 := hg (.cells #[.int .i64 (2 : Int), .string t, .int .i64 n, .slice a l c] 26)
            clear hg
            go_enter Tryd.func80, Tryd.ntmps80
            go_wp2_with fail
            go_quiet (fail)
            have BX := HBD.out 26 nq
            generalize World.drewN (w.alloc (.cells #[.int .i64 2, .string t, .int .i64 n, .slice a l c] 26)) nq = W1 at BX ⊢
            obtain ⟨hW1, c0, c1, c2, c3, bW1⟩ := BX
            clear hg1
            go_wp2_with fail
            go_ret
            exact ⟨by rw [HE.out]; rfl, bW1⟩
        have HE : Hid (v = (t.toList.isEmpty && decide (n = 0))) := by unfold Hid; rw [← HV.out]; unfold node1; rw [hkk, decide_eq_true hlm, if_neg (by omega), if_neg (by omega), if_neg (by omega)]; rfl
        have kb0 : ((i : Int) == 0) = false := by simp; omega
        have kb1 : ((i : Int) == 1) = false := by simp; omega
        have kb2 : ((i : Int) == 2) = false := by simp; omega
        have hn0 : ∃ q, (n == 0) = q ∧ decide (n = 0) = q := ⟨_, rfl, rfl⟩
        obtain ⟨q, hq1, hq2⟩ := hn0
        rw [hq2] at HE
        clear hq2 k0 k1 k2
        cases htx : t.toList.isEmpty with
        | false =>
          rw [htx] at HE
          clear HV
          have hg1 := hg (.cells #[.int .i64 (i : Int), .string t, .int .i64 n, .slice a l c] 26)
          clear hg
          go_enter Tryd.func80, Tryd.ntmps80
          go_wp2_with fail
          go_quiet (fail)
          have BX := HBD.out 26 nq
          generalize World.drewN (w.alloc (.cells #[.int .i64 (i : Int), .string t, .int .i64 n, .slice a l c] 26)) nq = W1 at BX ⊢
          obtain ⟨hW1, c0, c1, c2, c3, bW1⟩ := BX
          clear hg1
          go_wp2_with fail
          go_ret
          exact ⟨by rw [HE.out]; rfl, bW1⟩
        | true =>
          rw [htx] at HE
          clear HV
          have hg1 := hg (.cells #[.int .i64 (i : Int), .string t, .int .i64 n, .slice a l c] 26)
          clear hg
          go_enter Tryd.func80, Tryd.ntmps80
          go_wp2_with fail
          go_quiet (fail)
          have BX := HBD.out 26 nq
          generalize World.drewN (w.alloc (.cells #[.int .i64 (i : Int), .string t, .int .i64 n, .slice a l c] 26)) nq = W1 at BX ⊢
          obtain ⟨hW1, c0, c1, c2, c3, bW1⟩ := BX
          clear hg1
          go_wp2_with fail
          go_ret
          exact ⟨by rw [HE.out]; rfl, bW1⟩
      · have hne : ((l : Int) != m) = true := by simp; exact hlm
        have HE : Hid (v = false) := by unfold Hid; rw [← HV.out]; unfold node1; rw [hkk, decide_eq_false hlm]; rfl
        clear HV
        have hg1 := hg (.cells #[.int .i64 (i : Int), .string t, .int .i64 n, .slice a l c] 26)
        clear hg
        go_enter Tryd.func80, Tryd.ntmps80
        go_wp2_with fail
        go_quiet (fail)
        have BX := HBD.out 26 nq
        generalize World.drewN (w.alloc (.cells #[.int .i64 (i : Int), .string t, .int .i64 n, .slice a l c] 26)) nq = W1 at BX ⊢
        obtain ⟨hW1, c0, c1, c2, c3, bW1⟩ := BX
        clear hg1
        go_wp2_with fail
        go_ret
        exact ⟨by rw [HE.out]; rfl, bW1⟩

end Go.Proofs.YtefjjcoaeanagaaDoor
