/- The laws' own helpers over schemas (the size that is left): Plan. Written by tools/gen_plan.py. -/
import Derived.Test.YtefjjcoaeanagaaDat2
import Derived.Test.YtefjjcoaeanagaaPl
import Derived.Test.YtefjjcoaeanagaaPlSzA
import Derived.Test.YtefjjcoaeanagaaPlSzD
import Derived.Test.YtefjjcoaeanagaaPlSzE
namespace Go.Proofs.Ytefjjcoaeanagaa
open Go.RowKit

set_option maxHeartbeats 2000000 in
theorem szPl (vs : List Value) (x : Pl) (left : Int) (w : World) (hR : RPl 0 w vs x) (h0 : 0 ≤ left) (h1 : left ≤ 1048576) :
    Calls Try.prog 21 #[.agg vs.toArray, .int .i64 left] w fun e w' => e = .returned (.int .i64 (leftN x.wt left)) ∧ Below w.heap.size w w' := by
  obtain ⟨a0, c0, a1, c1, a2, c2, a3, c3, a4, c4, rfl, hfit, k0, k1, k2, k3, k4⟩ := hR
  have K0 := Lib.hid (fun w' (hb : Below w.heap.size w w') => k0.kept goodLab (Kept.below hb))
  clear k0
  have K1 := Lib.hid (fun w' (hb : Below w.heap.size w w') => k1.kept goodSq (Kept.below hb))
  clear k1
  have K2 := Lib.hid (fun w' (hb : Below w.heap.size w w') => k2.kept goodTb (Kept.below hb))
  clear k2
  have K3 := Lib.hid (fun w' (hb : Below w.heap.size w w') => k3.kept goodIx (Kept.below hb))
  clear k3
  have K4 := Lib.hid (fun w' (hb : Below w.heap.size w w') => k4.kept goodVw (Kept.below hb))
  clear k4
  have HW := Lib.hid (show x.wt = (x.enums.length + wtS Lab.wt x.enums) + (x.seqs.length + wtS Sq.wt x.seqs) + (x.tables.length + wtS Tb.wt x.tables) + (x.indexes.length + wtS Ix.wt x.indexes) + (x.views.length + wtS Vw.wt x.views) from rfl)
  go_enter Try.func21, Try.ntmps21
  go_wp2_with fail
  refine (szLabS a0 c0 x.enums (left) _ (K0.out _ ?_) (by omega) (by omega)).mono ?_
  · exact (Below.refl _ _).alloc (Nat.le_refl _) _
  by_cases q0 : left < (((x.enums.length + wtS Lab.wt x.enums) : Nat) : Int)
  · have H : Hid (leftN x.wt left = -1) := by unfold Hid leftN; rw [if_pos (by have := HW.out; omega)]
    rw [show leftN (x.enums.length + wtS Lab.wt x.enums) (left) = -1 from if_pos q0]
    rintro e w0 ⟨rfl, b0⟩
    have B0 := Lib.hid (Below.call b0 ((Below.refl _ _).alloc (Nat.le_refl _) _))
    clear b0
    go_wp2_with fail
    go_ret
    exact ⟨by rw [H.out]; rfl, B0.out⟩
  · have d0 : decide (left - (((x.enums.length + wtS Lab.wt x.enums) : Nat) : Int) < 0) = false := by simp; omega
    rw [show leftN (x.enums.length + wtS Lab.wt x.enums) (left) = left - (((x.enums.length + wtS Lab.wt x.enums) : Nat) : Int) from if_neg q0]
    rintro e w0 ⟨rfl, b0⟩
    have B0 := Lib.hid (Below.call b0 ((Below.refl _ _).alloc (Nat.le_refl _) _))
    have A0 := Lib.hid (Blk.call b0 (blk_new w _ [.slice a0 x.enums.length c0, .slice a1 x.seqs.length c1, .slice a2 x.tables.length c2, .slice a3 x.indexes.length c3, .slice a4 x.views.length c4, .int .i64 x.next]))
    clear b0
    have g0_0 : w0.cell? ⟨w.heap.size, 0, none⟩ = some (.slice a0 x.enums.length c0) := (A0.out.2 0 (by simp)).1
    have g0_1 : w0.cell? ⟨w.heap.size, 1, none⟩ = some (.slice a1 x.seqs.length c1) := (A0.out.2 1 (by simp)).1
    have g0_2 : w0.cell? ⟨w.heap.size, 2, none⟩ = some (.slice a2 x.tables.length c2) := (A0.out.2 2 (by simp)).1
    have g0_3 : w0.cell? ⟨w.heap.size, 3, none⟩ = some (.slice a3 x.indexes.length c3) := (A0.out.2 3 (by simp)).1
    have g0_4 : w0.cell? ⟨w.heap.size, 4, none⟩ = some (.slice a4 x.views.length c4) := (A0.out.2 4 (by simp)).1
    have g0_5 : w0.cell? ⟨w.heap.size, 5, none⟩ = some (.int .i64 x.next) := (A0.out.2 5 (by simp)).1
    go_wp2_with fail
    refine (szSqS a1 c1 x.seqs (left - (((x.enums.length + wtS Lab.wt x.enums) : Nat) : Int)) _ (K1.out _ ?_) (by omega) (by omega)).mono ?_
    · exact B0.out
    by_cases q1 : left - (((x.enums.length + wtS Lab.wt x.enums) : Nat) : Int) < (((x.seqs.length + wtS Sq.wt x.seqs) : Nat) : Int)
    · have H : Hid (leftN x.wt left = -1) := by unfold Hid leftN; rw [if_pos (by have := HW.out; omega)]
      rw [show leftN (x.seqs.length + wtS Sq.wt x.seqs) (left - (((x.enums.length + wtS Lab.wt x.enums) : Nat) : Int)) = -1 from if_pos q1]
      rintro e w1 ⟨rfl, b1⟩
      have B1 := Lib.hid (Below.call b1 B0.out)
      clear b1
      go_wp2_with fail
      go_ret
      exact ⟨by rw [H.out]; rfl, B1.out⟩
    · have d1 : decide (left - (((x.enums.length + wtS Lab.wt x.enums) : Nat) : Int) - (((x.seqs.length + wtS Sq.wt x.seqs) : Nat) : Int) < 0) = false := by simp; omega
      rw [show leftN (x.seqs.length + wtS Sq.wt x.seqs) (left - (((x.enums.length + wtS Lab.wt x.enums) : Nat) : Int)) = left - (((x.enums.length + wtS Lab.wt x.enums) : Nat) : Int) - (((x.seqs.length + wtS Sq.wt x.seqs) : Nat) : Int) from if_neg q1]
      rintro e w1 ⟨rfl, b1⟩
      have B1 := Lib.hid (Below.call b1 B0.out)
      have A1 := Lib.hid (Blk.call b1 A0.out)
      clear b1
      clear g0_0 g0_1 g0_2 g0_3 g0_4 g0_5
      have g1_0 : w1.cell? ⟨w.heap.size, 0, none⟩ = some (.slice a0 x.enums.length c0) := (A1.out.2 0 (by simp)).1
      have g1_1 : w1.cell? ⟨w.heap.size, 1, none⟩ = some (.slice a1 x.seqs.length c1) := (A1.out.2 1 (by simp)).1
      have g1_2 : w1.cell? ⟨w.heap.size, 2, none⟩ = some (.slice a2 x.tables.length c2) := (A1.out.2 2 (by simp)).1
      have g1_3 : w1.cell? ⟨w.heap.size, 3, none⟩ = some (.slice a3 x.indexes.length c3) := (A1.out.2 3 (by simp)).1
      have g1_4 : w1.cell? ⟨w.heap.size, 4, none⟩ = some (.slice a4 x.views.length c4) := (A1.out.2 4 (by simp)).1
      have g1_5 : w1.cell? ⟨w.heap.size, 5, none⟩ = some (.int .i64 x.next) := (A1.out.2 5 (by simp)).1
      go_wp2_with fail
      refine (szTbS a2 c2 x.tables (left - (((x.enums.length + wtS Lab.wt x.enums) : Nat) : Int) - (((x.seqs.length + wtS Sq.wt x.seqs) : Nat) : Int)) _ (K2.out _ ?_) (by omega) (by omega)).mono ?_
      · exact B1.out
      by_cases q2 : left - (((x.enums.length + wtS Lab.wt x.enums) : Nat) : Int) - (((x.seqs.length + wtS Sq.wt x.seqs) : Nat) : Int) < (((x.tables.length + wtS Tb.wt x.tables) : Nat) : Int)
      · have H : Hid (leftN x.wt left = -1) := by unfold Hid leftN; rw [if_pos (by have := HW.out; omega)]
        rw [show leftN (x.tables.length + wtS Tb.wt x.tables) (left - (((x.enums.length + wtS Lab.wt x.enums) : Nat) : Int) - (((x.seqs.length + wtS Sq.wt x.seqs) : Nat) : Int)) = -1 from if_pos q2]
        rintro e w2 ⟨rfl, b2⟩
        have B2 := Lib.hid (Below.call b2 B1.out)
        clear b2
        go_wp2_with fail
        go_ret
        exact ⟨by rw [H.out]; rfl, B2.out⟩
      · have d2 : decide (left - (((x.enums.length + wtS Lab.wt x.enums) : Nat) : Int) - (((x.seqs.length + wtS Sq.wt x.seqs) : Nat) : Int) - (((x.tables.length + wtS Tb.wt x.tables) : Nat) : Int) < 0) = false := by simp; omega
        rw [show leftN (x.tables.length + wtS Tb.wt x.tables) (left - (((x.enums.length + wtS Lab.wt x.enums) : Nat) : Int) - (((x.seqs.length + wtS Sq.wt x.seqs) : Nat) : Int)) = left - (((x.enums.length + wtS Lab.wt x.enums) : Nat) : Int) - (((x.seqs.length + wtS Sq.wt x.seqs) : Nat) : Int) - (((x.tables.length + wtS Tb.wt x.tables) : Nat) : Int) from if_neg q2]
        rintro e w2 ⟨rfl, b2⟩
        have B2 := Lib.hid (Below.call b2 B1.out)
        have A2 := Lib.hid (Blk.call b2 A1.out)
        clear b2
        clear g1_0 g1_1 g1_2 g1_3 g1_4 g1_5
        have g2_0 : w2.cell? ⟨w.heap.size, 0, none⟩ = some (.slice a0 x.enums.length c0) := (A2.out.2 0 (by simp)).1
        have g2_1 : w2.cell? ⟨w.heap.size, 1, none⟩ = some (.slice a1 x.seqs.length c1) := (A2.out.2 1 (by simp)).1
        have g2_2 : w2.cell? ⟨w.heap.size, 2, none⟩ = some (.slice a2 x.tables.length c2) := (A2.out.2 2 (by simp)).1
        have g2_3 : w2.cell? ⟨w.heap.size, 3, none⟩ = some (.slice a3 x.indexes.length c3) := (A2.out.2 3 (by simp)).1
        have g2_4 : w2.cell? ⟨w.heap.size, 4, none⟩ = some (.slice a4 x.views.length c4) := (A2.out.2 4 (by simp)).1
        have g2_5 : w2.cell? ⟨w.heap.size, 5, none⟩ = some (.int .i64 x.next) := (A2.out.2 5 (by simp)).1
        go_wp2_with fail
        refine (szIxS a3 c3 x.indexes (left - (((x.enums.length + wtS Lab.wt x.enums) : Nat) : Int) - (((x.seqs.length + wtS Sq.wt x.seqs) : Nat) : Int) - (((x.tables.length + wtS Tb.wt x.tables) : Nat) : Int)) _ (K3.out _ ?_) (by omega) (by omega)).mono ?_
        · exact B2.out
        by_cases q3 : left - (((x.enums.length + wtS Lab.wt x.enums) : Nat) : Int) - (((x.seqs.length + wtS Sq.wt x.seqs) : Nat) : Int) - (((x.tables.length + wtS Tb.wt x.tables) : Nat) : Int) < (((x.indexes.length + wtS Ix.wt x.indexes) : Nat) : Int)
        · have H : Hid (leftN x.wt left = -1) := by unfold Hid leftN; rw [if_pos (by have := HW.out; omega)]
          rw [show leftN (x.indexes.length + wtS Ix.wt x.indexes) (left - (((x.enums.length + wtS Lab.wt x.enums) : Nat) : Int) - (((x.seqs.length + wtS Sq.wt x.seqs) : Nat) : Int) - (((x.tables.length + wtS Tb.wt x.tables) : Nat) : Int)) = -1 from if_pos q3]
          rintro e w3 ⟨rfl, b3⟩
          have B3 := Lib.hid (Below.call b3 B2.out)
          clear b3
          go_wp2_with fail
          go_ret
          exact ⟨by rw [H.out]; rfl, B3.out⟩
        · have d3 : decide (left - (((x.enums.length + wtS Lab.wt x.enums) : Nat) : Int) - (((x.seqs.length + wtS Sq.wt x.seqs) : Nat) : Int) - (((x.tables.length + wtS Tb.wt x.tables) : Nat) : Int) - (((x.indexes.length + wtS Ix.wt x.indexes) : Nat) : Int) < 0) = false := by simp; omega
          rw [show leftN (x.indexes.length + wtS Ix.wt x.indexes) (left - (((x.enums.length + wtS Lab.wt x.enums) : Nat) : Int) - (((x.seqs.length + wtS Sq.wt x.seqs) : Nat) : Int) - (((x.tables.length + wtS Tb.wt x.tables) : Nat) : Int)) = left - (((x.enums.length + wtS Lab.wt x.enums) : Nat) : Int) - (((x.seqs.length + wtS Sq.wt x.seqs) : Nat) : Int) - (((x.tables.length + wtS Tb.wt x.tables) : Nat) : Int) - (((x.indexes.length + wtS Ix.wt x.indexes) : Nat) : Int) from if_neg q3]
          rintro e w3 ⟨rfl, b3⟩
          have B3 := Lib.hid (Below.call b3 B2.out)
          have A3 := Lib.hid (Blk.call b3 A2.out)
          clear b3
          clear g2_0 g2_1 g2_2 g2_3 g2_4 g2_5
          have g3_0 : w3.cell? ⟨w.heap.size, 0, none⟩ = some (.slice a0 x.enums.length c0) := (A3.out.2 0 (by simp)).1
          have g3_1 : w3.cell? ⟨w.heap.size, 1, none⟩ = some (.slice a1 x.seqs.length c1) := (A3.out.2 1 (by simp)).1
          have g3_2 : w3.cell? ⟨w.heap.size, 2, none⟩ = some (.slice a2 x.tables.length c2) := (A3.out.2 2 (by simp)).1
          have g3_3 : w3.cell? ⟨w.heap.size, 3, none⟩ = some (.slice a3 x.indexes.length c3) := (A3.out.2 3 (by simp)).1
          have g3_4 : w3.cell? ⟨w.heap.size, 4, none⟩ = some (.slice a4 x.views.length c4) := (A3.out.2 4 (by simp)).1
          have g3_5 : w3.cell? ⟨w.heap.size, 5, none⟩ = some (.int .i64 x.next) := (A3.out.2 5 (by simp)).1
          go_wp2_with fail
          refine (szVwS a4 c4 x.views (left - (((x.enums.length + wtS Lab.wt x.enums) : Nat) : Int) - (((x.seqs.length + wtS Sq.wt x.seqs) : Nat) : Int) - (((x.tables.length + wtS Tb.wt x.tables) : Nat) : Int) - (((x.indexes.length + wtS Ix.wt x.indexes) : Nat) : Int)) _ (K4.out _ ?_) (by omega) (by omega)).mono ?_
          · exact B3.out
          by_cases q4 : left - (((x.enums.length + wtS Lab.wt x.enums) : Nat) : Int) - (((x.seqs.length + wtS Sq.wt x.seqs) : Nat) : Int) - (((x.tables.length + wtS Tb.wt x.tables) : Nat) : Int) - (((x.indexes.length + wtS Ix.wt x.indexes) : Nat) : Int) < (((x.views.length + wtS Vw.wt x.views) : Nat) : Int)
          · have H : Hid (leftN x.wt left = -1) := by unfold Hid leftN; rw [if_pos (by have := HW.out; omega)]
            rw [show leftN (x.views.length + wtS Vw.wt x.views) (left - (((x.enums.length + wtS Lab.wt x.enums) : Nat) : Int) - (((x.seqs.length + wtS Sq.wt x.seqs) : Nat) : Int) - (((x.tables.length + wtS Tb.wt x.tables) : Nat) : Int) - (((x.indexes.length + wtS Ix.wt x.indexes) : Nat) : Int)) = -1 from if_pos q4]
            rintro e w4 ⟨rfl, b4⟩
            have B4 := Lib.hid (Below.call b4 B3.out)
            clear b4
            go_wp2_with fail
            go_ret
            exact ⟨by rw [H.out]; rfl, B4.out⟩
          · have d4 : decide (left - (((x.enums.length + wtS Lab.wt x.enums) : Nat) : Int) - (((x.seqs.length + wtS Sq.wt x.seqs) : Nat) : Int) - (((x.tables.length + wtS Tb.wt x.tables) : Nat) : Int) - (((x.indexes.length + wtS Ix.wt x.indexes) : Nat) : Int) - (((x.views.length + wtS Vw.wt x.views) : Nat) : Int) < 0) = false := by simp; omega
            rw [show leftN (x.views.length + wtS Vw.wt x.views) (left - (((x.enums.length + wtS Lab.wt x.enums) : Nat) : Int) - (((x.seqs.length + wtS Sq.wt x.seqs) : Nat) : Int) - (((x.tables.length + wtS Tb.wt x.tables) : Nat) : Int) - (((x.indexes.length + wtS Ix.wt x.indexes) : Nat) : Int)) = left - (((x.enums.length + wtS Lab.wt x.enums) : Nat) : Int) - (((x.seqs.length + wtS Sq.wt x.seqs) : Nat) : Int) - (((x.tables.length + wtS Tb.wt x.tables) : Nat) : Int) - (((x.indexes.length + wtS Ix.wt x.indexes) : Nat) : Int) - (((x.views.length + wtS Vw.wt x.views) : Nat) : Int) from if_neg q4]
            rintro e w4 ⟨rfl, b4⟩
            have B4 := Lib.hid (Below.call b4 B3.out)
            have A4 := Lib.hid (Blk.call b4 A3.out)
            clear b4
            clear g3_0 g3_1 g3_2 g3_3 g3_4 g3_5
            have g4_0 : w4.cell? ⟨w.heap.size, 0, none⟩ = some (.slice a0 x.enums.length c0) := (A4.out.2 0 (by simp)).1
            have g4_1 : w4.cell? ⟨w.heap.size, 1, none⟩ = some (.slice a1 x.seqs.length c1) := (A4.out.2 1 (by simp)).1
            have g4_2 : w4.cell? ⟨w.heap.size, 2, none⟩ = some (.slice a2 x.tables.length c2) := (A4.out.2 2 (by simp)).1
            have g4_3 : w4.cell? ⟨w.heap.size, 3, none⟩ = some (.slice a3 x.indexes.length c3) := (A4.out.2 3 (by simp)).1
            have g4_4 : w4.cell? ⟨w.heap.size, 4, none⟩ = some (.slice a4 x.views.length c4) := (A4.out.2 4 (by simp)).1
            have g4_5 : w4.cell? ⟨w.heap.size, 5, none⟩ = some (.int .i64 x.next) := (A4.out.2 5 (by simp)).1
            have H : Hid (leftN x.wt left = left - (((x.enums.length + wtS Lab.wt x.enums) : Nat) : Int) - (((x.seqs.length + wtS Sq.wt x.seqs) : Nat) : Int) - (((x.tables.length + wtS Tb.wt x.tables) : Nat) : Int) - (((x.indexes.length + wtS Ix.wt x.indexes) : Nat) : Int) - (((x.views.length + wtS Vw.wt x.views) : Nat) : Int)) := by unfold Hid leftN; rw [if_neg (by have := HW.out; omega)]; have := HW.out; omega
            go_wp2_with fail
            go_ret
            exact ⟨by rw [H.out]; rfl, B4.out⟩

end Go.Proofs.Ytefjjcoaeanagaa
