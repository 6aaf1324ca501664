/- The laws' own helpers over schemas (the equality): Plan. Written by tools/gen_plan.py. -/
import Derived.Test.YtefjjcoaeanagaaDat2
import Derived.Test.YtefjjcoaeanagaaPl
import Derived.Test.YtefjjcoaeanagaaPlEqA
import Derived.Test.YtefjjcoaeanagaaPlEqD
import Derived.Test.YtefjjcoaeanagaaPlEqE
namespace Go.Proofs.Ytefjjcoaeanagaa
open Go.RowKit

set_option maxHeartbeats 2000000 in
theorem eqPl (vs us : List Value) (x : Pl) (w : World) (hR : RPl 0 w vs x) (hU : RPl 0 w us x) :
    Calls Try.prog 23 #[.agg vs.toArray, .agg us.toArray] w fun e w' => e = .returned (.bool true) ∧ Below w.heap.size w w' := by
  obtain ⟨a0, c0, a1, c1, a2, c2, a3, c3, a4, c4, rfl, hfit, k0, k1, k2, k3, k4⟩ := hR
  obtain ⟨p0, q0, p1, q1, p2, q2, p3, q3, p4, q4, rfl, _, m0, m1, m2, m3, m4⟩ := hU
  have N0 := k0.len
  have K0 := Lib.hid (fun w' (hb : Below w.heap.size w w') => k0.kept goodLab (Kept.below hb))
  have M0 := Lib.hid (fun w' (hb : Below w.heap.size w w') => m0.kept goodLab (Kept.below hb))
  clear k0 m0
  have N1 := k1.len
  have K1 := Lib.hid (fun w' (hb : Below w.heap.size w w') => k1.kept goodSq (Kept.below hb))
  have M1 := Lib.hid (fun w' (hb : Below w.heap.size w w') => m1.kept goodSq (Kept.below hb))
  clear k1 m1
  have N2 := k2.len
  have K2 := Lib.hid (fun w' (hb : Below w.heap.size w w') => k2.kept goodTb (Kept.below hb))
  have M2 := Lib.hid (fun w' (hb : Below w.heap.size w w') => m2.kept goodTb (Kept.below hb))
  clear k2 m2
  have N3 := k3.len
  have K3 := Lib.hid (fun w' (hb : Below w.heap.size w w') => k3.kept goodIx (Kept.below hb))
  have M3 := Lib.hid (fun w' (hb : Below w.heap.size w w') => m3.kept goodIx (Kept.below hb))
  clear k3 m3
  have N4 := k4.len
  have K4 := Lib.hid (fun w' (hb : Below w.heap.size w w') => k4.kept goodVw (Kept.below hb))
  have M4 := Lib.hid (fun w' (hb : Below w.heap.size w w') => m4.kept goodVw (Kept.below hb))
  clear k4 m4
  have e_next : (x.next != x.next) = false := by simp
  go_enter Try.func23, Try.ntmps23
  go_wp2_with fail
  refine (eqLabS a0 p0 c0 q0 x.enums _ (K0.out _ (by (repeat (first | exact Below.refl _ _ | exact Below.refl _ _ | refine Below.alloc ?_ (by first | omega | (simp; done) | (simp; omega)) _ | refine Below.setCell ?_ (by first | omega | (simp; done) | (simp; omega)) _)))) (M0.out _ (by (repeat (first | exact Below.refl _ _ | exact Below.refl _ _ | refine Below.alloc ?_ (by first | omega | (simp; done) | (simp; omega)) _ | refine Below.setCell ?_ (by first | omega | (simp; done) | (simp; omega)) _))))).mono ?_
  rintro e w0 ⟨rfl, b0⟩
  have B0 := Lib.hid (show Below w.heap.size w w0 from Below.call b0 (by (repeat (first | exact Below.refl _ _ | exact Below.refl _ _ | refine Below.alloc ?_ (by first | omega | (simp; done) | (simp; omega)) _ | refine Below.setCell ?_ (by first | omega | (simp; done) | (simp; omega)) _))))
  have A0 := Lib.hid (show Blk w0 w.heap.size [.slice a0 x.enums.length c0, .slice a1 x.seqs.length c1, .slice a2 x.tables.length c2, .slice a3 x.indexes.length c3, .slice a4 x.views.length c4, .int .i64 x.next] from Blk.call b0 ((blk_new w _ [.slice a0 x.enums.length c0, .slice a1 x.seqs.length c1, .slice a2 x.tables.length c2, .slice a3 x.indexes.length c3, .slice a4 x.views.length c4, .int .i64 x.next]).alloc _))
  have Y0 := Lib.hid (show Blk w0 (w.heap.size + 1) [.slice p0 x.enums.length q0, .slice p1 x.seqs.length q1, .slice p2 x.tables.length q2, .slice p3 x.indexes.length q3, .slice p4 x.views.length q4, .int .i64 x.next] from Blk.call b0 (blk_new' (w := w.alloc _) (b := w.heap.size + 1) (by simp) _ [.slice p0 x.enums.length q0, .slice p1 x.seqs.length q1, .slice p2 x.tables.length q2, .slice p3 x.indexes.length q3, .slice p4 x.views.length q4, .int .i64 x.next]))
  clear b0
  have g0_0 : w0.cell? ⟨w.heap.size, 0, none⟩ = some (.slice a0 x.enums.length c0) := (A0.out.2 0 (by simp)).1
  have y0_0 : w0.cell? ⟨w.heap.size + 1, 0, none⟩ = some (.slice p0 x.enums.length q0) := (Y0.out.2 0 (by simp)).1
  have g0_1 : w0.cell? ⟨w.heap.size, 1, none⟩ = some (.slice a1 x.seqs.length c1) := (A0.out.2 1 (by simp)).1
  have y0_1 : w0.cell? ⟨w.heap.size + 1, 1, none⟩ = some (.slice p1 x.seqs.length q1) := (Y0.out.2 1 (by simp)).1
  have g0_2 : w0.cell? ⟨w.heap.size, 2, none⟩ = some (.slice a2 x.tables.length c2) := (A0.out.2 2 (by simp)).1
  have y0_2 : w0.cell? ⟨w.heap.size + 1, 2, none⟩ = some (.slice p2 x.tables.length q2) := (Y0.out.2 2 (by simp)).1
  have g0_3 : w0.cell? ⟨w.heap.size, 3, none⟩ = some (.slice a3 x.indexes.length c3) := (A0.out.2 3 (by simp)).1
  have y0_3 : w0.cell? ⟨w.heap.size + 1, 3, none⟩ = some (.slice p3 x.indexes.length q3) := (Y0.out.2 3 (by simp)).1
  have g0_4 : w0.cell? ⟨w.heap.size, 4, none⟩ = some (.slice a4 x.views.length c4) := (A0.out.2 4 (by simp)).1
  have y0_4 : w0.cell? ⟨w.heap.size + 1, 4, none⟩ = some (.slice p4 x.views.length q4) := (Y0.out.2 4 (by simp)).1
  have g0_5 : w0.cell? ⟨w.heap.size, 5, none⟩ = some (.int .i64 x.next) := (A0.out.2 5 (by simp)).1
  have y0_5 : w0.cell? ⟨w.heap.size + 1, 5, none⟩ = some (.int .i64 x.next) := (Y0.out.2 5 (by simp)).1
  go_wp2_with fail
  refine (eqSqS a1 p1 c1 q1 x.seqs _ (K1.out _ B0.out) (M1.out _ B0.out)).mono ?_
  rintro e w1 ⟨rfl, b1⟩
  have B1 := Lib.hid (Below.call b1 B0.out)
  have A1 := Lib.hid (show Blk w1 w.heap.size [.slice a0 x.enums.length c0, .slice a1 x.seqs.length c1, .slice a2 x.tables.length c2, .slice a3 x.indexes.length c3, .slice a4 x.views.length c4, .int .i64 x.next] from Blk.call b1 (A0.out))
  have Y1 := Lib.hid (show Blk w1 (w.heap.size + 1) [.slice p0 x.enums.length q0, .slice p1 x.seqs.length q1, .slice p2 x.tables.length q2, .slice p3 x.indexes.length q3, .slice p4 x.views.length q4, .int .i64 x.next] from Blk.call b1 (Y0.out))
  clear b1
  clear g0_0 g0_1 g0_2 g0_3 g0_4 g0_5 y0_0 y0_1 y0_2 y0_3 y0_4 y0_5
  have g1_0 : w1.cell? ⟨w.heap.size, 0, none⟩ = some (.slice a0 x.enums.length c0) := (A1.out.2 0 (by simp)).1
  have y1_0 : w1.cell? ⟨w.heap.size + 1, 0, none⟩ = some (.slice p0 x.enums.length q0) := (Y1.out.2 0 (by simp)).1
  have g1_1 : w1.cell? ⟨w.heap.size, 1, none⟩ = some (.slice a1 x.seqs.length c1) := (A1.out.2 1 (by simp)).1
  have y1_1 : w1.cell? ⟨w.heap.size + 1, 1, none⟩ = some (.slice p1 x.seqs.length q1) := (Y1.out.2 1 (by simp)).1
  have g1_2 : w1.cell? ⟨w.heap.size, 2, none⟩ = some (.slice a2 x.tables.length c2) := (A1.out.2 2 (by simp)).1
  have y1_2 : w1.cell? ⟨w.heap.size + 1, 2, none⟩ = some (.slice p2 x.tables.length q2) := (Y1.out.2 2 (by simp)).1
  have g1_3 : w1.cell? ⟨w.heap.size, 3, none⟩ = some (.slice a3 x.indexes.length c3) := (A1.out.2 3 (by simp)).1
  have y1_3 : w1.cell? ⟨w.heap.size + 1, 3, none⟩ = some (.slice p3 x.indexes.length q3) := (Y1.out.2 3 (by simp)).1
  have g1_4 : w1.cell? ⟨w.heap.size, 4, none⟩ = some (.slice a4 x.views.length c4) := (A1.out.2 4 (by simp)).1
  have y1_4 : w1.cell? ⟨w.heap.size + 1, 4, none⟩ = some (.slice p4 x.views.length q4) := (Y1.out.2 4 (by simp)).1
  have g1_5 : w1.cell? ⟨w.heap.size, 5, none⟩ = some (.int .i64 x.next) := (A1.out.2 5 (by simp)).1
  have y1_5 : w1.cell? ⟨w.heap.size + 1, 5, none⟩ = some (.int .i64 x.next) := (Y1.out.2 5 (by simp)).1
  go_wp2_with fail
  refine (eqTbS a2 p2 c2 q2 x.tables _ (K2.out _ B1.out) (M2.out _ B1.out)).mono ?_
  rintro e w2 ⟨rfl, b2⟩
  have B2 := Lib.hid (Below.call b2 B1.out)
  have A2 := Lib.hid (show Blk w2 w.heap.size [.slice a0 x.enums.length c0, .slice a1 x.seqs.length c1, .slice a2 x.tables.length c2, .slice a3 x.indexes.length c3, .slice a4 x.views.length c4, .int .i64 x.next] from Blk.call b2 (A1.out))
  have Y2 := Lib.hid (show Blk w2 (w.heap.size + 1) [.slice p0 x.enums.length q0, .slice p1 x.seqs.length q1, .slice p2 x.tables.length q2, .slice p3 x.indexes.length q3, .slice p4 x.views.length q4, .int .i64 x.next] from Blk.call b2 (Y1.out))
  clear b2
  clear g1_0 g1_1 g1_2 g1_3 g1_4 g1_5 y1_0 y1_1 y1_2 y1_3 y1_4 y1_5
  have g2_0 : w2.cell? ⟨w.heap.size, 0, none⟩ = some (.slice a0 x.enums.length c0) := (A2.out.2 0 (by simp)).1
  have y2_0 : w2.cell? ⟨w.heap.size + 1, 0, none⟩ = some (.slice p0 x.enums.length q0) := (Y2.out.2 0 (by simp)).1
  have g2_1 : w2.cell? ⟨w.heap.size, 1, none⟩ = some (.slice a1 x.seqs.length c1) := (A2.out.2 1 (by simp)).1
  have y2_1 : w2.cell? ⟨w.heap.size + 1, 1, none⟩ = some (.slice p1 x.seqs.length q1) := (Y2.out.2 1 (by simp)).1
  have g2_2 : w2.cell? ⟨w.heap.size, 2, none⟩ = some (.slice a2 x.tables.length c2) := (A2.out.2 2 (by simp)).1
  have y2_2 : w2.cell? ⟨w.heap.size + 1, 2, none⟩ = some (.slice p2 x.tables.length q2) := (Y2.out.2 2 (by simp)).1
  have g2_3 : w2.cell? ⟨w.heap.size, 3, none⟩ = some (.slice a3 x.indexes.length c3) := (A2.out.2 3 (by simp)).1
  have y2_3 : w2.cell? ⟨w.heap.size + 1, 3, none⟩ = some (.slice p3 x.indexes.length q3) := (Y2.out.2 3 (by simp)).1
  have g2_4 : w2.cell? ⟨w.heap.size, 4, none⟩ = some (.slice a4 x.views.length c4) := (A2.out.2 4 (by simp)).1
  have y2_4 : w2.cell? ⟨w.heap.size + 1, 4, none⟩ = some (.slice p4 x.views.length q4) := (Y2.out.2 4 (by simp)).1
  have g2_5 : w2.cell? ⟨w.heap.size, 5, none⟩ = some (.int .i64 x.next) := (A2.out.2 5 (by simp)).1
  have y2_5 : w2.cell? ⟨w.heap.size + 1, 5, none⟩ = some (.int .i64 x.next) := (Y2.out.2 5 (by simp)).1
  go_wp2_with fail
  refine (eqIxS a3 p3 c3 q3 x.indexes _ (K3.out _ B2.out) (M3.out _ B2.out)).mono ?_
  rintro e w3 ⟨rfl, b3⟩
  have B3 := Lib.hid (Below.call b3 B2.out)
  have A3 := Lib.hid (show Blk w3 w.heap.size [.slice a0 x.enums.length c0, .slice a1 x.seqs.length c1, .slice a2 x.tables.length c2, .slice a3 x.indexes.length c3, .slice a4 x.views.length c4, .int .i64 x.next] from Blk.call b3 (A2.out))
  have Y3 := Lib.hid (show Blk w3 (w.heap.size + 1) [.slice p0 x.enums.length q0, .slice p1 x.seqs.length q1, .slice p2 x.tables.length q2, .slice p3 x.indexes.length q3, .slice p4 x.views.length q4, .int .i64 x.next] from Blk.call b3 (Y2.out))
  clear b3
  clear g2_0 g2_1 g2_2 g2_3 g2_4 g2_5 y2_0 y2_1 y2_2 y2_3 y2_4 y2_5
  have g3_0 : w3.cell? ⟨w.heap.size, 0, none⟩ = some (.slice a0 x.enums.length c0) := (A3.out.2 0 (by simp)).1
  have y3_0 : w3.cell? ⟨w.heap.size + 1, 0, none⟩ = some (.slice p0 x.enums.length q0) := (Y3.out.2 0 (by simp)).1
  have g3_1 : w3.cell? ⟨w.heap.size, 1, none⟩ = some (.slice a1 x.seqs.length c1) := (A3.out.2 1 (by simp)).1
  have y3_1 : w3.cell? ⟨w.heap.size + 1, 1, none⟩ = some (.slice p1 x.seqs.length q1) := (Y3.out.2 1 (by simp)).1
  have g3_2 : w3.cell? ⟨w.heap.size, 2, none⟩ = some (.slice a2 x.tables.length c2) := (A3.out.2 2 (by simp)).1
  have y3_2 : w3.cell? ⟨w.heap.size + 1, 2, none⟩ = some (.slice p2 x.tables.length q2) := (Y3.out.2 2 (by simp)).1
  have g3_3 : w3.cell? ⟨w.heap.size, 3, none⟩ = some (.slice a3 x.indexes.length c3) := (A3.out.2 3 (by simp)).1
  have y3_3 : w3.cell? ⟨w.heap.size + 1, 3, none⟩ = some (.slice p3 x.indexes.length q3) := (Y3.out.2 3 (by simp)).1
  have g3_4 : w3.cell? ⟨w.heap.size, 4, none⟩ = some (.slice a4 x.views.length c4) := (A3.out.2 4 (by simp)).1
  have y3_4 : w3.cell? ⟨w.heap.size + 1, 4, none⟩ = some (.slice p4 x.views.length q4) := (Y3.out.2 4 (by simp)).1
  have g3_5 : w3.cell? ⟨w.heap.size, 5, none⟩ = some (.int .i64 x.next) := (A3.out.2 5 (by simp)).1
  have y3_5 : w3.cell? ⟨w.heap.size + 1, 5, none⟩ = some (.int .i64 x.next) := (Y3.out.2 5 (by simp)).1
  go_wp2_with fail
  refine (eqVwS a4 p4 c4 q4 x.views _ (K4.out _ B3.out) (M4.out _ B3.out)).mono ?_
  rintro e w4 ⟨rfl, b4⟩
  have B4 := Lib.hid (Below.call b4 B3.out)
  have A4 := Lib.hid (show Blk w4 w.heap.size [.slice a0 x.enums.length c0, .slice a1 x.seqs.length c1, .slice a2 x.tables.length c2, .slice a3 x.indexes.length c3, .slice a4 x.views.length c4, .int .i64 x.next] from Blk.call b4 (A3.out))
  have Y4 := Lib.hid (show Blk w4 (w.heap.size + 1) [.slice p0 x.enums.length q0, .slice p1 x.seqs.length q1, .slice p2 x.tables.length q2, .slice p3 x.indexes.length q3, .slice p4 x.views.length q4, .int .i64 x.next] from Blk.call b4 (Y3.out))
  clear b4
  clear g3_0 g3_1 g3_2 g3_3 g3_4 g3_5 y3_0 y3_1 y3_2 y3_3 y3_4 y3_5
  have g4_0 : w4.cell? ⟨w.heap.size, 0, none⟩ = some (.slice a0 x.enums.length c0) := (A4.out.2 0 (by simp)).1
  have y4_0 : w4.cell? ⟨w.heap.size + 1, 0, none⟩ = some (.slice p0 x.enums.length q0) := (Y4.out.2 0 (by simp)).1
  have g4_1 : w4.cell? ⟨w.heap.size, 1, none⟩ = some (.slice a1 x.seqs.length c1) := (A4.out.2 1 (by simp)).1
  have y4_1 : w4.cell? ⟨w.heap.size + 1, 1, none⟩ = some (.slice p1 x.seqs.length q1) := (Y4.out.2 1 (by simp)).1
  have g4_2 : w4.cell? ⟨w.heap.size, 2, none⟩ = some (.slice a2 x.tables.length c2) := (A4.out.2 2 (by simp)).1
  have y4_2 : w4.cell? ⟨w.heap.size + 1, 2, none⟩ = some (.slice p2 x.tables.length q2) := (Y4.out.2 2 (by simp)).1
  have g4_3 : w4.cell? ⟨w.heap.size, 3, none⟩ = some (.slice a3 x.indexes.length c3) := (A4.out.2 3 (by simp)).1
  have y4_3 : w4.cell? ⟨w.heap.size + 1, 3, none⟩ = some (.slice p3 x.indexes.length q3) := (Y4.out.2 3 (by simp)).1
  have g4_4 : w4.cell? ⟨w.heap.size, 4, none⟩ = some (.slice a4 x.views.length c4) := (A4.out.2 4 (by simp)).1
  have y4_4 : w4.cell? ⟨w.heap.size + 1, 4, none⟩ = some (.slice p4 x.views.length q4) := (Y4.out.2 4 (by simp)).1
  have g4_5 : w4.cell? ⟨w.heap.size, 5, none⟩ = some (.int .i64 x.next) := (A4.out.2 5 (by simp)).1
  have y4_5 : w4.cell? ⟨w.heap.size + 1, 5, none⟩ = some (.int .i64 x.next) := (Y4.out.2 5 (by simp)).1
  go_wp2_with fail
  go_ret
  exact ⟨rfl, B4.out⟩

end Go.Proofs.Ytefjjcoaeanagaa
