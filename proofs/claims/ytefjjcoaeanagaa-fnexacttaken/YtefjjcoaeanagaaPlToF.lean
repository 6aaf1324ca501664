/- The laws' own helpers over schemas (the copy): Plan. Written by tools/gen_plan.py. -/
import Derived.Test.YtefjjcoaeanagaaDat2
import Derived.Test.YtefjjcoaeanagaaPl
import Derived.Test.YtefjjcoaeanagaaPlToA
import Derived.Test.YtefjjcoaeanagaaPlToD
import Derived.Test.YtefjjcoaeanagaaPlToE
namespace Go.Proofs.Ytefjjcoaeanagaa
open Go.RowKit

set_option maxHeartbeats 2000000 in
theorem toPl (vs : List Value) (x : Pl) (w : World) (hR : RPl 0 w vs x) (hn : x.wt ≤ 1048576) :
    Calls Try.prog 22 #[.agg vs.toArray] w fun e w' => ∃ vs' : List Value, vs'.length = 6 ∧ e = .returned (.agg vs'.toArray) ∧ RPl w.heap.size w' vs' x ∧ Below w.heap.size w w' := by
  obtain ⟨a0, c0, a1, c1, a2, c2, a3, c3, a4, c4, rfl, hfit, k0, k1, k2, k3, k4⟩ := hR
  have K0 := Lib.hid (fun w' (hb : Below w.heap.size w w') => k0.kept goodLab (Kept.below hb))
  clear k0
  have K1 := Lib.hid (fun w' (hb : Below w.heap.size w w') => k1.kept goodSq (Kept.below hb))
  clear k1
  have K2 := Lib.hid (fun w' (hb : Below w.heap.size w w') => k2.kept goodTb (Kept.below hb))
  clear k2
  have K3 := Lib.hid (fun w' (hb : Below w.heap.size w w') => k3.kept goodIx (Kept.below hb))
  clear k3
  have K4 := Lib.hid (fun w' (hb : Below w.heap.size w w') => k4.kept goodVw (Kept.below hb))
  clear k4
  have HW : x.wt = (x.enums.length + wtS Lab.wt x.enums) + (x.seqs.length + wtS Sq.wt x.seqs) + (x.tables.length + wtS Tb.wt x.tables) + (x.indexes.length + wtS Ix.wt x.indexes) + (x.views.length + wtS Vw.wt x.views) := rfl
  go_enter Try.func22, Try.ntmps22
  go_wp2_with fail
  refine (toLabS a0 c0 x.enums _ (K0.out _ ?_) (by omega)).mono ?_
  · ((repeat (first | refine Below.alloc ?_ (by first | omega | (simp; done) | (simp; omega)) _ | refine Below.setCell ?_ (by first | omega | (simp; done) | (simp; omega)) _)); first | exact Below.refl _ _ | exact Below.refl _ _)
  rintro e w0 ⟨p0, q0, rfl, s0, b0⟩
  have B0 := Lib.hid (show Below w.heap.size w w0 from Below.call b0 (by ((repeat (first | refine Below.alloc ?_ (by first | omega | (simp; done) | (simp; omega)) _ | refine Below.setCell ?_ (by first | omega | (simp; done) | (simp; omega)) _)); first | exact Below.refl _ _ | exact Below.refl _ _)))
  have A0 := Lib.hid (show Blk w0 w.heap.size [.slice a0 x.enums.length c0, .slice a1 x.seqs.length c1, .slice a2 x.tables.length c2, .slice a3 x.indexes.length c3, .slice a4 x.views.length c4, .int .i64 x.next] from Blk.call b0 (((blk_new w _ [.slice a0 x.enums.length c0, .slice a1 x.seqs.length c1, .slice a2 x.tables.length c2, .slice a3 x.indexes.length c3, .slice a4 x.views.length c4, .int .i64 x.next]).alloc _).alloc _))
  have Y0 := Lib.hid (show Blk w0 (w.heap.size + 1) [.slice none 0 0, .slice none 0 0, .slice none 0 0, .slice none 0 0, .slice none 0 0, .int .i64 0] from Blk.call b0 ((blk_new' (w := w.alloc _) (b := w.heap.size + 1) (by simp) _ [.slice none 0 0, .slice none 0 0, .slice none 0 0, .slice none 0 0, .slice none 0 0, .int .i64 0]).alloc _))
  have G0 := Lib.hid (show Blk w0 (w.heap.size + 1 + 1) [.slice none 0 0, .slice none 0 0, .slice none 0 0, .slice none 0 0, .slice none 0 0, .int .i64 0] from Blk.call b0 (blk_new' (w := (w.alloc _).alloc _) (b := w.heap.size + 1 + 1) (by simp) _ [.slice none 0 0, .slice none 0 0, .slice none 0 0, .slice none 0 0, .slice none 0 0, .int .i64 0]))
  have S0 := Lib.hid (s0.lower goodLab (show w.heap.size + 3 ≤ _ by (first | omega | (simp; done) | (simp; omega) | (simp [World.setCell]; done) | (simp [World.setCell]; omega))))
  clear s0 b0
  have g0_1 : w0.cell? ⟨w.heap.size, 1, none⟩ = some (.slice a1 x.seqs.length c1) := (A0.out.2 1 (by simp)).1
  have h0_0 : w0.cell? ⟨w.heap.size + 1 + 1, 0, none⟩ = some (.slice none 0 0) := (G0.out.2 0 (by simp)).1
  have z0_0 : w0.frozen? ⟨w.heap.size + 1 + 1, 0, none⟩ = false := (G0.out.2 0 (by simp)).2
  go_wp2_with fail
  refine (toSqS a1 c1 x.seqs _ (K1.out _ ?_) (by omega)).mono ?_
  · (refine Below.setCell ?_ (by first | omega | (simp; done) | (simp; omega)) _; exact B0.out)
  rintro e w1 ⟨p1, q1, rfl, s1, b1⟩
  have B1 := Lib.hid (show Below w.heap.size w w1 from Below.call b1 (by (refine Below.setCell ?_ (by first | omega | (simp; done) | (simp; omega)) _; exact B0.out)))
  have A1 := Lib.hid (show Blk w1 w.heap.size [.slice a0 x.enums.length c0, .slice a1 x.seqs.length c1, .slice a2 x.tables.length c2, .slice a3 x.indexes.length c3, .slice a4 x.views.length c4, .int .i64 x.next] from Blk.call b1 ((A0.out).other (b' := w.heap.size + 1 + 1) (by omega) 0 (.slice p0 x.enums.length q0)))
  have Y1 := Lib.hid (show Blk w1 (w.heap.size + 1) [.slice none 0 0, .slice none 0 0, .slice none 0 0, .slice none 0 0, .slice none 0 0, .int .i64 0] from Blk.call b1 ((Y0.out).other (b' := w.heap.size + 1 + 1) (by omega) 0 (.slice p0 x.enums.length q0)))
  have G1 := Lib.hid (show Blk w1 (w.heap.size + 1 + 1) [.slice p0 x.enums.length q0, .slice none 0 0, .slice none 0 0, .slice none 0 0, .slice none 0 0, .int .i64 0] from Blk.call b1 ((G0.out).set 0 (.slice p0 x.enums.length q0)))
  have S0 := Lib.hid (S0.out.kept goodLab (Kept.call b1 (by (refine Kept.set ?_ (by first | omega | (simp; done) | (simp; omega)) _; exact Kept.refl _ _))))
  have S1 := Lib.hid (s1.lower goodSq (show w.heap.size + 3 ≤ _ by (have h3 := G0.out.1; first | omega | (simp; done) | (simp; omega) | (simp [World.setCell]; done) | (simp [World.setCell]; omega))))
  clear s1 b1
  clear g0_1 h0_0 z0_0
  have g1_2 : w1.cell? ⟨w.heap.size, 2, none⟩ = some (.slice a2 x.tables.length c2) := (A1.out.2 2 (by simp)).1
  have h1_1 : w1.cell? ⟨w.heap.size + 1 + 1, 1, none⟩ = some (.slice none 0 0) := (G1.out.2 1 (by simp)).1
  have z1_1 : w1.frozen? ⟨w.heap.size + 1 + 1, 1, none⟩ = false := (G1.out.2 1 (by simp)).2
  go_wp2_with fail
  refine (toTbS a2 c2 x.tables _ (K2.out _ ?_) (by omega)).mono ?_
  · (refine Below.setCell ?_ (by first | omega | (simp; done) | (simp; omega)) _; exact B1.out)
  rintro e w2 ⟨p2, q2, rfl, s2, b2⟩
  have B2 := Lib.hid (show Below w.heap.size w w2 from Below.call b2 (by (refine Below.setCell ?_ (by first | omega | (simp; done) | (simp; omega)) _; exact B1.out)))
  have A2 := Lib.hid (show Blk w2 w.heap.size [.slice a0 x.enums.length c0, .slice a1 x.seqs.length c1, .slice a2 x.tables.length c2, .slice a3 x.indexes.length c3, .slice a4 x.views.length c4, .int .i64 x.next] from Blk.call b2 ((A1.out).other (b' := w.heap.size + 1 + 1) (by omega) 1 (.slice p1 x.seqs.length q1)))
  have Y2 := Lib.hid (show Blk w2 (w.heap.size + 1) [.slice none 0 0, .slice none 0 0, .slice none 0 0, .slice none 0 0, .slice none 0 0, .int .i64 0] from Blk.call b2 ((Y1.out).other (b' := w.heap.size + 1 + 1) (by omega) 1 (.slice p1 x.seqs.length q1)))
  have G2 := Lib.hid (show Blk w2 (w.heap.size + 1 + 1) [.slice p0 x.enums.length q0, .slice p1 x.seqs.length q1, .slice none 0 0, .slice none 0 0, .slice none 0 0, .int .i64 0] from Blk.call b2 ((G1.out).set 1 (.slice p1 x.seqs.length q1)))
  have S0 := Lib.hid (S0.out.kept goodLab (Kept.call b2 (by (refine Kept.set ?_ (by first | omega | (simp; done) | (simp; omega)) _; exact Kept.refl _ _))))
  have S1 := Lib.hid (S1.out.kept goodSq (Kept.call b2 (by (refine Kept.set ?_ (by first | omega | (simp; done) | (simp; omega)) _; exact Kept.refl _ _))))
  have S2 := Lib.hid (s2.lower goodTb (show w.heap.size + 3 ≤ _ by (have h3 := G1.out.1; first | omega | (simp; done) | (simp; omega) | (simp [World.setCell]; done) | (simp [World.setCell]; omega))))
  clear s2 b2
  clear g1_2 h1_1 z1_1
  have g2_3 : w2.cell? ⟨w.heap.size, 3, none⟩ = some (.slice a3 x.indexes.length c3) := (A2.out.2 3 (by simp)).1
  have h2_2 : w2.cell? ⟨w.heap.size + 1 + 1, 2, none⟩ = some (.slice none 0 0) := (G2.out.2 2 (by simp)).1
  have z2_2 : w2.frozen? ⟨w.heap.size + 1 + 1, 2, none⟩ = false := (G2.out.2 2 (by simp)).2
  go_wp2_with fail
  refine (toIxS a3 c3 x.indexes _ (K3.out _ ?_) (by omega)).mono ?_
  · (refine Below.setCell ?_ (by first | omega | (simp; done) | (simp; omega)) _; exact B2.out)
  rintro e w3 ⟨p3, q3, rfl, s3, b3⟩
  have B3 := Lib.hid (show Below w.heap.size w w3 from Below.call b3 (by (refine Below.setCell ?_ (by first | omega | (simp; done) | (simp; omega)) _; exact B2.out)))
  have A3 := Lib.hid (show Blk w3 w.heap.size [.slice a0 x.enums.length c0, .slice a1 x.seqs.length c1, .slice a2 x.tables.length c2, .slice a3 x.indexes.length c3, .slice a4 x.views.length c4, .int .i64 x.next] from Blk.call b3 ((A2.out).other (b' := w.heap.size + 1 + 1) (by omega) 2 (.slice p2 x.tables.length q2)))
  have Y3 := Lib.hid (show Blk w3 (w.heap.size + 1) [.slice none 0 0, .slice none 0 0, .slice none 0 0, .slice none 0 0, .slice none 0 0, .int .i64 0] from Blk.call b3 ((Y2.out).other (b' := w.heap.size + 1 + 1) (by omega) 2 (.slice p2 x.tables.length q2)))
  have G3 := Lib.hid (show Blk w3 (w.heap.size + 1 + 1) [.slice p0 x.enums.length q0, .slice p1 x.seqs.length q1, .slice p2 x.tables.length q2, .slice none 0 0, .slice none 0 0, .int .i64 0] from Blk.call b3 ((G2.out).set 2 (.slice p2 x.tables.length q2)))
  have S0 := Lib.hid (S0.out.kept goodLab (Kept.call b3 (by (refine Kept.set ?_ (by first | omega | (simp; done) | (simp; omega)) _; exact Kept.refl _ _))))
  have S1 := Lib.hid (S1.out.kept goodSq (Kept.call b3 (by (refine Kept.set ?_ (by first | omega | (simp; done) | (simp; omega)) _; exact Kept.refl _ _))))
  have S2 := Lib.hid (S2.out.kept goodTb (Kept.call b3 (by (refine Kept.set ?_ (by first | omega | (simp; done) | (simp; omega)) _; exact Kept.refl _ _))))
  have S3 := Lib.hid (s3.lower goodIx (show w.heap.size + 3 ≤ _ by (have h3 := G2.out.1; first | omega | (simp; done) | (simp; omega) | (simp [World.setCell]; done) | (simp [World.setCell]; omega))))
  clear s3 b3
  clear g2_3 h2_2 z2_2
  have g3_4 : w3.cell? ⟨w.heap.size, 4, none⟩ = some (.slice a4 x.views.length c4) := (A3.out.2 4 (by simp)).1
  have h3_3 : w3.cell? ⟨w.heap.size + 1 + 1, 3, none⟩ = some (.slice none 0 0) := (G3.out.2 3 (by simp)).1
  have z3_3 : w3.frozen? ⟨w.heap.size + 1 + 1, 3, none⟩ = false := (G3.out.2 3 (by simp)).2
  go_wp2_with fail
  refine (toVwS a4 c4 x.views _ (K4.out _ ?_) (by omega)).mono ?_
  · (refine Below.setCell ?_ (by first | omega | (simp; done) | (simp; omega)) _; exact B3.out)
  rintro e w4 ⟨p4, q4, rfl, s4, b4⟩
  have B4 := Lib.hid (show Below w.heap.size w w4 from Below.call b4 (by (refine Below.setCell ?_ (by first | omega | (simp; done) | (simp; omega)) _; exact B3.out)))
  have A4 := Lib.hid (show Blk w4 w.heap.size [.slice a0 x.enums.length c0, .slice a1 x.seqs.length c1, .slice a2 x.tables.length c2, .slice a3 x.indexes.length c3, .slice a4 x.views.length c4, .int .i64 x.next] from Blk.call b4 ((A3.out).other (b' := w.heap.size + 1 + 1) (by omega) 3 (.slice p3 x.indexes.length q3)))
  have Y4 := Lib.hid (show Blk w4 (w.heap.size + 1) [.slice none 0 0, .slice none 0 0, .slice none 0 0, .slice none 0 0, .slice none 0 0, .int .i64 0] from Blk.call b4 ((Y3.out).other (b' := w.heap.size + 1 + 1) (by omega) 3 (.slice p3 x.indexes.length q3)))
  have G4 := Lib.hid (show Blk w4 (w.heap.size + 1 + 1) [.slice p0 x.enums.length q0, .slice p1 x.seqs.length q1, .slice p2 x.tables.length q2, .slice p3 x.indexes.length q3, .slice none 0 0, .int .i64 0] from Blk.call b4 ((G3.out).set 3 (.slice p3 x.indexes.length q3)))
  have S0 := Lib.hid (S0.out.kept goodLab (Kept.call b4 (by (refine Kept.set ?_ (by first | omega | (simp; done) | (simp; omega)) _; exact Kept.refl _ _))))
  have S1 := Lib.hid (S1.out.kept goodSq (Kept.call b4 (by (refine Kept.set ?_ (by first | omega | (simp; done) | (simp; omega)) _; exact Kept.refl _ _))))
  have S2 := Lib.hid (S2.out.kept goodTb (Kept.call b4 (by (refine Kept.set ?_ (by first | omega | (simp; done) | (simp; omega)) _; exact Kept.refl _ _))))
  have S3 := Lib.hid (S3.out.kept goodIx (Kept.call b4 (by (refine Kept.set ?_ (by first | omega | (simp; done) | (simp; omega)) _; exact Kept.refl _ _))))
  have S4 := Lib.hid (s4.lower goodVw (show w.heap.size + 3 ≤ _ by (have h3 := G3.out.1; first | omega | (simp; done) | (simp; omega) | (simp [World.setCell]; done) | (simp [World.setCell]; omega))))
  clear s4 b4
  clear g3_4 h3_3 z3_3
  have g4_5 : w4.cell? ⟨w.heap.size, 5, none⟩ = some (.int .i64 x.next) := (A4.out.2 5 (by simp)).1
  have h4_0 : w4.cell? ⟨w.heap.size + 1 + 1, 0, none⟩ = some (.slice p0 x.enums.length q0) := (G4.out.2 0 (by simp)).1
  have y4_0 : w4.cell? ⟨w.heap.size + 1, 0, none⟩ = some (.slice none 0 0) := (Y4.out.2 0 (by simp)).1
  have r4_0 : w4.frozen? ⟨w.heap.size + 1, 0, none⟩ = false := (Y4.out.2 0 (by simp)).2
  have h4_1 : w4.cell? ⟨w.heap.size + 1 + 1, 1, none⟩ = some (.slice p1 x.seqs.length q1) := (G4.out.2 1 (by simp)).1
  have y4_1 : w4.cell? ⟨w.heap.size + 1, 1, none⟩ = some (.slice none 0 0) := (Y4.out.2 1 (by simp)).1
  have r4_1 : w4.frozen? ⟨w.heap.size + 1, 1, none⟩ = false := (Y4.out.2 1 (by simp)).2
  have h4_2 : w4.cell? ⟨w.heap.size + 1 + 1, 2, none⟩ = some (.slice p2 x.tables.length q2) := (G4.out.2 2 (by simp)).1
  have y4_2 : w4.cell? ⟨w.heap.size + 1, 2, none⟩ = some (.slice none 0 0) := (Y4.out.2 2 (by simp)).1
  have r4_2 : w4.frozen? ⟨w.heap.size + 1, 2, none⟩ = false := (Y4.out.2 2 (by simp)).2
  have h4_3 : w4.cell? ⟨w.heap.size + 1 + 1, 3, none⟩ = some (.slice p3 x.indexes.length q3) := (G4.out.2 3 (by simp)).1
  have y4_3 : w4.cell? ⟨w.heap.size + 1, 3, none⟩ = some (.slice none 0 0) := (Y4.out.2 3 (by simp)).1
  have r4_3 : w4.frozen? ⟨w.heap.size + 1, 3, none⟩ = false := (Y4.out.2 3 (by simp)).2
  have h4_4 : w4.cell? ⟨w.heap.size + 1 + 1, 4, none⟩ = some (.slice none 0 0) := (G4.out.2 4 (by simp)).1
  have z4_4 : w4.frozen? ⟨w.heap.size + 1 + 1, 4, none⟩ = false := (G4.out.2 4 (by simp)).2
  have y4_4 : w4.cell? ⟨w.heap.size + 1, 4, none⟩ = some (.slice none 0 0) := (Y4.out.2 4 (by simp)).1
  have r4_4 : w4.frozen? ⟨w.heap.size + 1, 4, none⟩ = false := (Y4.out.2 4 (by simp)).2
  have h4_5 : w4.cell? ⟨w.heap.size + 1 + 1, 5, none⟩ = some (.int .i64 0) := (G4.out.2 5 (by simp)).1
  have z4_5 : w4.frozen? ⟨w.heap.size + 1 + 1, 5, none⟩ = false := (G4.out.2 5 (by simp)).2
  have y4_5 : w4.cell? ⟨w.heap.size + 1, 5, none⟩ = some (.int .i64 0) := (Y4.out.2 5 (by simp)).1
  have r4_5 : w4.frozen? ⟨w.heap.size + 1, 5, none⟩ = false := (Y4.out.2 5 (by simp)).2
  go_wp2_with fail
  refine bodyPost_ret (v := .agg #[.slice p0 x.enums.length q0, .slice p1 x.seqs.length q1, .slice p2 x.tables.length q2, .slice p3 x.indexes.length q3, .slice p4 x.views.length q4, .int .i64 x.next]) (by simp [results, Try.results22, go_sem, *]) rfl ⟨[.slice p0 x.enums.length q0, .slice p1 x.seqs.length q1, .slice p2 x.tables.length q2, .slice p3 x.indexes.length q3, .slice p4 x.views.length q4, .int .i64 x.next], rfl, rfl, ⟨p0, q0, p1, q1, p2, q2, p3, q3, p4, q4, rfl, hfit, ?_, ?_, ?_, ?_, ?_⟩, ?_⟩
  · exact (S0.out.kept goodLab (by (refine Kept.set ?_ (by first | omega | (simp; done) | (simp; omega)) _; refine Kept.set ?_ (by first | omega | (simp; done) | (simp; omega)) _; refine Kept.set ?_ (by first | omega | (simp; done) | (simp; omega)) _; refine Kept.set ?_ (by first | omega | (simp; done) | (simp; omega)) _; refine Kept.set ?_ (by first | omega | (simp; done) | (simp; omega)) _; refine Kept.set ?_ (by first | omega | (simp; done) | (simp; omega)) _; refine Kept.set ?_ (by first | omega | (simp; done) | (simp; omega)) _; refine Kept.set ?_ (by first | omega | (simp; done) | (simp; omega)) _; exact Kept.refl _ _))).lower goodLab (by omega)
  · exact (S1.out.kept goodSq (by (refine Kept.set ?_ (by first | omega | (simp; done) | (simp; omega)) _; refine Kept.set ?_ (by first | omega | (simp; done) | (simp; omega)) _; refine Kept.set ?_ (by first | omega | (simp; done) | (simp; omega)) _; refine Kept.set ?_ (by first | omega | (simp; done) | (simp; omega)) _; refine Kept.set ?_ (by first | omega | (simp; done) | (simp; omega)) _; refine Kept.set ?_ (by first | omega | (simp; done) | (simp; omega)) _; refine Kept.set ?_ (by first | omega | (simp; done) | (simp; omega)) _; refine Kept.set ?_ (by first | omega | (simp; done) | (simp; omega)) _; exact Kept.refl _ _))).lower goodSq (by omega)
  · exact (S2.out.kept goodTb (by (refine Kept.set ?_ (by first | omega | (simp; done) | (simp; omega)) _; refine Kept.set ?_ (by first | omega | (simp; done) | (simp; omega)) _; refine Kept.set ?_ (by first | omega | (simp; done) | (simp; omega)) _; refine Kept.set ?_ (by first | omega | (simp; done) | (simp; omega)) _; refine Kept.set ?_ (by first | omega | (simp; done) | (simp; omega)) _; refine Kept.set ?_ (by first | omega | (simp; done) | (simp; omega)) _; refine Kept.set ?_ (by first | omega | (simp; done) | (simp; omega)) _; refine Kept.set ?_ (by first | omega | (simp; done) | (simp; omega)) _; exact Kept.refl _ _))).lower goodTb (by omega)
  · exact (S3.out.kept goodIx (by (refine Kept.set ?_ (by first | omega | (simp; done) | (simp; omega)) _; refine Kept.set ?_ (by first | omega | (simp; done) | (simp; omega)) _; refine Kept.set ?_ (by first | omega | (simp; done) | (simp; omega)) _; refine Kept.set ?_ (by first | omega | (simp; done) | (simp; omega)) _; refine Kept.set ?_ (by first | omega | (simp; done) | (simp; omega)) _; refine Kept.set ?_ (by first | omega | (simp; done) | (simp; omega)) _; refine Kept.set ?_ (by first | omega | (simp; done) | (simp; omega)) _; refine Kept.set ?_ (by first | omega | (simp; done) | (simp; omega)) _; exact Kept.refl _ _))).lower goodIx (by omega)
  · exact (S4.out.kept goodVw (by (refine Kept.set ?_ (by first | omega | (simp; done) | (simp; omega)) _; refine Kept.set ?_ (by first | omega | (simp; done) | (simp; omega)) _; refine Kept.set ?_ (by first | omega | (simp; done) | (simp; omega)) _; refine Kept.set ?_ (by first | omega | (simp; done) | (simp; omega)) _; refine Kept.set ?_ (by first | omega | (simp; done) | (simp; omega)) _; refine Kept.set ?_ (by first | omega | (simp; done) | (simp; omega)) _; refine Kept.set ?_ (by first | omega | (simp; done) | (simp; omega)) _; refine Kept.set ?_ (by first | omega | (simp; done) | (simp; omega)) _; exact Kept.refl _ _))).lower goodVw (by omega)
  · (refine Below.setCell ?_ (by first | omega | (simp; done) | (simp; omega)) _; refine Below.setCell ?_ (by first | omega | (simp; done) | (simp; omega)) _; refine Below.setCell ?_ (by first | omega | (simp; done) | (simp; omega)) _; refine Below.setCell ?_ (by first | omega | (simp; done) | (simp; omega)) _; refine Below.setCell ?_ (by first | omega | (simp; done) | (simp; omega)) _; refine Below.setCell ?_ (by first | omega | (simp; done) | (simp; omega)) _; refine Below.setCell ?_ (by first | omega | (simp; done) | (simp; omega)) _; refine Below.setCell ?_ (by first | omega | (simp; done) | (simp; omega)) _; exact B4.out)

end Go.Proofs.Ytefjjcoaeanagaa
