/- The laws' own helpers over schemas (the copy): Plan. Written by tools/gen_plan.py. -/
/- The laws' own helpers over schemas (the equality): Labels, Seq. Written by tools/gen_plan.py. -/
/- The laws' own helpers over schemas (the equality): Col. Written by tools/gen_plan.py. -/
/- The laws' own helpers over schemas (the equality): Rule. Written by tools/gen_plan.py. -/
import Derived.Test.YtjjdcdnaonfnmaaGreatMTyp2
import Derived.Test.YtjjdcdnaonfnmaaGreatMDatU
import Derived.Test.YtjjdcdnaonfnmaaGreatMPlSzE
import Derived.Test.YtjjdcdnaonfnmaaGreatMPlToC
namespace Go.Proofs.YtjjdcdnaonfnmaaGreat
open Go.RowKit

set_option maxHeartbeats 2000000 in
theorem toPlU (vs : List Value) (x : Pl) (w : World) (hR : RPl 0 w vs x) (hn : x.wt ≤ 1048576) :
    Calls Tryz.prog 8 #[.agg vs.toArray] w fun e w' => ∃ vs' : List Value, vs'.length = 6 ∧ e = .returned (.agg vs'.toArray) ∧ RPlU w.heap.size w' vs' x ∧ Below w.heap.size w w' := by
  obtain ⟨a0, c0, a1, c1, a2, c2, a3, c3, a4, c4, rfl, hfit, k0, k1, k2, k3, k4⟩ := hR
  have K0 := Lib.hid (fun w' (hb : Below w.heap.size w w') => k0.kept goodLab (Kept.below hb))
  clear k0
  have K1 := Lib.hid (fun w' (hb : Below w.heap.size w w') => k1.kept goodSq (Kept.below hb))
  clear k1
  have K2 := Lib.hid (fun w' (hb : Below w.heap.size w w') => k2.kept goodTb (Kept.below hb))
  clear k2
  have K3 := Lib.hid (fun w' (hb : Below w.heap.size w w') => k3.kept goodIx (Kept.below hb))
  clear k3
  have K4 := Lib.hid (fun w' (hb : Below w.heap.size w w') => k4.kept goodVw (Kept.below hb))
  clear k4
  have HW : x.wt = (x.enums.length + wtS Lab.wt x.enums) + (x.seqs.length + wtS Sq.wt x.seqs) + (x.tables.length + wtS Tb.wt x.tables) + (x.indexes.length + wtS Ix.wt x.indexes) + (x.views.length + wtS Vw.wt x.views) := rfl
  go_enter Tryz.func8, Tryz.ntmps8
  go_wp2_with fail
  refine (toLabSU a0 c0 x.enums _ (K0.out _ ?_) (by omega)).mono ?_
  · ((repeat (first | refine Below.alloc ?_ (by first | omega | (simp; done) | (simp; omega)) _ | refine Below.setCell ?_ (by first | omega | (simp; done) | (simp; omega)) _)); first | exact Below.refl _ _ | exact Below.refl _ _)
  rintro e w0 ⟨p0, q0, rfl, s0, b0⟩
  have B0 := Lib.hid (show Below w.heap.size w w0 from Below.call b0 (by ((repeat (first | refine Below.alloc ?_ (by first | omega | (simp; done) | (simp; omega)) _ | refine Below.setCell ?_ (by first | omega | (simp; done) | (simp; omega)) _)); first | exact Below.refl _ _ | exact Below.refl _ _)))
  have A0 := Lib.hid (show Blk w0 w.heap.size [.slice a0 x.enums.length c0, .slice a1 x.seqs.length c1, .slice a2 x.tables.length c2, .slice a3 x.indexes.length c3, .slice a4 x.views.length c4, .int .i64 x.next] from Blk.call b0 (((blk_new w _ [.slice a0 x.enums.length c0, .slice a1 x.seqs.length c1, .slice a2 x.tables.length c2, .slice a3 x.indexes.length c3, .slice a4 x.views.length c4, .int .i64 x.next]).alloc _).alloc _))
  have Y0 := Lib.hid (show Blk w0 (w.heap.size + 1) [.slice none 0 0, .slice none 0 0, .slice none 0 0, .slice none 0 0, .slice none 0 0, .int .i64 0] from Blk.call b0 ((blk_new' (w := w.alloc _) (b := w.heap.size + 1) (by simp) _ [.slice none 0 0, .slice none 0 0, .slice none 0 0, .slice none 0 0, .slice none 0 0, .int .i64 0]).alloc _))
  have G0 := Lib.hid (show Blk w0 (w.heap.size + 1 + 1) [.slice none 0 0, .slice none 0 0, .slice none 0 0, .slice none 0 0, .slice none 0 0, .int .i64 0] from Blk.call b0 (blk_new' (w := (w.alloc _).alloc _) (b := w.heap.size + 1 + 1) (by simp) _ [.slice none 0 0, .slice none 0 0, .slice none 0 0, .slice none 0 0, .slice none 0 0, .int .i64 0]))
  have S0 := Lib.hid (s0.lower goodLabU (show w.heap.size + 3 ≤ _ by (first | omega | (simp; done) | (simp; omega) | (simp [World.setCell]; done) | (simp [World.setCell]; omega))))
  clear s0 b0
  have g0_1 : w0.cell? ⟨w.heap.size, 1, none⟩ = some (.slice a1 x.seqs.length c1) := (A0.out.2 1 (by simp)).1
  have h0_0 : w0.cell? ⟨w.heap.size + 1 + 1, 0, none⟩ = some (.slice none 0 0) := (G0.out.2 0 (by simp)).1
  have z0_0 : w0.frozen? ⟨w.heap.size + 1 + 1, 0, none⟩ = false := (G0.out.2 0 (by simp)).2
  go_wp2_with fail
  refine (toSqSU a1 c1 x.seqs _ (K1.out _ ?_) (by omega)).mono ?_
  · (refine Below.setCell ?_ (by first | omega | (simp; done) | (simp; omega)) _; exact B0.out)
  rintro e w1 ⟨p1, q1, rfl, s1, b1⟩
  have B1 := Lib.hid (show Below w.heap.size w w1 from Below.call b1 (by (refine Below.setCell ?_ (by first | omega | (simp; done) | (simp; omega)) _; exact B0.out)))
  have A1 := Lib.hid (show Blk w1 w.heap.size [.slice a0 x.enums.length c0, .slice a1 x.seqs.length c1, .slice a2 x.tables.length c2, .slice a3 x.indexes.length c3, .slice a4 x.views.length c4, .int .i64 x.next] from Blk.call b1 ((A0.out).other (b' := w.heap.size + 1 + 1) (by omega) 0 (.slice p0 x.enums.length q0)))
  have Y1 := Lib.hid (show Blk w1 (w.heap.size + 1) [.slice none 0 0, .slice none 0 0, .slice none 0 0, .slice none 0 0, .slice none 0 0, .int .i64 0] from Blk.call b1 ((Y0.out).other (b' := w.heap.size + 1 + 1) (by omega) 0 (.slice p0 x.enums.length q0)))
  have G1 := Lib.hid (show Blk w1 (w.heap.size + 1 + 1) [.slice p0 x.enums.length q0, .slice none 0 0, .slice none 0 0, .slice none 0 0, .slice none 0 0, .int .i64 0] from Blk.call b1 ((G0.out).set 0 (.slice p0 x.enums.length q0)))
  have S0 := Lib.hid (S0.out.kept goodLabU (Kept.call b1 (by (refine Kept.set ?_ (by first | omega | (simp; done) | (simp; omega)) _; exact Kept.refl _ _))))
  have S1 := Lib.hid (s1.lower goodSqU (show w.heap.size + 3 ≤ _ by (have h3 := G0.out.1; first | omega | (simp; done) | (simp; omega) | (simp [World.setCell]; done) | (simp [World.setCell]; omega))))
  clear s1 b1
  clear g0_1 h0_0 z0_0
  have g1_2 : w1.cell? ⟨w.heap.size, 2, none⟩ = some (.slice a2 x.tables.length c2) := (A1.out.2 2 (by simp)).1
  have h1_1 : w1.cell? ⟨w.heap.size + 1 + 1, 1, none⟩ = some (.slice none 0 0) := (G1.out.2 1 (by simp)).1
  have z1_1 : w1.frozen? ⟨w.heap.size + 1 + 1, 1, none⟩ = false := (G1.out.2 1 (by simp)).2
  go_wp2_with fail
  refine (toTbSU a2 c2 x.tables _ (K2.out _ ?_) (by omega)).mono ?_
  · (refine Below.setCell ?_ (by first | omega | (simp; done) | (simp; omega)) _; exact B1.out)
  rintro e w2 ⟨p2, q2, rfl, s2, b2⟩
  have B2 := Lib.hid (show Below w.heap.size w w2 from Below.call b2 (by (refine Below.setCell ?_ (by first | omega | (simp; done) | (simp; omega)) _; exact B1.out)))
  have A2 := Lib.hid (show Blk w2 w.heap.size [.slice a0 x.enums.length c0, .slice a1 x.seqs.length c1, .slice a2 x.tables.length c2, .slice a3 x.indexes.length c3, .slice a4 x.views.length c4, .int .i64 x.next] from Blk.call b2 ((A1.out).other (b' := w.heap.size + 1 + 1) (by omega) 1 (.slice p1 x.seqs.length q1)))
  have Y2 := Lib.hid (show Blk w2 (w.heap.size + 1) [.slice none 0 0, .slice none 0 0, .slice none 0 0, .slice none 0 0, .slice none 0 0, .int .i64 0] from Blk.call b2 ((Y1.out).other (b' := w.heap.size + 1 + 1) (by omega) 1 (.slice p1 x.seqs.length q1)))
  have G2 := Lib.hid (show Blk w2 (w.heap.size + 1 + 1) [.slice p0 x.enums.length q0, .slice p1 x.seqs.length q1, .slice none 0 0, .slice none 0 0, .slice none 0 0, .int .i64 0] from Blk.call b2 ((G1.out).set 1 (.slice p1 x.seqs.length q1)))
  have S0 := Lib.hid (S0.out.kept goodLabU (Kept.call b2 (by (refine Kept.set ?_ (by first | omega | (simp; done) | (simp; omega)) _; exact Kept.refl _ _))))
  have S1 := Lib.hid (S1.out.kept goodSqU (Kept.call b2 (by (refine Kept.set ?_ (by first | omega | (simp; done) | (simp; omega)) _; exact Kept.refl _ _))))
  have S2 := Lib.hid (s2.lower goodTbU (show w.heap.size + 3 ≤ _ by (have h3 := G1.out.1; first | omega | (simp; done) | (simp; omega) | (simp [World.setCell]; done) | (simp [World.setCell]; omega))))
  clear s2 b2
  clear g1_2 h1_1 z1_1
  have g2_3 : w2.cell? ⟨w.heap.size, 3, none⟩ = some (.slice a3 x.indexes.length c3) := (A2.out.2 3 (by simp)).1
  have h2_2 : w2.cell? ⟨w.heap.size + 1 + 1, 2, none⟩ = some (.slice none 0 0) := (G2.out.2 2 (by simp)).1
  have z2_2 : w2.frozen? ⟨w.heap.size + 1 + 1, 2, none⟩ = false := (G2.out.2 2 (by simp)).2
  go_wp2_with fail
  refine (toIxSU a3 c3 x.indexes _ (K3.out _ ?_) (by omega)).mono ?_
  · (refine Below.setCell ?_ (by first | omega | (simp; done) | (simp; omega)) _; exact B2.out)
  rintro e w3 ⟨p3, q3, rfl, s3, b3⟩
  have B3 := Lib.hid (show Below w.heap.size w w3 from Below.call b3 (by (refine Below.setCell ?_ (by first | omega | (simp; done) | (simp; omega)) _; exact B2.out)))
  have A3 := Lib.hid (show Blk w3 w.heap.size [.slice a0 x.enums.length c0, .slice a1 x.seqs.length c1, .slice a2 x.tables.length c2, .slice a3 x.indexes.length c3, .slice a4 x.views.length c4, .int .i64 x.next] from Blk.call b3 ((A2.out).other (b' := w.heap.size + 1 + 1) (by omega) 2 (.slice p2 x.tables.length q2)))
  have Y3 := Lib.hid (show Blk w3 (w.heap.size + 1) [.slice none 0 0, .slice none 0 0, .slice none 0 0, .slice none 0 0, .slice none 0 0, .int .i64 0] from Blk.call b3 ((Y2.out).other (b' := w.heap.size + 1 + 1) (by omega) 2 (.slice p2 x.tables.length q2)))
  have G3 := Lib.hid (show Blk w3 (w.heap.size + 1 + 1) [.slice p0 x.enums.length q0, .slice p1 x.seqs.length q1, .slice p2 x.tables.length q2, .slice none 0 0, .slice none 0 0, .int .i64 0] from Blk.call b3 ((G2.out).set 2 (.slice p2 x.tables.length q2)))
  have S0 := Lib.hid (S0.out.kept goodLabU (Kept.call b3 (by (refine Kept.set ?_ (by first | omega | (simp; done) | (simp; omega)) _; exact Kept.refl _ _))))
  have S1 := Lib.hid (S1.out.kept goodSqU (Kept.call b3 (by (refine Kept.set ?_ (by first | omega | (simp; done) | (simp; omega)) _; exact Kept.refl _ _))))
  have S2 := Lib.hid (S2.out.kept goodTbU (Kept.call b3 (by (refine Kept.set ?_ (by first | omega | (simp; done) | (simp; omega)) _; exact Kept.refl _ _))))
  have S3 := Lib.hid (s3.lower goodIxU (show w.heap.size + 3 ≤ _ by (have h3 := G2.out.1; first | omega | (simp; done) | (simp; omega) | (simp [World.setCell]; done) | (simp [World.setCell]; omega))))
  clear s3 b3
  clear g2_3 h2_2 z2_2
  have g3_4 : w3.cell? ⟨w.heap.size, 4, none⟩ = some (.slice a4 x.views.length c4) := (A3.out.2 4 (by simp)).1
  have h3_3 : w3.cell? ⟨w.heap.size + 1 + 1, 3, none⟩ = some (.slice none 0 0) := (G3.out.2 3 (by simp)).1
  have z3_3 : w3.frozen? ⟨w.heap.size + 1 + 1, 3, none⟩ = false := (G3.out.2 3 (by simp)).2
  go_wp2_with fail
  refine (toVwSU a4 c4 x.views _ (K4.out _ ?_) (by omega)).mono ?_
  · (refine Below.setCell ?_ (by first | omega | (simp; done) | (simp; omega)) _; exact B3.out)
  rintro e w4 ⟨p4, q4, rfl, s4, b4⟩
  have B4 := Lib.hid (show Below w.heap.size w w4 from Below.call b4 (by (refine Below.setCell ?_ (by first | omega | (simp; done) | (simp; omega)) _; exact B3.out)))
  have A4 := Lib.hid (show Blk w4 w.heap.size [.slice a0 x.enums.length c0, .slice a1 x.seqs.length c1, .slice a2 x.tables.length c2, .slice a3 x.indexes.length c3, .slice a4 x.views.length c4, .int .i64 x.next] from Blk.call b4 ((A3.out).other (b' := w.heap.size + 1 + 1) (by omega) 3 (.slice p3 x.indexes.length q3)))
  have Y4 := Lib.hid (show Blk w4 (w.heap.size + 1) [.slice none 0 0, .slice none 0 0, .slice none 0 0, .slice none 0 0, .slice none 0 0, .int .i64 0] from Blk.call b4 ((Y3.out).other (b' := w.heap.size + 1 + 1) (by omega) 3 (.slice p3 x.indexes.length q3)))
  have G4 := Lib.hid (show Blk w4 (w.heap.size + 1 + 1) [.slice p0 x.enums.length q0, .slice p1 x.seqs.length q1, .slice p2 x.tables.length q2, .slice p3 x.indexes.length q3, .slice none 0 0, .int .i64 0] from Blk.call b4 ((G3.out).set 3 (.slice p3 x.indexes.length q3)))
  have S0 := Lib.hid (S0.out.kept goodLabU (Kept.call b4 (by (refine Kept.set ?_ (by first | omega | (simp; done) | (simp; omega)) _; exact Kept.refl _ _))))
  have S1 := Lib.hid (S1.out.kept goodSqU (Kept.call b4 (by (refine Kept.set ?_ (by first | omega | (simp; done) | (simp; omega)) _; exact Kept.refl _ _))))
  have S2 := Lib.hid (S2.out.kept goodTbU (Kept.call b4 (by (refine Kept.set ?_ (by first | omega | (simp; done) | (simp; omega)) _; exact Kept.refl _ _))))
  have S3 := Lib.hid (S3.out.kept goodIxU (Kept.call b4 (by (refine Kept.set ?_ (by first | omega | (simp; done) | (simp; omega)) _; exact Kept.refl _ _))))
  have S4 := Lib.hid (s4.lower goodVwU (show w.heap.size + 3 ≤ _ by (have h3 := G3.out.1; first | omega | (simp; done) | (simp; omega) | (simp [World.setCell]; done) | (simp [World.setCell]; omega))))
  clear s4 b4
  clear g3_4 h3_3 z3_3
  have g4_5 : w4.cell? ⟨w.heap.size, 5, none⟩ = some (.int .i64 x.next) := (A4.out.2 5 (by simp)).1
  have h4_0 : w4.cell? ⟨w.heap.size + 1 + 1, 0, none⟩ = some (.slice p0 x.enums.length q0) := (G4.out.2 0 (by simp)).1
  have y4_0 : w4.cell? ⟨w.heap.size + 1, 0, none⟩ = some (.slice none 0 0) := (Y4.out.2 0 (by simp)).1
  have r4_0 : w4.frozen? ⟨w.heap.size + 1, 0, none⟩ = false := (Y4.out.2 0 (by simp)).2
  have h4_1 : w4.cell? ⟨w.heap.size + 1 + 1, 1, none⟩ = some (.slice p1 x.seqs.length q1) := (G4.out.2 1 (by simp)).1
  have y4_1 : w4.cell? ⟨w.heap.size + 1, 1, none⟩ = some (.slice none 0 0) := (Y4.out.2 1 (by simp)).1
  have r4_1 : w4.frozen? ⟨w.heap.size + 1, 1, none⟩ = false := (Y4.out.2 1 (by simp)).2
  have h4_2 : w4.cell? ⟨w.heap.size + 1 + 1, 2, none⟩ = some (.slice p2 x.tables.length q2) := (G4.out.2 2 (by simp)).1
  have y4_2 : w4.cell? ⟨w.heap.size + 1, 2, none⟩ = some (.slice none 0 0) := (Y4.out.2 2 (by simp)).1
  have r4_2 : w4.frozen? ⟨w.heap.size + 1, 2, none⟩ = false := (Y4.out.2 2 (by simp)).2
  have h4_3 : w4.cell? ⟨w.heap.size + 1 + 1, 3, none⟩ = some (.slice p3 x.indexes.length q3) := (G4.out.2 3 (by simp)).1
  have y4_3 : w4.cell? ⟨w.heap.size + 1, 3, none⟩ = some (.slice none 0 0) := (Y4.out.2 3 (by simp)).1
  have r4_3 : w4.frozen? ⟨w.heap.size + 1, 3, none⟩ = false := (Y4.out.2 3 (by simp)).2
  have h4_4 : w4.cell? ⟨w.heap.size + 1 + 1, 4, none⟩ = some (.slice none 0 0) := (G4.out.2 4 (by simp)).1
  have z4_4 : w4.frozen? ⟨w.heap.size + 1 + 1, 4, none⟩ = false := (G4.out.2 4 (by simp)).2
  have y4_4 : w4.cell? ⟨w.heap.size + 1, 4, none⟩ = some (.slice none 0 0) := (Y4.out.2 4 (by simp)).1
  have r4_4 : w4.frozen? ⟨w.heap.size + 1, 4, none⟩ = false := (Y4.out.2 4 (by simp)).2
  have h4_5 : w4.cell? ⟨w.heap.size + 1 + 1, 5, none⟩ = some (.int .i64 0) := (G4.out.2 5 (by simp)).1
  have z4_5 : w4.frozen? ⟨w.heap.size + 1 + 1, 5, none⟩ = false := (G4.out.2 5 (by simp)).2
  have y4_5 : w4.cell? ⟨w.heap.size + 1, 5, none⟩ = some (.int .i64 0) := (Y4.out.2 5 (by simp)).1
  have r4_5 : w4.frozen? ⟨w.heap.size + 1, 5, none⟩ = false := (Y4.out.2 5 (by simp)).2
  go_wp2_with fail
  refine bodyPost_ret (v := .agg #[.slice p0 x.enums.length q0, .slice p1 x.seqs.length q1, .slice p2 x.tables.length q2, .slice p3 x.indexes.length q3, .slice p4 x.views.length q4, .int .i64 x.next]) (by simp [results, Tryz.results8, go_sem, *]) rfl ⟨[.slice p0 x.enums.length q0, .slice p1 x.seqs.length q1, .slice p2 x.tables.length q2, .slice p3 x.indexes.length q3, .slice p4 x.views.length q4, .int .i64 x.next], rfl, rfl, ⟨p0, q0, p1, q1, p2, q2, p3, q3, p4, q4, rfl, hfit, ?_, ?_, ?_, ?_, ?_⟩, ?_⟩
  · exact (S0.out.kept goodLabU (by (refine Kept.set ?_ (by first | omega | (simp; done) | (simp; omega)) _; refine Kept.set ?_ (by first | omega | (simp; done) | (simp; omega)) _; refine Kept.set ?_ (by first | omega | (simp; done) | (simp; omega)) _; refine Kept.set ?_ (by first | omega | (simp; done) | (simp; omega)) _; refine Kept.set ?_ (by first | omega | (simp; done) | (simp; omega)) _; refine Kept.set ?_ (by first | omega | (simp; done) | (simp; omega)) _; refine Kept.set ?_ (by first | omega | (simp; done) | (simp; omega)) _; refine Kept.set ?_ (by first | omega | (simp; done) | (simp; omega)) _; exact Kept.refl _ _))).lower goodLabU (by omega)
  · exact (S1.out.kept goodSqU (by (refine Kept.set ?_ (by first | omega | (simp; done) | (simp; omega)) _; refine Kept.set ?_ (by first | omega | (simp; done) | (simp; omega)) _; refine Kept.set ?_ (by first | omega | (simp; done) | (simp; omega)) _; refine Kept.set ?_ (by first | omega | (simp; done) | (simp; omega)) _; refine Kept.set ?_ (by first | omega | (simp; done) | (simp; omega)) _; refine Kept.set ?_ (by first | omega | (simp; done) | (simp; omega)) _; refine Kept.set ?_ (by first | omega | (simp; done) | (simp; omega)) _; refine Kept.set ?_ (by first | omega | (simp; done) | (simp; omega)) _; exact Kept.refl _ _))).lower goodSqU (by omega)
  · exact (S2.out.kept goodTbU (by (refine Kept.set ?_ (by first | omega | (simp; done) | (simp; omega)) _; refine Kept.set ?_ (by first | omega | (simp; done) | (simp; omega)) _; refine Kept.set ?_ (by first | omega | (simp; done) | (simp; omega)) _; refine Kept.set ?_ (by first | omega | (simp; done) | (simp; omega)) _; refine Kept.set ?_ (by first | omega | (simp; done) | (simp; omega)) _; refine Kept.set ?_ (by first | omega | (simp; done) | (simp; omega)) _; refine Kept.set ?_ (by first | omega | (simp; done) | (simp; omega)) _; refine Kept.set ?_ (by first | omega | (simp; done) | (simp; omega)) _; exact Kept.refl _ _))).lower goodTbU (by omega)
  · exact (S3.out.kept goodIxU (by (refine Kept.set ?_ (by first | omega | (simp; done) | (simp; omega)) _; refine Kept.set ?_ (by first | omega | (simp; done) | (simp; omega)) _; refine Kept.set ?_ (by first | omega | (simp; done) | (simp; omega)) _; refine Kept.set ?_ (by first | omega | (simp; done) | (simp; omega)) _; refine Kept.set ?_ (by first | omega | (simp; done) | (simp; omega)) _; refine Kept.set ?_ (by first | omega | (simp; done) | (simp; omega)) _; refine Kept.set ?_ (by first | omega | (simp; done) | (simp; omega)) _; refine Kept.set ?_ (by first | omega | (simp; done) | (simp; omega)) _; exact Kept.refl _ _))).lower goodIxU (by omega)
  · exact (S4.out.kept goodVwU (by (refine Kept.set ?_ (by first | omega | (simp; done) | (simp; omega)) _; refine Kept.set ?_ (by first | omega | (simp; done) | (simp; omega)) _; refine Kept.set ?_ (by first | omega | (simp; done) | (simp; omega)) _; refine Kept.set ?_ (by first | omega | (simp; done) | (simp; omega)) _; refine Kept.set ?_ (by first | omega | (simp; done) | (simp; omega)) _; refine Kept.set ?_ (by first | omega | (simp; done) | (simp; omega)) _; refine Kept.set ?_ (by first | omega | (simp; done) | (simp; omega)) _; refine Kept.set ?_ (by first | omega | (simp; done) | (simp; omega)) _; exact Kept.refl _ _))).lower goodVwU (by omega)
  · (refine Below.setCell ?_ (by first | omega | (simp; done) | (simp; omega)) _; refine Below.setCell ?_ (by first | omega | (simp; done) | (simp; omega)) _; refine Below.setCell ?_ (by first | omega | (simp; done) | (simp; omega)) _; refine Below.setCell ?_ (by first | omega | (simp; done) | (simp; omega)) _; refine Below.setCell ?_ (by first | omega | (simp; done) | (simp; omega)) _; refine Below.setCell ?_ (by first | omega | (simp; done) | (simp; omega)) _; refine Below.setCell ?_ (by first | omega | (simp; done) | (simp; omega)) _; refine Below.setCell ?_ (by first | omega | (simp; done) | (simp; omega)) _; exact B4.out)

theorem toPl (vs : List Value) (x : Pl) (w : World) (hR : RPl 0 w vs x) (hn : x.wt ≤ 1048576) :
    Calls Tryz.prog 8 #[.agg vs.toArray] w fun e w' => ∃ vs' : List Value, vs'.length = 6 ∧ e = .returned (.agg vs'.toArray) ∧ RPl w.heap.size w' vs' x ∧ Below w.heap.size w w' :=
  (toPlU vs x w hR hn).mono fun _ _ ⟨vs', h1, h2, h3, h4⟩ => ⟨vs', h1, h2, weakPl h3, h4⟩

end Go.Proofs.YtjjdcdnaonfnmaaGreat

namespace Go.Proofs.YtjjdcdnaonfnmaaGreat
open Go.RowKit

set_option maxHeartbeats 2000000 in
theorem eqLab (vs us : List Value) (x : Lab) (w : World) (hR : RLab 0 w vs x) (hU : RLab 0 w us x) :
    Calls Tryz.prog 80 #[.agg vs.toArray, .agg us.toArray] w fun e w' => e = .returned (.bool true) ∧ Below w.heap.size w w' := by
  obtain ⟨a0, c0, rfl, hfit, k0⟩ := hR
  obtain ⟨p0, q0, rfl, _, m0⟩ := hU
  have N0 := k0.1.len
  have K0 := Lib.hid (fun w' (hb : Below w.heap.size w w') => k0.kept (Kept.below hb))
  have M0 := Lib.hid (fun w' (hb : Below w.heap.size w w') => m0.kept (Kept.below hb))
  clear k0 m0
  have e_name : (!(x.name.toList == x.name.toList)) = false := by simp
  go_enter Tryz.func80, Tryz.ntmps80
  go_wp2_with fail
  refine (eqSs a0 p0 c0 q0 x.list _ (K0.out _ (by ((repeat (first | refine Below.alloc ?_ (by first | omega | (simp; done) | (simp; omega)) _ | refine Below.setCell ?_ (by first | omega | (simp; done) | (simp; omega)) _)); first | exact Below.refl _ _ | exact Below.refl _ _))) (M0.out _ (by ((repeat (first | refine Below.alloc ?_ (by first | omega | (simp; done) | (simp; omega)) _ | refine Below.setCell ?_ (by first | omega | (simp; done) | (simp; omega)) _)); first | exact Below.refl _ _ | exact Below.refl _ _)))).mono ?_
  rintro e w0 ⟨rfl, b0⟩
  have B0 := Lib.hid (show Below w.heap.size w w0 from Below.call b0 (by ((repeat (first | refine Below.alloc ?_ (by first | omega | (simp; done) | (simp; omega)) _ | refine Below.setCell ?_ (by first | omega | (simp; done) | (simp; omega)) _)); first | exact Below.refl _ _ | exact Below.refl _ _)))
  have A0 := Lib.hid (show Blk w0 w.heap.size [.string x.name, .slice a0 x.list.length c0] from Blk.call b0 ((blk_new w _ [.string x.name, .slice a0 x.list.length c0]).alloc _))
  have Y0 := Lib.hid (show Blk w0 (w.heap.size + 1) [.string x.name, .slice p0 x.list.length q0] from Blk.call b0 (blk_new' (w := w.alloc _) (b := w.heap.size + 1) (by simp) _ [.string x.name, .slice p0 x.list.length q0]))
  clear b0
  have g0_0 : w0.cell? ⟨w.heap.size, 0, none⟩ = some (.string x.name) := (A0.out.2 0 (by simp)).1
  have y0_0 : w0.cell? ⟨w.heap.size + 1, 0, none⟩ = some (.string x.name) := (Y0.out.2 0 (by simp)).1
  have g0_1 : w0.cell? ⟨w.heap.size, 1, none⟩ = some (.slice a0 x.list.length c0) := (A0.out.2 1 (by simp)).1
  have y0_1 : w0.cell? ⟨w.heap.size + 1, 1, none⟩ = some (.slice p0 x.list.length q0) := (Y0.out.2 1 (by simp)).1
  go_wp2_with fail
  go_ret
  exact ⟨rfl, B0.out⟩

set_option maxHeartbeats 2000000 in
theorem eqLabS (a a' : Option Addr) (c c' : Nat) (xs : List Lab) (w : World) (hx : Sl 2 RLab 0 w a c xs) (hy : Sl 2 RLab 0 w a' c' xs) :
    Calls Tryz.prog 36 #[.slice a xs.length c, .slice a' xs.length c'] w fun e w' => e = .returned (.bool true) ∧ Below w.heap.size w w' := by
  have hl := hx.len
  have hne : (((xs.length : Int)) != (xs.length : Int)) = false := by simp
  have HX := Lib.hid (fun w' (hb : Below w.heap.size w w') => hx.kept goodLab (Kept.below hb))
  have HY := Lib.hid (fun w' (hb : Below w.heap.size w w') => hy.kept goodLab (Kept.below hb))
  clear hx hy
  go_enter Tryz.func36, Tryz.ntmps36
  go_wp2
  go_loopw [5] (fun i wr => ∃ k : Nat, k ≤ xs.length ∧ i = .int .i64 k ∧ Below w.heap.size w wr) (fun i _ => xs.length - (intOf i).toNat)
  case atStart => exact ⟨0, Nat.zero_le _, rfl, Below.refl _ _⟩
  case round =>
    obtain ⟨k, hk, rfl, hbw⟩ := hrel
    by_cases hlt : k < xs.length
    · obtain ⟨b, off, vs, rfl, hbl, hcs, hR⟩ := (HX.out _ hbw).spot hlt
      obtain ⟨b', off', us, rfl, hbl', hds, hU⟩ := (HY.out _ hbw).spot hlt
      have HR := hR
      have HU := hU
      obtain ⟨a0, c0, rfl, _⟩ := hR
      obtain ⟨p0, q0, rfl, _⟩ := hU
      have hc0 : wr.cell? ⟨b, off + k * 2, none⟩ = some (.string xs[k].name) := hcs 0 (by simp)
      have hc1 : wr.cell? ⟨b, off + k * 2 + 1, none⟩ = some (.slice a0 xs[k].list.length c0) := hcs 1 (by simp)
      have hd0 : wr.cell? ⟨b', off' + k * 2, none⟩ = some (.string xs[k].name) := hds 0 (by simp)
      have hd1 : wr.cell? ⟨b', off' + k * 2 + 1, none⟩ = some (.slice p0 xs[k].list.length q0) := hds 1 (by simp)
      have h0k : (0 : Int) ≤ (k : Int) := by omega
      have hkl : (k : Int) < (xs.length : Int) := by omega
      have HA := Lib.hid (fun w' (hb : Below wr.heap.size wr w') => goodLab.kept HR (Kept.below hb))
      have HB := Lib.hid (fun w' (hb : Below wr.heap.size wr w') => goodLab.kept HU (Kept.below hb))
      clear HR HU hcs hds
      go_wp2_with fail
      go_region_held3 (fun w' => w'.cell? ⟨b, off + k * 2, none⟩ = some (.string xs[k].name) ∧ w'.cell? ⟨b, off + k * 2 + 1, none⟩ = some (.slice a0 xs[k].list.length c0) ∧ w'.cell? ⟨b', off' + k * 2, none⟩ = some (.string xs[k].name) ∧ w'.cell? ⟨b', off' + k * 2 + 1, none⟩ = some (.slice p0 xs[k].list.length q0)) (first | go_keep | exact ⟨(hcw _ _ hbl).trans hc0, (hcw _ _ hbl).trans hc1, (hcw _ _ hbl').trans hd0, (hcw _ _ hbl').trans hd1⟩)
        ((go_at_call 80; refine (eqLab _ _ xs[k] _ (HA.out _ (below_drewE (Below.refl _ _))) (HB.out _ (below_drewE (Below.refl _ _)))).mono ?_; rintro e w2 ⟨rfl, hb2⟩; obtain ⟨hcw, _⟩ := bcellE hb2))
      go_wp2_with fail
      go_roundw
      case rel => exact ⟨k + 1, by omega, by go_num, (below_drewE hbw).trans (hb2.mono hbw.size)⟩
      case measure => simp [intOf]; omega
    · go_wp2
      go_ret
      exact ⟨rfl, hbw⟩

set_option maxHeartbeats 2000000 in
theorem eqSq (vs us : List Value) (x : Sq) (w : World) (hR : RSq 0 w vs x) (hU : RSq 0 w us x) :
    Calls Tryz.prog 81 #[.agg vs.toArray, .agg us.toArray] w fun e w' => e = .returned (.bool true) ∧ Below w.heap.size w w' := by
  obtain ⟨rfl, hfit⟩ := hR
  obtain ⟨rfl, _⟩ := hU
  have e_name : (!(x.name.toList == x.name.toList)) = false := by simp
  have e_start : (x.start != x.start) = false := by simp
  go_enter Tryz.func81, Tryz.ntmps81
  go_wp2_with fail
  go_ret
  exact ⟨rfl, by ((repeat (first | refine Below.alloc ?_ (by first | omega | (simp; done) | (simp; omega)) _ | refine Below.setCell ?_ (by first | omega | (simp; done) | (simp; omega)) _)); first | exact Below.refl _ _ | exact Below.refl _ _)⟩

set_option maxHeartbeats 2000000 in
theorem eqSqS (a a' : Option Addr) (c c' : Nat) (xs : List Sq) (w : World) (hx : Sl 2 RSq 0 w a c xs) (hy : Sl 2 RSq 0 w a' c' xs) :
    Calls Tryz.prog 37 #[.slice a xs.length c, .slice a' xs.length c'] w fun e w' => e = .returned (.bool true) ∧ Below w.heap.size w w' := by
  have hl := hx.len
  have hne : (((xs.length : Int)) != (xs.length : Int)) = false := by simp
  have HX := Lib.hid (fun w' (hb : Below w.heap.size w w') => hx.kept goodSq (Kept.below hb))
  have HY := Lib.hid (fun w' (hb : Below w.heap.size w w') => hy.kept goodSq (Kept.below hb))
  clear hx hy
  go_enter Tryz.func37, Tryz.ntmps37
  go_wp2
  go_loopw [5] (fun i wr => ∃ k : Nat, k ≤ xs.length ∧ i = .int .i64 k ∧ Below w.heap.size w wr) (fun i _ => xs.length - (intOf i).toNat)
  case atStart => exact ⟨0, Nat.zero_le _, rfl, Below.refl _ _⟩
  case round =>
    obtain ⟨k, hk, rfl, hbw⟩ := hrel
    by_cases hlt : k < xs.length
    · obtain ⟨b, off, vs, rfl, hbl, hcs, hR⟩ := (HX.out _ hbw).spot hlt
      obtain ⟨b', off', us, rfl, hbl', hds, hU⟩ := (HY.out _ hbw).spot hlt
      have HR := hR
      have HU := hU
      obtain ⟨rfl, _⟩ := hR
      obtain ⟨rfl, _⟩ := hU
      have hc0 : wr.cell? ⟨b, off + k * 2, none⟩ = some (.string xs[k].name) := hcs 0 (by simp)
      have hc1 : wr.cell? ⟨b, off + k * 2 + 1, none⟩ = some (.int .i64 xs[k].start) := hcs 1 (by simp)
      have hd0 : wr.cell? ⟨b', off' + k * 2, none⟩ = some (.string xs[k].name) := hds 0 (by simp)
      have hd1 : wr.cell? ⟨b', off' + k * 2 + 1, none⟩ = some (.int .i64 xs[k].start) := hds 1 (by simp)
      have h0k : (0 : Int) ≤ (k : Int) := by omega
      have hkl : (k : Int) < (xs.length : Int) := by omega
      have HA := Lib.hid (fun w' (hb : Below wr.heap.size wr w') => goodSq.kept HR (Kept.below hb))
      have HB := Lib.hid (fun w' (hb : Below wr.heap.size wr w') => goodSq.kept HU (Kept.below hb))
      clear HR HU hcs hds
      go_wp2_with fail
      go_region_held3 (fun w' => w'.cell? ⟨b, off + k * 2, none⟩ = some (.string xs[k].name) ∧ w'.cell? ⟨b, off + k * 2 + 1, none⟩ = some (.int .i64 xs[k].start) ∧ w'.cell? ⟨b', off' + k * 2, none⟩ = some (.string xs[k].name) ∧ w'.cell? ⟨b', off' + k * 2 + 1, none⟩ = some (.int .i64 xs[k].start)) (first | go_keep | exact ⟨(hcw _ _ hbl).trans hc0, (hcw _ _ hbl).trans hc1, (hcw _ _ hbl').trans hd0, (hcw _ _ hbl').trans hd1⟩)
        ((go_at_call 81; refine (eqSq _ _ xs[k] _ (HA.out _ (below_drewE (Below.refl _ _))) (HB.out _ (below_drewE (Below.refl _ _)))).mono ?_; rintro e w2 ⟨rfl, hb2⟩; obtain ⟨hcw, _⟩ := bcellE hb2))
      go_wp2_with fail
      go_roundw
      case rel => exact ⟨k + 1, by omega, by go_num, (below_drewE hbw).trans (hb2.mono hbw.size)⟩
      case measure => simp [intOf]; omega
    · go_wp2
      go_ret
      exact ⟨rfl, hbw⟩

end Go.Proofs.YtjjdcdnaonfnmaaGreat

namespace Go.Proofs.YtjjdcdnaonfnmaaGreat
open Go.RowKit

set_option maxHeartbeats 2000000 in
theorem eqCo (vs us : List Value) (x : Co) (w : World) (hR : RCo 0 w vs x) (hU : RCo 0 w us x) :
    Calls Tryz.prog 125 #[.agg vs.toArray, .agg us.toArray] w fun e w' => e = .returned (.bool true) ∧ Below w.heap.size w w' := by
  obtain ⟨a0, c0, rfl, hfit, k0⟩ := hR
  obtain ⟨p0, q0, rfl, _, m0⟩ := hU
  have N0 := k0.len
  have K0 := Lib.hid (fun w' (hb : Below w.heap.size w w') => k0.kept (Kept.below hb))
  have M0 := Lib.hid (fun w' (hb : Below w.heap.size w w') => m0.kept (Kept.below hb))
  clear k0 m0
  have e_name : (!(x.name.toList == x.name.toList)) = false := by simp
  have e_notNull : (x.notNull != x.notNull) = false := by simp
  go_enter Tryz.func125, Tryz.ntmps125
  go_wp2_with fail
  refine (eqTy0 x.ty.kind x.ty.len x.ty.name _).mono ?_
  rintro e wt ⟨rfl, bt⟩
  have Bt := Lib.hid (show Below w.heap.size w wt from Below.call bt (by ((repeat (first | refine Below.alloc ?_ (by first | omega | (simp; done) | (simp; omega)) _ | refine Below.setCell ?_ (by first | omega | (simp; done) | (simp; omega)) _)); first | exact Below.refl _ _ | exact Below.refl _ _)))
  have At := Lib.hid (show Blk wt w.heap.size [.string x.name, .int .i64 x.ty.kind, .int .i64 x.ty.len, .string x.ty.name, .bool x.notNull, .slice a0 x.dflt.length c0] from Blk.call bt ((blk_new w _ [.string x.name, .int .i64 x.ty.kind, .int .i64 x.ty.len, .string x.ty.name, .bool x.notNull, .slice a0 x.dflt.length c0]).alloc _))
  have Yt := Lib.hid (show Blk wt (w.heap.size + 1) [.string x.name, .int .i64 x.ty.kind, .int .i64 x.ty.len, .string x.ty.name, .bool x.notNull, .slice p0 x.dflt.length q0] from Blk.call bt (blk_new' (w := w.alloc _) (b := w.heap.size + 1) (by simp) _ [.string x.name, .int .i64 x.ty.kind, .int .i64 x.ty.len, .string x.ty.name, .bool x.notNull, .slice p0 x.dflt.length q0]))
  clear bt
  have gt_0 : wt.cell? ⟨w.heap.size, 0, none⟩ = some (.string x.name) := (At.out.2 0 (by simp)).1
  have yt_0 : wt.cell? ⟨w.heap.size + 1, 0, none⟩ = some (.string x.name) := (Yt.out.2 0 (by simp)).1
  have gt_1 : wt.cell? ⟨w.heap.size, 1, none⟩ = some (.int .i64 x.ty.kind) := (At.out.2 1 (by simp)).1
  have yt_1 : wt.cell? ⟨w.heap.size + 1, 1, none⟩ = some (.int .i64 x.ty.kind) := (Yt.out.2 1 (by simp)).1
  have gt_2 : wt.cell? ⟨w.heap.size, 2, none⟩ = some (.int .i64 x.ty.len) := (At.out.2 2 (by simp)).1
  have yt_2 : wt.cell? ⟨w.heap.size + 1, 2, none⟩ = some (.int .i64 x.ty.len) := (Yt.out.2 2 (by simp)).1
  have gt_3 : wt.cell? ⟨w.heap.size, 3, none⟩ = some (.string x.ty.name) := (At.out.2 3 (by simp)).1
  have yt_3 : wt.cell? ⟨w.heap.size + 1, 3, none⟩ = some (.string x.ty.name) := (Yt.out.2 3 (by simp)).1
  have gt_4 : wt.cell? ⟨w.heap.size, 4, none⟩ = some (.bool x.notNull) := (At.out.2 4 (by simp)).1
  have yt_4 : wt.cell? ⟨w.heap.size + 1, 4, none⟩ = some (.bool x.notNull) := (Yt.out.2 4 (by simp)).1
  have gt_5 : wt.cell? ⟨w.heap.size, 5, none⟩ = some (.slice a0 x.dflt.length c0) := (At.out.2 5 (by simp)).1
  have yt_5 : wt.cell? ⟨w.heap.size + 1, 5, none⟩ = some (.slice p0 x.dflt.length q0) := (Yt.out.2 5 (by simp)).1
  go_wp2_with fail
  refine (eqKs a0 p0 c0 q0 x.dflt _ (K0.out _ Bt.out) (M0.out _ Bt.out)).mono ?_
  rintro e w0 ⟨rfl, b0⟩
  have B0 := Lib.hid (Below.call b0 Bt.out)
  have A0 := Lib.hid (show Blk w0 w.heap.size [.string x.name, .int .i64 x.ty.kind, .int .i64 x.ty.len, .string x.ty.name, .bool x.notNull, .slice a0 x.dflt.length c0] from Blk.call b0 (At.out))
  have Y0 := Lib.hid (show Blk w0 (w.heap.size + 1) [.string x.name, .int .i64 x.ty.kind, .int .i64 x.ty.len, .string x.ty.name, .bool x.notNull, .slice p0 x.dflt.length q0] from Blk.call b0 (Yt.out))
  clear b0
  clear gt_0 gt_1 gt_2 gt_3 gt_4 gt_5 yt_0 yt_1 yt_2 yt_3 yt_4 yt_5
  have g0_0 : w0.cell? ⟨w.heap.size, 0, none⟩ = some (.string x.name) := (A0.out.2 0 (by simp)).1
  have y0_0 : w0.cell? ⟨w.heap.size + 1, 0, none⟩ = some (.string x.name) := (Y0.out.2 0 (by simp)).1
  have g0_1 : w0.cell? ⟨w.heap.size, 1, none⟩ = some (.int .i64 x.ty.kind) := (A0.out.2 1 (by simp)).1
  have y0_1 : w0.cell? ⟨w.heap.size + 1, 1, none⟩ = some (.int .i64 x.ty.kind) := (Y0.out.2 1 (by simp)).1
  have g0_2 : w0.cell? ⟨w.heap.size, 2, none⟩ = some (.int .i64 x.ty.len) := (A0.out.2 2 (by simp)).1
  have y0_2 : w0.cell? ⟨w.heap.size + 1, 2, none⟩ = some (.int .i64 x.ty.len) := (Y0.out.2 2 (by simp)).1
  have g0_3 : w0.cell? ⟨w.heap.size, 3, none⟩ = some (.string x.ty.name) := (A0.out.2 3 (by simp)).1
  have y0_3 : w0.cell? ⟨w.heap.size + 1, 3, none⟩ = some (.string x.ty.name) := (Y0.out.2 3 (by simp)).1
  have g0_4 : w0.cell? ⟨w.heap.size, 4, none⟩ = some (.bool x.notNull) := (A0.out.2 4 (by simp)).1
  have y0_4 : w0.cell? ⟨w.heap.size + 1, 4, none⟩ = some (.bool x.notNull) := (Y0.out.2 4 (by simp)).1
  have g0_5 : w0.cell? ⟨w.heap.size, 5, none⟩ = some (.slice a0 x.dflt.length c0) := (A0.out.2 5 (by simp)).1
  have y0_5 : w0.cell? ⟨w.heap.size + 1, 5, none⟩ = some (.slice p0 x.dflt.length q0) := (Y0.out.2 5 (by simp)).1
  go_wp2_with fail
  go_ret
  exact ⟨rfl, B0.out⟩

set_option maxHeartbeats 2000000 in
theorem eqCoS (a a' : Option Addr) (c c' : Nat) (xs : List Co) (w : World) (hx : Sl 6 RCo 0 w a c xs) (hy : Sl 6 RCo 0 w a' c' xs) :
    Calls Tryz.prog 103 #[.slice a xs.length c, .slice a' xs.length c'] w fun e w' => e = .returned (.bool true) ∧ Below w.heap.size w w' := by
  have hl := hx.len
  have hne : (((xs.length : Int)) != (xs.length : Int)) = false := by simp
  have HX := Lib.hid (fun w' (hb : Below w.heap.size w w') => hx.kept goodCo (Kept.below hb))
  have HY := Lib.hid (fun w' (hb : Below w.heap.size w w') => hy.kept goodCo (Kept.below hb))
  clear hx hy
  go_enter Tryz.func103, Tryz.ntmps103
  go_wp2
  go_loopw [5] (fun i wr => ∃ k : Nat, k ≤ xs.length ∧ i = .int .i64 k ∧ Below w.heap.size w wr) (fun i _ => xs.length - (intOf i).toNat)
  case atStart => exact ⟨0, Nat.zero_le _, rfl, Below.refl _ _⟩
  case round =>
    obtain ⟨k, hk, rfl, hbw⟩ := hrel
    by_cases hlt : k < xs.length
    · obtain ⟨b, off, vs, rfl, hbl, hcs, hR⟩ := (HX.out _ hbw).spot hlt
      obtain ⟨b', off', us, rfl, hbl', hds, hU⟩ := (HY.out _ hbw).spot hlt
      have HR := hR
      have HU := hU
      obtain ⟨a0, c0, rfl, _⟩ := hR
      obtain ⟨p0, q0, rfl, _⟩ := hU
      have hc0 : wr.cell? ⟨b, off + k * 6, none⟩ = some (.string xs[k].name) := hcs 0 (by simp)
      have hc1 : wr.cell? ⟨b, off + k * 6 + 1, none⟩ = some (.int .i64 xs[k].ty.kind) := hcs 1 (by simp)
      have hc2 : wr.cell? ⟨b, off + k * 6 + 2, none⟩ = some (.int .i64 xs[k].ty.len) := hcs 2 (by simp)
      have hc3 : wr.cell? ⟨b, off + k * 6 + 3, none⟩ = some (.string xs[k].ty.name) := hcs 3 (by simp)
      have hc4 : wr.cell? ⟨b, off + k * 6 + 4, none⟩ = some (.bool xs[k].notNull) := hcs 4 (by simp)
      have hc5 : wr.cell? ⟨b, off + k * 6 + 5, none⟩ = some (.slice a0 xs[k].dflt.length c0) := hcs 5 (by simp)
      have hd0 : wr.cell? ⟨b', off' + k * 6, none⟩ = some (.string xs[k].name) := hds 0 (by simp)
      have hd1 : wr.cell? ⟨b', off' + k * 6 + 1, none⟩ = some (.int .i64 xs[k].ty.kind) := hds 1 (by simp)
      have hd2 : wr.cell? ⟨b', off' + k * 6 + 2, none⟩ = some (.int .i64 xs[k].ty.len) := hds 2 (by simp)
      have hd3 : wr.cell? ⟨b', off' + k * 6 + 3, none⟩ = some (.string xs[k].ty.name) := hds 3 (by simp)
      have hd4 : wr.cell? ⟨b', off' + k * 6 + 4, none⟩ = some (.bool xs[k].notNull) := hds 4 (by simp)
      have hd5 : wr.cell? ⟨b', off' + k * 6 + 5, none⟩ = some (.slice p0 xs[k].dflt.length q0) := hds 5 (by simp)
      have h0k : (0 : Int) ≤ (k : Int) := by omega
      have hkl : (k : Int) < (xs.length : Int) := by omega
      have HA := Lib.hid (fun w' (hb : Below wr.heap.size wr w') => goodCo.kept HR (Kept.below hb))
      have HB := Lib.hid (fun w' (hb : Below wr.heap.size wr w') => goodCo.kept HU (Kept.below hb))
      clear HR HU hcs hds
      go_wp2_with fail
      go_region_held3 (fun w' => w'.cell? ⟨b, off + k * 6, none⟩ = some (.string xs[k].name) ∧ w'.cell? ⟨b, off + k * 6 + 1, none⟩ = some (.int .i64 xs[k].ty.kind) ∧ w'.cell? ⟨b, off + k * 6 + 2, none⟩ = some (.int .i64 xs[k].ty.len) ∧ w'.cell? ⟨b, off + k * 6 + 3, none⟩ = some (.string xs[k].ty.name) ∧ w'.cell? ⟨b, off + k * 6 + 4, none⟩ = some (.bool xs[k].notNull) ∧ w'.cell? ⟨b, off + k * 6 + 5, none⟩ = some (.slice a0 xs[k].dflt.length c0) ∧ w'.cell? ⟨b', off' + k * 6, none⟩ = some (.string xs[k].name) ∧ w'.cell? ⟨b', off' + k * 6 + 1, none⟩ = some (.int .i64 xs[k].ty.kind) ∧ w'.cell? ⟨b', off' + k * 6 + 2, none⟩ = some (.int .i64 xs[k].ty.len) ∧ w'.cell? ⟨b', off' + k * 6 + 3, none⟩ = some (.string xs[k].ty.name) ∧ w'.cell? ⟨b', off' + k * 6 + 4, none⟩ = some (.bool xs[k].notNull) ∧ w'.cell? ⟨b', off' + k * 6 + 5, none⟩ = some (.slice p0 xs[k].dflt.length q0)) (first | go_keep | exact ⟨(hcw _ _ hbl).trans hc0, (hcw _ _ hbl).trans hc1, (hcw _ _ hbl).trans hc2, (hcw _ _ hbl).trans hc3, (hcw _ _ hbl).trans hc4, (hcw _ _ hbl).trans hc5, (hcw _ _ hbl').trans hd0, (hcw _ _ hbl').trans hd1, (hcw _ _ hbl').trans hd2, (hcw _ _ hbl').trans hd3, (hcw _ _ hbl').trans hd4, (hcw _ _ hbl').trans hd5⟩)
        ((go_at_call 125; refine (eqCo _ _ xs[k] _ (HA.out _ (below_drewE (Below.refl _ _))) (HB.out _ (below_drewE (Below.refl _ _)))).mono ?_; rintro e w2 ⟨rfl, hb2⟩; obtain ⟨hcw, _⟩ := bcellE hb2))
      go_wp2_with fail
      go_roundw
      case rel => exact ⟨k + 1, by omega, by go_num, (below_drewE hbw).trans (hb2.mono hbw.size)⟩
      case measure => simp [intOf]; omega
    · go_wp2
      go_ret
      exact ⟨rfl, hbw⟩

end Go.Proofs.YtjjdcdnaonfnmaaGreat

namespace Go.Proofs.YtjjdcdnaonfnmaaGreat
open Go.RowKit

set_option maxHeartbeats 2000000 in
theorem eqRu (vs us : List Value) (x : Ru) (w : World) (hR : RRu 0 w vs x) (hU : RRu 0 w us x) :
    Calls Tryz.prog 126 #[.agg vs.toArray, .agg us.toArray] w fun e w' => e = .returned (.bool true) ∧ Below w.heap.size w w' := by
  obtain ⟨a0, c0, a1, c1, a2, c2, rfl, hfit, k0, k1, k2⟩ := hR
  obtain ⟨p0, q0, p1, q1, p2, q2, rfl, _, m0, m1, m2⟩ := hU
  have N0 := k0.1.len
  have K0 := Lib.hid (fun w' (hb : Below w.heap.size w w') => k0.kept (Kept.below hb))
  have M0 := Lib.hid (fun w' (hb : Below w.heap.size w w') => m0.kept (Kept.below hb))
  clear k0 m0
  have N1 := k1.len
  have K1 := Lib.hid (fun w' (hb : Below w.heap.size w w') => k1.kept (Kept.below hb))
  have M1 := Lib.hid (fun w' (hb : Below w.heap.size w w') => m1.kept (Kept.below hb))
  clear k1 m1
  have N2 := k2.1.len
  have K2 := Lib.hid (fun w' (hb : Below w.heap.size w w') => k2.kept (Kept.below hb))
  have M2 := Lib.hid (fun w' (hb : Below w.heap.size w w') => m2.kept (Kept.below hb))
  clear k2 m2
  have e_name : (!(x.name.toList == x.name.toList)) = false := by simp
  have e_kind : (x.kind != x.kind) = false := by simp
  have e_table : (!(x.table.toList == x.table.toList)) = false := by simp
  go_enter Tryz.func126, Tryz.ntmps126
  go_wp2_with fail
  refine (eqSs a0 p0 c0 q0 x.cols _ (K0.out _ (by ((repeat (first | refine Below.alloc ?_ (by first | omega | (simp; done) | (simp; omega)) _ | refine Below.setCell ?_ (by first | omega | (simp; done) | (simp; omega)) _)); first | exact Below.refl _ _ | exact Below.refl _ _))) (M0.out _ (by ((repeat (first | refine Below.alloc ?_ (by first | omega | (simp; done) | (simp; omega)) _ | refine Below.setCell ?_ (by first | omega | (simp; done) | (simp; omega)) _)); first | exact Below.refl _ _ | exact Below.refl _ _)))).mono ?_
  rintro e w0 ⟨rfl, b0⟩
  have B0 := Lib.hid (show Below w.heap.size w w0 from Below.call b0 (by ((repeat (first | refine Below.alloc ?_ (by first | omega | (simp; done) | (simp; omega)) _ | refine Below.setCell ?_ (by first | omega | (simp; done) | (simp; omega)) _)); first | exact Below.refl _ _ | exact Below.refl _ _)))
  have A0 := Lib.hid (show Blk w0 w.heap.size [.string x.name, .int .i64 x.kind, .slice a0 x.cols.length c0, .slice a1 x.expr.length c1, .string x.table, .slice a2 x.to.length c2] from Blk.call b0 ((blk_new w _ [.string x.name, .int .i64 x.kind, .slice a0 x.cols.length c0, .slice a1 x.expr.length c1, .string x.table, .slice a2 x.to.length c2]).alloc _))
  have Y0 := Lib.hid (show Blk w0 (w.heap.size + 1) [.string x.name, .int .i64 x.kind, .slice p0 x.cols.length q0, .slice p1 x.expr.length q1, .string x.table, .slice p2 x.to.length q2] from Blk.call b0 (blk_new' (w := w.alloc _) (b := w.heap.size + 1) (by simp) _ [.string x.name, .int .i64 x.kind, .slice p0 x.cols.length q0, .slice p1 x.expr.length q1, .string x.table, .slice p2 x.to.length q2]))
  clear b0
  have g0_0 : w0.cell? ⟨w.heap.size, 0, none⟩ = some (.string x.name) := (A0.out.2 0 (by simp)).1
  have y0_0 : w0.cell? ⟨w.heap.size + 1, 0, none⟩ = some (.string x.name) := (Y0.out.2 0 (by simp)).1
  have g0_1 : w0.cell? ⟨w.heap.size, 1, none⟩ = some (.int .i64 x.kind) := (A0.out.2 1 (by simp)).1
  have y0_1 : w0.cell? ⟨w.heap.size + 1, 1, none⟩ = some (.int .i64 x.kind) := (Y0.out.2 1 (by simp)).1
  have g0_2 : w0.cell? ⟨w.heap.size, 2, none⟩ = some (.slice a0 x.cols.length c0) := (A0.out.2 2 (by simp)).1
  have y0_2 : w0.cell? ⟨w.heap.size + 1, 2, none⟩ = some (.slice p0 x.cols.length q0) := (Y0.out.2 2 (by simp)).1
  have g0_3 : w0.cell? ⟨w.heap.size, 3, none⟩ = some (.slice a1 x.expr.length c1) := (A0.out.2 3 (by simp)).1
  have y0_3 : w0.cell? ⟨w.heap.size + 1, 3, none⟩ = some (.slice p1 x.expr.length q1) := (Y0.out.2 3 (by simp)).1
  have g0_4 : w0.cell? ⟨w.heap.size, 4, none⟩ = some (.string x.table) := (A0.out.2 4 (by simp)).1
  have y0_4 : w0.cell? ⟨w.heap.size + 1, 4, none⟩ = some (.string x.table) := (Y0.out.2 4 (by simp)).1
  have g0_5 : w0.cell? ⟨w.heap.size, 5, none⟩ = some (.slice a2 x.to.length c2) := (A0.out.2 5 (by simp)).1
  have y0_5 : w0.cell? ⟨w.heap.size + 1, 5, none⟩ = some (.slice p2 x.to.length q2) := (Y0.out.2 5 (by simp)).1
  go_wp2_with fail
  refine (eqKs a1 p1 c1 q1 x.expr _ (K1.out _ B0.out) (M1.out _ B0.out)).mono ?_
  rintro e w1 ⟨rfl, b1⟩
  have B1 := Lib.hid (Below.call b1 B0.out)
  have A1 := Lib.hid (show Blk w1 w.heap.size [.string x.name, .int .i64 x.kind, .slice a0 x.cols.length c0, .slice a1 x.expr.length c1, .string x.table, .slice a2 x.to.length c2] from Blk.call b1 (A0.out))
  have Y1 := Lib.hid (show Blk w1 (w.heap.size + 1) [.string x.name, .int .i64 x.kind, .slice p0 x.cols.length q0, .slice p1 x.expr.length q1, .string x.table, .slice p2 x.to.length q2] from Blk.call b1 (Y0.out))
  clear b1
  clear g0_0 g0_1 g0_2 g0_3 g0_4 g0_5 y0_0 y0_1 y0_2 y0_3 y0_4 y0_5
  have g1_0 : w1.cell? ⟨w.heap.size, 0, none⟩ = some (.string x.name) := (A1.out.2 0 (by simp)).1
  have y1_0 : w1.cell? ⟨w.heap.size + 1, 0, none⟩ = some (.string x.name) := (Y1.out.2 0 (by simp)).1
  have g1_1 : w1.cell? ⟨w.heap.size, 1, none⟩ = some (.int .i64 x.kind) := (A1.out.2 1 (by simp)).1
  have y1_1 : w1.cell? ⟨w.heap.size + 1, 1, none⟩ = some (.int .i64 x.kind) := (Y1.out.2 1 (by simp)).1
  have g1_2 : w1.cell? ⟨w.heap.size, 2, none⟩ = some (.slice a0 x.cols.length c0) := (A1.out.2 2 (by simp)).1
  have y1_2 : w1.cell? ⟨w.heap.size + 1, 2, none⟩ = some (.slice p0 x.cols.length q0) := (Y1.out.2 2 (by simp)).1
  have g1_3 : w1.cell? ⟨w.heap.size, 3, none⟩ = some (.slice a1 x.expr.length c1) := (A1.out.2 3 (by simp)).1
  have y1_3 : w1.cell? ⟨w.heap.size + 1, 3, none⟩ = some (.slice p1 x.expr.length q1) := (Y1.out.2 3 (by simp)).1
  have g1_4 : w1.cell? ⟨w.heap.size, 4, none⟩ = some (.string x.table) := (A1.out.2 4 (by simp)).1
  have y1_4 : w1.cell? ⟨w.heap.size + 1, 4, none⟩ = some (.string x.table) := (Y1.out.2 4 (by simp)).1
  have g1_5 : w1.cell? ⟨w.heap.size, 5, none⟩ = some (.slice a2 x.to.length c2) := (A1.out.2 5 (by simp)).1
  have y1_5 : w1.cell? ⟨w.heap.size + 1, 5, none⟩ = some (.slice p2 x.to.length q2) := (Y1.out.2 5 (by simp)).1
  go_wp2_with fail
  refine (eqSs a2 p2 c2 q2 x.to _ (K2.out _ B1.out) (M2.out _ B1.out)).mono ?_
  rintro e w2 ⟨rfl, b2⟩
  have B2 := Lib.hid (Below.call b2 B1.out)
  have A2 := Lib.hid (show Blk w2 w.heap.size [.string x.name, .int .i64 x.kind, .slice a0 x.cols.length c0, .slice a1 x.expr.length c1, .string x.table, .slice a2 x.to.length c2] from Blk.call b2 (A1.out))
  have Y2 := Lib.hid (show Blk w2 (w.heap.size + 1) [.string x.name, .int .i64 x.kind, .slice p0 x.cols.length q0, .slice p1 x.expr.length q1, .string x.table, .slice p2 x.to.length q2] from Blk.call b2 (Y1.out))
  clear b2
  clear g1_0 g1_1 g1_2 g1_3 g1_4 g1_5 y1_0 y1_1 y1_2 y1_3 y1_4 y1_5
  have g2_0 : w2.cell? ⟨w.heap.size, 0, none⟩ = some (.string x.name) := (A2.out.2 0 (by simp)).1
  have y2_0 : w2.cell? ⟨w.heap.size + 1, 0, none⟩ = some (.string x.name) := (Y2.out.2 0 (by simp)).1
  have g2_1 : w2.cell? ⟨w.heap.size, 1, none⟩ = some (.int .i64 x.kind) := (A2.out.2 1 (by simp)).1
  have y2_1 : w2.cell? ⟨w.heap.size + 1, 1, none⟩ = some (.int .i64 x.kind) := (Y2.out.2 1 (by simp)).1
  have g2_2 : w2.cell? ⟨w.heap.size, 2, none⟩ = some (.slice a0 x.cols.length c0) := (A2.out.2 2 (by simp)).1
  have y2_2 : w2.cell? ⟨w.heap.size + 1, 2, none⟩ = some (.slice p0 x.cols.length q0) := (Y2.out.2 2 (by simp)).1
  have g2_3 : w2.cell? ⟨w.heap.size, 3, none⟩ = some (.slice a1 x.expr.length c1) := (A2.out.2 3 (by simp)).1
  have y2_3 : w2.cell? ⟨w.heap.size + 1, 3, none⟩ = some (.slice p1 x.expr.length q1) := (Y2.out.2 3 (by simp)).1
  have g2_4 : w2.cell? ⟨w.heap.size, 4, none⟩ = some (.string x.table) := (A2.out.2 4 (by simp)).1
  have y2_4 : w2.cell? ⟨w.heap.size + 1, 4, none⟩ = some (.string x.table) := (Y2.out.2 4 (by simp)).1
  have g2_5 : w2.cell? ⟨w.heap.size, 5, none⟩ = some (.slice a2 x.to.length c2) := (A2.out.2 5 (by simp)).1
  have y2_5 : w2.cell? ⟨w.heap.size + 1, 5, none⟩ = some (.slice p2 x.to.length q2) := (Y2.out.2 5 (by simp)).1
  go_wp2_with fail
  go_ret
  exact ⟨rfl, B2.out⟩

set_option maxHeartbeats 2000000 in
theorem eqRuS (a a' : Option Addr) (c c' : Nat) (xs : List Ru) (w : World) (hx : Sl 6 RRu 0 w a c xs) (hy : Sl 6 RRu 0 w a' c' xs) :
    Calls Tryz.prog 104 #[.slice a xs.length c, .slice a' xs.length c'] w fun e w' => e = .returned (.bool true) ∧ Below w.heap.size w w' := by
  have hl := hx.len
  have hne : (((xs.length : Int)) != (xs.length : Int)) = false := by simp
  have HX := Lib.hid (fun w' (hb : Below w.heap.size w w') => hx.kept goodRu (Kept.below hb))
  have HY := Lib.hid (fun w' (hb : Below w.heap.size w w') => hy.kept goodRu (Kept.below hb))
  clear hx hy
  go_enter Tryz.func104, Tryz.ntmps104
  go_wp2
  go_loopw [5] (fun i wr => ∃ k : Nat, k ≤ xs.length ∧ i = .int .i64 k ∧ Below w.heap.size w wr) (fun i _ => xs.length - (intOf i).toNat)
  case atStart => exact ⟨0, Nat.zero_le _, rfl, Below.refl _ _⟩
  case round =>
    obtain ⟨k, hk, rfl, hbw⟩ := hrel
    by_cases hlt : k < xs.length
    · obtain ⟨b, off, vs, rfl, hbl, hcs, hR⟩ := (HX.out _ hbw).spot hlt
      obtain ⟨b', off', us, rfl, hbl', hds, hU⟩ := (HY.out _ hbw).spot hlt
      have HR := hR
      have HU := hU
      obtain ⟨a0, c0, a1, c1, a2, c2, rfl, _⟩ := hR
      obtain ⟨p0, q0, p1, q1, p2, q2, rfl, _⟩ := hU
      have hc0 : wr.cell? ⟨b, off + k * 6, none⟩ = some (.string xs[k].name) := hcs 0 (by simp)
      have hc1 : wr.cell? ⟨b, off + k * 6 + 1, none⟩ = some (.int .i64 xs[k].kind) := hcs 1 (by simp)
      have hc2 : wr.cell? ⟨b, off + k * 6 + 2, none⟩ = some (.slice a0 xs[k].cols.length c0) := hcs 2 (by simp)
      have hc3 : wr.cell? ⟨b, off + k * 6 + 3, none⟩ = some (.slice a1 xs[k].expr.length c1) := hcs 3 (by simp)
      have hc4 : wr.cell? ⟨b, off + k * 6 + 4, none⟩ = some (.string xs[k].table) := hcs 4 (by simp)
      have hc5 : wr.cell? ⟨b, off + k * 6 + 5, none⟩ = some (.slice a2 xs[k].to.length c2) := hcs 5 (by simp)
      have hd0 : wr.cell? ⟨b', off' + k * 6, none⟩ = some (.string xs[k].name) := hds 0 (by simp)
      have hd1 : wr.cell? ⟨b', off' + k * 6 + 1, none⟩ = some (.int .i64 xs[k].kind) := hds 1 (by simp)
      have hd2 : wr.cell? ⟨b', off' + k * 6 + 2, none⟩ = some (.slice p0 xs[k].cols.length q0) := hds 2 (by simp)
      have hd3 : wr.cell? ⟨b', off' + k * 6 + 3, none⟩ = some (.slice p1 xs[k].expr.length q1) := hds 3 (by simp)
      have hd4 : wr.cell? ⟨b', off' + k * 6 + 4, none⟩ = some (.string xs[k].table) := hds 4 (by simp)
      have hd5 : wr.cell? ⟨b', off' + k * 6 + 5, none⟩ = some (.slice p2 xs[k].to.length q2) := hds 5 (by simp)
      have h0k : (0 : Int) ≤ (k : Int) := by omega
      have hkl : (k : Int) < (xs.length : Int) := by omega
      have HA := Lib.hid (fun w' (hb : Below wr.heap.size wr w') => goodRu.kept HR (Kept.below hb))
      have HB := Lib.hid (fun w' (hb : Below wr.heap.size wr w') => goodRu.kept HU (Kept.below hb))
      clear HR HU hcs hds
      go_wp2_with fail
      go_region_held3 (fun w' => w'.cell? ⟨b, off + k * 6, none⟩ = some (.string xs[k].name) ∧ w'.cell? ⟨b, off + k * 6 + 1, none⟩ = some (.int .i64 xs[k].kind) ∧ w'.cell? ⟨b, off + k * 6 + 2, none⟩ = some (.slice a0 xs[k].cols.length c0) ∧ w'.cell? ⟨b, off + k * 6 + 3, none⟩ = some (.slice a1 xs[k].expr.length c1) ∧ w'.cell? ⟨b, off + k * 6 + 4, none⟩ = some (.string xs[k].table) ∧ w'.cell? ⟨b, off + k * 6 + 5, none⟩ = some (.slice a2 xs[k].to.length c2) ∧ w'.cell? ⟨b', off' + k * 6, none⟩ = some (.string xs[k].name) ∧ w'.cell? ⟨b', off' + k * 6 + 1, none⟩ = some (.int .i64 xs[k].kind) ∧ w'.cell? ⟨b', off' + k * 6 + 2, none⟩ = some (.slice p0 xs[k].cols.length q0) ∧ w'.cell? ⟨b', off' + k * 6 + 3, none⟩ = some (.slice p1 xs[k].expr.length q1) ∧ w'.cell? ⟨b', off' + k * 6 + 4, none⟩ = some (.string xs[k].table) ∧ w'.cell? ⟨b', off' + k * 6 + 5, none⟩ = some (.slice p2 xs[k].to.length q2)) (first | go_keep | exact ⟨(hcw _ _ hbl).trans hc0, (hcw _ _ hbl).trans hc1, (hcw _ _ hbl).trans hc2, (hcw _ _ hbl).trans hc3, (hcw _ _ hbl).trans hc4, (hcw _ _ hbl).trans hc5, (hcw _ _ hbl').trans hd0, (hcw _ _ hbl').trans hd1, (hcw _ _ hbl').trans hd2, (hcw _ _ hbl').trans hd3, (hcw _ _ hbl').trans hd4, (hcw _ _ hbl').trans hd5⟩)
        ((go_at_call 126; refine (eqRu _ _ xs[k] _ (HA.out _ (below_drewE (Below.refl _ _))) (HB.out _ (below_drewE (Below.refl _ _)))).mono ?_; rintro e w2 ⟨rfl, hb2⟩; obtain ⟨hcw, _⟩ := bcellE hb2))
      go_wp2_with fail
      go_roundw
      case rel => exact ⟨k + 1, by omega, by go_num, (below_drewE hbw).trans (hb2.mono hbw.size)⟩
      case measure => simp [intOf]; omega
    · go_wp2
      go_ret
      exact ⟨rfl, hbw⟩

end Go.Proofs.YtjjdcdnaonfnmaaGreat
