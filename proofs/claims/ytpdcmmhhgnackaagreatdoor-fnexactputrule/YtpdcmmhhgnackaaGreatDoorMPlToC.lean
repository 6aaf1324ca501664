/- The laws' own helpers over schemas (the copy): Rule. Written by tools/gen_plan.py. -/
/- The laws' own helpers over schemas (the equality): Rule. Written by tools/gen_plan.py. -/
/- Two boxes: the argument's own, and that of its copy. Written by tools/gen_plan.py. -/
import Derived.Test.YtpdcmmhhgnackaaGreatDoorMPutExT
import Derived.Test.YtpdcmmhhgnackaaGreatDoorMPl
namespace Go.Proofs.YtpdcmmhhgnackaaGreatDoor
open Go.RowKit

set_option maxHeartbeats 2000000 in
theorem toRu (vs : List Value) (x : Ru) (w : World) (hR : RRu 0 w vs x) (hn : x.wt ≤ 1048576) :
    Calls Tryz.prog 13 #[.agg vs.toArray] w fun e w' => ∃ vs' : List Value, vs'.length = 6 ∧ e = .returned (.agg vs'.toArray) ∧ RRu w.heap.size w' vs' x ∧ Below w.heap.size w w' := by
  obtain ⟨a0, c0, a1, c1, a2, c2, rfl, hfit, k0, k1, k2⟩ := hR
  have K0 := Lib.hid (fun w' (hb : Below w.heap.size w w') => k0.kept (Kept.below hb))
  clear k0
  have K1 := Lib.hid (fun w' (hb : Below w.heap.size w w') => k1.kept (Kept.below hb))
  clear k1
  have K2 := Lib.hid (fun w' (hb : Below w.heap.size w w') => k2.kept (Kept.below hb))
  clear k2
  have HW : x.wt = x.name.size + (x.cols.length + lets x.cols) + (x.expr.length + wtL x.expr) + x.table.size + (x.to.length + lets x.to) := rfl
  go_enter Tryz.func13, Tryz.ntmps13
  go_wp2_with fail
  refine (toSs a0 c0 x.cols _ (K0.out _ ?_) (by omega)).mono ?_
  · ((repeat (first | refine Below.alloc ?_ (by first | omega | (simp; done) | (simp; omega)) _ | refine Below.setCell ?_ (by first | omega | (simp; done) | (simp; omega)) _)); first | exact Below.refl _ _ | exact Below.refl _ _)
  rintro e w0 ⟨p0, q0, rfl, s0, b0⟩
  have B0 := Lib.hid (show Below w.heap.size w w0 from Below.call b0 (by ((repeat (first | refine Below.alloc ?_ (by first | omega | (simp; done) | (simp; omega)) _ | refine Below.setCell ?_ (by first | omega | (simp; done) | (simp; omega)) _)); first | exact Below.refl _ _ | exact Below.refl _ _)))
  have A0 := Lib.hid (show Blk w0 w.heap.size [.string x.name, .int .i64 x.kind, .slice a0 x.cols.length c0, .slice a1 x.expr.length c1, .string x.table, .slice a2 x.to.length c2] from Blk.call b0 (((blk_new w _ [.string x.name, .int .i64 x.kind, .slice a0 x.cols.length c0, .slice a1 x.expr.length c1, .string x.table, .slice a2 x.to.length c2]).alloc _).alloc _))
  have Y0 := Lib.hid (show Blk w0 (w.heap.size + 1) [.string ByteArray.empty, .int .i64 0, .slice none 0 0, .slice none 0 0, .string ByteArray.empty, .slice none 0 0] from Blk.call b0 ((blk_new' (w := w.alloc _) (b := w.heap.size + 1) (by simp) _ [.string ByteArray.empty, .int .i64 0, .slice none 0 0, .slice none 0 0, .string ByteArray.empty, .slice none 0 0]).alloc _))
  have G0 := Lib.hid (show Blk w0 (w.heap.size + 1 + 1) [.string x.name, .int .i64 x.kind, .slice none 0 0, .slice none 0 0, .string ByteArray.empty, .slice none 0 0] from Blk.call b0 (blk_new' (w := (w.alloc _).alloc _) (b := w.heap.size + 1 + 1) (by simp) _ [.string x.name, .int .i64 x.kind, .slice none 0 0, .slice none 0 0, .string ByteArray.empty, .slice none 0 0]))
  have S0 := Lib.hid (s0.lower (show w.heap.size + 3 ≤ _ by (first | omega | (simp; done) | (simp; omega) | (simp [World.setCell]; done) | (simp [World.setCell]; omega))))
  clear s0 b0
  have g0_3 : w0.cell? ⟨w.heap.size, 3, none⟩ = some (.slice a1 x.expr.length c1) := (A0.out.2 3 (by simp)).1
  have h0_2 : w0.cell? ⟨w.heap.size + 1 + 1, 2, none⟩ = some (.slice none 0 0) := (G0.out.2 2 (by simp)).1
  have z0_2 : w0.frozen? ⟨w.heap.size + 1 + 1, 2, none⟩ = false := (G0.out.2 2 (by simp)).2
  go_wp2_with fail
  refine (toKs a1 c1 x.expr _ (K1.out _ ?_) (by omega)).mono ?_
  · (refine Below.setCell ?_ (by first | omega | (simp; done) | (simp; omega)) _; exact B0.out)
  rintro e w1 ⟨p1, q1, rfl, s1, b1⟩
  have B1 := Lib.hid (show Below w.heap.size w w1 from Below.call b1 (by (refine Below.setCell ?_ (by first | omega | (simp; done) | (simp; omega)) _; exact B0.out)))
  have A1 := Lib.hid (show Blk w1 w.heap.size [.string x.name, .int .i64 x.kind, .slice a0 x.cols.length c0, .slice a1 x.expr.length c1, .string x.table, .slice a2 x.to.length c2] from Blk.call b1 ((A0.out).other (b' := w.heap.size + 1 + 1) (by omega) 2 (.slice p0 x.cols.length q0)))
  have Y1 := Lib.hid (show Blk w1 (w.heap.size + 1) [.string ByteArray.empty, .int .i64 0, .slice none 0 0, .slice none 0 0, .string ByteArray.empty, .slice none 0 0] from Blk.call b1 ((Y0.out).other (b' := w.heap.size + 1 + 1) (by omega) 2 (.slice p0 x.cols.length q0)))
  have G1 := Lib.hid (show Blk w1 (w.heap.size + 1 + 1) [.string x.name, .int .i64 x.kind, .slice p0 x.cols.length q0, .slice none 0 0, .string ByteArray.empty, .slice none 0 0] from Blk.call b1 ((G0.out).set 2 (.slice p0 x.cols.length q0)))
  have S0 := Lib.hid (S0.out.kept (Kept.call b1 (by (refine Kept.set ?_ (by first | omega | (simp; done) | (simp; omega)) _; exact Kept.refl _ _))))
  have S1 := Lib.hid (s1.lower (show w.heap.size + 3 ≤ _ by (have h3 := G0.out.1; first | omega | (simp; done) | (simp; omega) | (simp [World.setCell]; done) | (simp [World.setCell]; omega))))
  clear s1 b1
  clear g0_3 h0_2 z0_2
  have g1_4 : w1.cell? ⟨w.heap.size, 4, none⟩ = some (.string x.table) := (A1.out.2 4 (by simp)).1
  have g1_5 : w1.cell? ⟨w.heap.size, 5, none⟩ = some (.slice a2 x.to.length c2) := (A1.out.2 5 (by simp)).1
  have h1_3 : w1.cell? ⟨w.heap.size + 1 + 1, 3, none⟩ = some (.slice none 0 0) := (G1.out.2 3 (by simp)).1
  have z1_3 : w1.frozen? ⟨w.heap.size + 1 + 1, 3, none⟩ = false := (G1.out.2 3 (by simp)).2
  have h1_4 : w1.cell? ⟨w.heap.size + 1 + 1, 4, none⟩ = some (.string ByteArray.empty) := (G1.out.2 4 (by simp)).1
  have z1_4 : w1.frozen? ⟨w.heap.size + 1 + 1, 4, none⟩ = false := (G1.out.2 4 (by simp)).2
  go_wp2_with fail
  refine (toSs a2 c2 x.to _ (K2.out _ ?_) (by omega)).mono ?_
  · (refine Below.setCell ?_ (by first | omega | (simp; done) | (simp; omega)) _; refine Below.setCell ?_ (by first | omega | (simp; done) | (simp; omega)) _; exact B1.out)
  rintro e w2 ⟨p2, q2, rfl, s2, b2⟩
  have B2 := Lib.hid (show Below w.heap.size w w2 from Below.call b2 (by (refine Below.setCell ?_ (by first | omega | (simp; done) | (simp; omega)) _; refine Below.setCell ?_ (by first | omega | (simp; done) | (simp; omega)) _; exact B1.out)))
  have A2 := Lib.hid (show Blk w2 w.heap.size [.string x.name, .int .i64 x.kind, .slice a0 x.cols.length c0, .slice a1 x.expr.length c1, .string x.table, .slice a2 x.to.length c2] from Blk.call b2 (((A1.out).other (b' := w.heap.size + 1 + 1) (by omega) 3 (.slice p1 x.expr.length q1)).other (b' := w.heap.size + 1 + 1) (by omega) 4 (.string x.table)))
  have Y2 := Lib.hid (show Blk w2 (w.heap.size + 1) [.string ByteArray.empty, .int .i64 0, .slice none 0 0, .slice none 0 0, .string ByteArray.empty, .slice none 0 0] from Blk.call b2 (((Y1.out).other (b' := w.heap.size + 1 + 1) (by omega) 3 (.slice p1 x.expr.length q1)).other (b' := w.heap.size + 1 + 1) (by omega) 4 (.string x.table)))
  have G2 := Lib.hid (show Blk w2 (w.heap.size + 1 + 1) [.string x.name, .int .i64 x.kind, .slice p0 x.cols.length q0, .slice p1 x.expr.length q1, .string x.table, .slice none 0 0] from Blk.call b2 (((G1.out).set 3 (.slice p1 x.expr.length q1)).set 4 (.string x.table)))
  have S0 := Lib.hid (S0.out.kept (Kept.call b2 (by (refine Kept.set ?_ (by first | omega | (simp; done) | (simp; omega)) _; refine Kept.set ?_ (by first | omega | (simp; done) | (simp; omega)) _; exact Kept.refl _ _))))
  have S1 := Lib.hid (S1.out.kept (Kept.call b2 (by (refine Kept.set ?_ (by first | omega | (simp; done) | (simp; omega)) _; refine Kept.set ?_ (by first | omega | (simp; done) | (simp; omega)) _; exact Kept.refl _ _))))
  have S2 := Lib.hid (s2.lower (show w.heap.size + 3 ≤ _ by (have h3 := G1.out.1; first | omega | (simp; done) | (simp; omega) | (simp [World.setCell]; done) | (simp [World.setCell]; omega))))
  clear s2 b2
  clear g1_4 g1_5 h1_3 z1_3 h1_4 z1_4
  have h2_0 : w2.cell? ⟨w.heap.size + 1 + 1, 0, none⟩ = some (.string x.name) := (G2.out.2 0 (by simp)).1
  have y2_0 : w2.cell? ⟨w.heap.size + 1, 0, none⟩ = some (.string ByteArray.empty) := (Y2.out.2 0 (by simp)).1
  have r2_0 : w2.frozen? ⟨w.heap.size + 1, 0, none⟩ = false := (Y2.out.2 0 (by simp)).2
  have h2_1 : w2.cell? ⟨w.heap.size + 1 + 1, 1, none⟩ = some (.int .i64 x.kind) := (G2.out.2 1 (by simp)).1
  have y2_1 : w2.cell? ⟨w.heap.size + 1, 1, none⟩ = some (.int .i64 0) := (Y2.out.2 1 (by simp)).1
  have r2_1 : w2.frozen? ⟨w.heap.size + 1, 1, none⟩ = false := (Y2.out.2 1 (by simp)).2
  have h2_2 : w2.cell? ⟨w.heap.size + 1 + 1, 2, none⟩ = some (.slice p0 x.cols.length q0) := (G2.out.2 2 (by simp)).1
  have y2_2 : w2.cell? ⟨w.heap.size + 1, 2, none⟩ = some (.slice none 0 0) := (Y2.out.2 2 (by simp)).1
  have r2_2 : w2.frozen? ⟨w.heap.size + 1, 2, none⟩ = false := (Y2.out.2 2 (by simp)).2
  have h2_3 : w2.cell? ⟨w.heap.size + 1 + 1, 3, none⟩ = some (.slice p1 x.expr.length q1) := (G2.out.2 3 (by simp)).1
  have y2_3 : w2.cell? ⟨w.heap.size + 1, 3, none⟩ = some (.slice none 0 0) := (Y2.out.2 3 (by simp)).1
  have r2_3 : w2.frozen? ⟨w.heap.size + 1, 3, none⟩ = false := (Y2.out.2 3 (by simp)).2
  have h2_4 : w2.cell? ⟨w.heap.size + 1 + 1, 4, none⟩ = some (.string x.table) := (G2.out.2 4 (by simp)).1
  have y2_4 : w2.cell? ⟨w.heap.size + 1, 4, none⟩ = some (.string ByteArray.empty) := (Y2.out.2 4 (by simp)).1
  have r2_4 : w2.frozen? ⟨w.heap.size + 1, 4, none⟩ = false := (Y2.out.2 4 (by simp)).2
  have h2_5 : w2.cell? ⟨w.heap.size + 1 + 1, 5, none⟩ = some (.slice none 0 0) := (G2.out.2 5 (by simp)).1
  have z2_5 : w2.frozen? ⟨w.heap.size + 1 + 1, 5, none⟩ = false := (G2.out.2 5 (by simp)).2
  have y2_5 : w2.cell? ⟨w.heap.size + 1, 5, none⟩ = some (.slice none 0 0) := (Y2.out.2 5 (by simp)).1
  have r2_5 : w2.frozen? ⟨w.heap.size + 1, 5, none⟩ = false := (Y2.out.2 5 (by simp)).2
  go_wp2_with fail
  refine bodyPost_ret (v := .agg #[.string x.name, .int .i64 x.kind, .slice p0 x.cols.length q0, .slice p1 x.expr.length q1, .string x.table, .slice p2 x.to.length q2]) (by simp [results, Tryz.results13, go_sem, *]) rfl ⟨[.string x.name, .int .i64 x.kind, .slice p0 x.cols.length q0, .slice p1 x.expr.length q1, .string x.table, .slice p2 x.to.length q2], rfl, rfl, ⟨p0, q0, p1, q1, p2, q2, rfl, hfit, ?_, ?_, ?_⟩, ?_⟩
  · exact (S0.out.kept (by (refine Kept.set ?_ (by first | omega | (simp; done) | (simp; omega)) _; refine Kept.set ?_ (by first | omega | (simp; done) | (simp; omega)) _; refine Kept.set ?_ (by first | omega | (simp; done) | (simp; omega)) _; refine Kept.set ?_ (by first | omega | (simp; done) | (simp; omega)) _; refine Kept.set ?_ (by first | omega | (simp; done) | (simp; omega)) _; refine Kept.set ?_ (by first | omega | (simp; done) | (simp; omega)) _; refine Kept.set ?_ (by first | omega | (simp; done) | (simp; omega)) _; exact Kept.refl _ _))).lower (by omega)
  · exact (S1.out.kept (by (refine Kept.set ?_ (by first | omega | (simp; done) | (simp; omega)) _; refine Kept.set ?_ (by first | omega | (simp; done) | (simp; omega)) _; refine Kept.set ?_ (by first | omega | (simp; done) | (simp; omega)) _; refine Kept.set ?_ (by first | omega | (simp; done) | (simp; omega)) _; refine Kept.set ?_ (by first | omega | (simp; done) | (simp; omega)) _; refine Kept.set ?_ (by first | omega | (simp; done) | (simp; omega)) _; refine Kept.set ?_ (by first | omega | (simp; done) | (simp; omega)) _; exact Kept.refl _ _))).lower (by omega)
  · exact (S2.out.kept (by (refine Kept.set ?_ (by first | omega | (simp; done) | (simp; omega)) _; refine Kept.set ?_ (by first | omega | (simp; done) | (simp; omega)) _; refine Kept.set ?_ (by first | omega | (simp; done) | (simp; omega)) _; refine Kept.set ?_ (by first | omega | (simp; done) | (simp; omega)) _; refine Kept.set ?_ (by first | omega | (simp; done) | (simp; omega)) _; refine Kept.set ?_ (by first | omega | (simp; done) | (simp; omega)) _; refine Kept.set ?_ (by first | omega | (simp; done) | (simp; omega)) _; exact Kept.refl _ _))).lower (by omega)
  · (refine Below.setCell ?_ (by first | omega | (simp; done) | (simp; omega)) _; refine Below.setCell ?_ (by first | omega | (simp; done) | (simp; omega)) _; refine Below.setCell ?_ (by first | omega | (simp; done) | (simp; omega)) _; refine Below.setCell ?_ (by first | omega | (simp; done) | (simp; omega)) _; refine Below.setCell ?_ (by first | omega | (simp; done) | (simp; omega)) _; refine Below.setCell ?_ (by first | omega | (simp; done) | (simp; omega)) _; refine Below.setCell ?_ (by first | omega | (simp; done) | (simp; omega)) _; exact B2.out)

theorem Tryz.infoRule : (Tryz.prog.info? 42).map (fun i => (i.zero, i.size, i.bytes)) = some (some (.agg #[.string ByteArray.empty, .int .i64 0, .slice none 0 0, .slice none 0 0, .string ByteArray.empty, .slice none 0 0]), 6, 112) := by kernel_rfl

set_option maxHeartbeats 2000000 in
theorem toRuS (a : Option Addr) (c : Nat) (xs : List Ru) (w : World) (hx : Sl 6 RRu 0 w a c xs) (hn : xs.length + wtS Ru.wt xs ≤ 1048576) :
    Calls Tryz.prog 53 #[.slice a xs.length c] w fun e w' => ∃ a' c', e = .returned (.slice a' xs.length c') ∧ Sl 6 RRu w.heap.size w' a' c' xs ∧ Below w.heap.size w w' := by
  obtain ⟨i0, hi0, hz0, hz1, hz2⟩ := info_parts Tryz.infoRule
  have hb16 : i0.bytes * xs.length ≤ 281474976710656 := by rw [hz2]; omega
  have hl := hx.len
  have HX := Lib.hid (fun w' (hb : Below w.heap.size w w') => hx.kept goodRu (Kept.below hb))
  clear hx
  go_enter Tryz.func53, Tryz.ntmps53
  go_wp2_with (at_make; refine wpList_make_full _ rfl _ _ 53 rfl w.heap.size 42 i0 (.agg #[.string ByteArray.empty, .int .i64 0, .slice none 0 0, .slice none 0 0, .string ByteArray.empty, .slice none 0 0]) 6 Tryz.underlying53 hi0 hz0 hz1 .i64 .i64 _ _ xs.length rfl rfl rfl rfl hb16 (by unfold maxLen; omega) (Nat.le_refl _) ?_; intro w1 hown hg)
  have HD0 : DoneR 42 6 RRu [.string ByteArray.empty, .int .i64 0, .slice none 0 0, .slice none 0 0, .string ByteArray.empty, .slice none 0 0] w xs 0 w1 := DoneR.new (z := [.string ByteArray.empty, .int .i64 0, .slice none 0 0, .slice none 0 0, .string ByteArray.empty, .slice none 0 0]) (by simp) hown hg
  clear hown hg
  go_loopw [4] (fun i wr => ∃ k : Nat, i = .int .i64 k ∧ DoneR 42 6 RRu [.string ByteArray.empty, .int .i64 0, .slice none 0 0, .slice none 0 0, .string ByteArray.empty, .slice none 0 0] w xs k wr) (fun i _ => xs.length - (intOf i).toNat)
  case atStart => exact ⟨0, rfl, HD0⟩
  case round =>
    obtain ⟨k, rfl, hd⟩ := hrel
    by_cases hlt : k < xs.length
    · obtain ⟨b, off, vs, rfl, hbl, hcs, hR⟩ := (HX.out _ hd.2.2.2).spot hlt
      have HR := hR
      obtain ⟨a0, c0, a1, c1, a2, c2, rfl, _⟩ := hR
      have hc0 : wr.cell? ⟨b, off + k * 6, none⟩ = some (.string xs[k].name) := hcs 0 (by simp)
      have hc1 : wr.cell? ⟨b, off + k * 6 + 1, none⟩ = some (.int .i64 xs[k].kind) := hcs 1 (by simp)
      have hc2 : wr.cell? ⟨b, off + k * 6 + 2, none⟩ = some (.slice a0 xs[k].cols.length c0) := hcs 2 (by simp)
      have hc3 : wr.cell? ⟨b, off + k * 6 + 3, none⟩ = some (.slice a1 xs[k].expr.length c1) := hcs 3 (by simp)
      have hc4 : wr.cell? ⟨b, off + k * 6 + 4, none⟩ = some (.string xs[k].table) := hcs 4 (by simp)
      have hc5 : wr.cell? ⟨b, off + k * 6 + 5, none⟩ = some (.slice a2 xs[k].to.length c2) := hcs 5 (by simp)
      have HK := Lib.hid HR
      have HD := Lib.hid hd
      have HWt := wtS_get Ru.wt hlt
      clear HR hd hcs HD0
      go_wp2_with fail
      refine (toRu _ xs[k] _ HK.out (by omega)).mono ?_
      rintro e w2 ⟨vs2, hvl, rfl, hk2, hb2⟩
      have HR2 := hk2
      obtain ⟨p0, q0, p1, q1, p2, q2, rfl, _⟩ := hk2
      have DC := HD.out.cells rfl hlt hb2
      have hd0 : w2.cell? ⟨w.heap.size, k * 6, none⟩ = some (.string ByteArray.empty) := DC.1 0 (by simp)
      have hf0 : w2.frozen? ⟨w.heap.size, k * 6, none⟩ = false := DC.2 _
      have hd1 : w2.cell? ⟨w.heap.size, k * 6 + 1, none⟩ = some (.int .i64 0) := DC.1 1 (by simp)
      have hf1 : w2.frozen? ⟨w.heap.size, k * 6 + 1, none⟩ = false := DC.2 _
      have hd2 : w2.cell? ⟨w.heap.size, k * 6 + 2, none⟩ = some (.slice none 0 0) := DC.1 2 (by simp)
      have hf2 : w2.frozen? ⟨w.heap.size, k * 6 + 2, none⟩ = false := DC.2 _
      have hd3 : w2.cell? ⟨w.heap.size, k * 6 + 3, none⟩ = some (.slice none 0 0) := DC.1 3 (by simp)
      have hf3 : w2.frozen? ⟨w.heap.size, k * 6 + 3, none⟩ = false := DC.2 _
      have hd4 : w2.cell? ⟨w.heap.size, k * 6 + 4, none⟩ = some (.string ByteArray.empty) := DC.1 4 (by simp)
      have hf4 : w2.frozen? ⟨w.heap.size, k * 6 + 4, none⟩ = false := DC.2 _
      have hd5 : w2.cell? ⟨w.heap.size, k * 6 + 5, none⟩ = some (.slice none 0 0) := DC.1 5 (by simp)
      have hf5 : w2.frozen? ⟨w.heap.size, k * 6 + 5, none⟩ = false := DC.2 _
      have HS := Lib.hid (HD.out.step goodRu rfl hlt hvl HR2 hb2 rfl)
      clear DC HR2 hb2 HD HK hc0 hc1 hc2 hc3 hc4 hc5 hbl hvl
      go_wp2_with fail
      go_roundw
      case rel => exact ⟨k + 1, by go_num, HS.out⟩
      case measure => simp [intOf]; omega
    · have hle := hd.1
      obtain rfl : k = xs.length := by omega
      have HE := Lib.hid (hd.end goodRu (by unfold maxLen; omega))
      have hbl := hd.2.2.2
      clear hd
      go_wp2_with fail
      go_ret
      exact ⟨_, _, rfl, HE.out, hbl⟩

end Go.Proofs.YtpdcmmhhgnackaaGreatDoor

namespace Go.Proofs.YtpdcmmhhgnackaaGreatDoor
open Go.RowKit

set_option maxHeartbeats 2000000 in
theorem eqRu (vs us : List Value) (x : Ru) (w : World) (hR : RRu 0 w vs x) (hU : RRu 0 w us x) :
    Calls Tryz.prog 15 #[.agg vs.toArray, .agg us.toArray] w fun e w' => e = .returned (.bool true) ∧ Below w.heap.size w w' := by
  obtain ⟨a0, c0, a1, c1, a2, c2, rfl, hfit, k0, k1, k2⟩ := hR
  obtain ⟨p0, q0, p1, q1, p2, q2, rfl, _, m0, m1, m2⟩ := hU
  have N0 := k0.1.len
  have K0 := Lib.hid (fun w' (hb : Below w.heap.size w w') => k0.kept (Kept.below hb))
  have M0 := Lib.hid (fun w' (hb : Below w.heap.size w w') => m0.kept (Kept.below hb))
  clear k0 m0
  have N1 := k1.len
  have K1 := Lib.hid (fun w' (hb : Below w.heap.size w w') => k1.kept (Kept.below hb))
  have M1 := Lib.hid (fun w' (hb : Below w.heap.size w w') => m1.kept (Kept.below hb))
  clear k1 m1
  have N2 := k2.1.len
  have K2 := Lib.hid (fun w' (hb : Below w.heap.size w w') => k2.kept (Kept.below hb))
  have M2 := Lib.hid (fun w' (hb : Below w.heap.size w w') => m2.kept (Kept.below hb))
  clear k2 m2
  have e_name : (!(x.name.toList == x.name.toList)) = false := by simp
  have e_kind : (x.kind != x.kind) = false := by simp
  have e_table : (!(x.table.toList == x.table.toList)) = false := by simp
  go_enter Tryz.func15, Tryz.ntmps15
  go_wp2_with fail
  refine (eqSs a0 p0 c0 q0 x.cols _ (K0.out _ (by ((repeat (first | refine Below.alloc ?_ (by first | omega | (simp; done) | (simp; omega)) _ | refine Below.setCell ?_ (by first | omega | (simp; done) | (simp; omega)) _)); first | exact Below.refl _ _ | exact Below.refl _ _))) (M0.out _ (by ((repeat (first | refine Below.alloc ?_ (by first | omega | (simp; done) | (simp; omega)) _ | refine Below.setCell ?_ (by first | omega | (simp; done) | (simp; omega)) _)); first | exact Below.refl _ _ | exact Below.refl _ _)))).mono ?_
  rintro e w0 ⟨rfl, b0⟩
  have B0 := Lib.hid (show Below w.heap.size w w0 from Below.call b0 (by ((repeat (first | refine Below.alloc ?_ (by first | omega | (simp; done) | (simp; omega)) _ | refine Below.setCell ?_ (by first | omega | (simp; done) | (simp; omega)) _)); first | exact Below.refl _ _ | exact Below.refl _ _)))
  have A0 := Lib.hid (show Blk w0 w.heap.size [.string x.name, .int .i64 x.kind, .slice a0 x.cols.length c0, .slice a1 x.expr.length c1, .string x.table, .slice a2 x.to.length c2] from Blk.call b0 ((blk_new w _ [.string x.name, .int .i64 x.kind, .slice a0 x.cols.length c0, .slice a1 x.expr.length c1, .string x.table, .slice a2 x.to.length c2]).alloc _))
  have Y0 := Lib.hid (show Blk w0 (w.heap.size + 1) [.string x.name, .int .i64 x.kind, .slice p0 x.cols.length q0, .slice p1 x.expr.length q1, .string x.table, .slice p2 x.to.length q2] from Blk.call b0 (blk_new' (w := w.alloc _) (b := w.heap.size + 1) (by simp) _ [.string x.name, .int .i64 x.kind, .slice p0 x.cols.length q0, .slice p1 x.expr.length q1, .string x.table, .slice p2 x.to.length q2]))
  clear b0
  have g0_0 : w0.cell? ⟨w.heap.size, 0, none⟩ = some (.string x.name) := (A0.out.2 0 (by simp)).1
  have y0_0 : w0.cell? ⟨w.heap.size + 1, 0, none⟩ = some (.string x.name) := (Y0.out.2 0 (by simp)).1
  have g0_1 : w0.cell? ⟨w.heap.size, 1, none⟩ = some (.int .i64 x.kind) := (A0.out.2 1 (by simp)).1
  have y0_1 : w0.cell? ⟨w.heap.size + 1, 1, none⟩ = some (.int .i64 x.kind) := (Y0.out.2 1 (by simp)).1
  have g0_2 : w0.cell? ⟨w.heap.size, 2, none⟩ = some (.slice a0 x.cols.length c0) := (A0.out.2 2 (by simp)).1
  have y0_2 : w0.cell? ⟨w.heap.size + 1, 2, none⟩ = some (.slice p0 x.cols.length q0) := (Y0.out.2 2 (by simp)).1
  have g0_3 : w0.cell? ⟨w.heap.size, 3, none⟩ = some (.slice a1 x.expr.length c1) := (A0.out.2 3 (by simp)).1
  have y0_3 : w0.cell? ⟨w.heap.size + 1, 3, none⟩ = some (.slice p1 x.expr.length q1) := (Y0.out.2 3 (by simp)).1
  have g0_4 : w0.cell? ⟨w.heap.size, 4, none⟩ = some (.string x.table) := (A0.out.2 4 (by simp)).1
  have y0_4 : w0.cell? ⟨w.heap.size + 1, 4, none⟩ = some (.string x.table) := (Y0.out.2 4 (by simp)).1
  have g0_5 : w0.cell? ⟨w.heap.size, 5, none⟩ = some (.slice a2 x.to.length c2) := (A0.out.2 5 (by simp)).1
  have y0_5 : w0.cell? ⟨w.heap.size + 1, 5, none⟩ = some (.slice p2 x.to.length q2) := (Y0.out.2 5 (by simp)).1
  go_wp2_with fail
  refine (eqKs a1 p1 c1 q1 x.expr _ (K1.out _ B0.out) (M1.out _ B0.out)).mono ?_
  rintro e w1 ⟨rfl, b1⟩
  have B1 := Lib.hid (Below.call b1 B0.out)
  have A1 := Lib.hid (show Blk w1 w.heap.size [.string x.name, .int .i64 x.kind, .slice a0 x.cols.length c0, .slice a1 x.expr.length c1, .string x.table, .slice a2 x.to.length c2] from Blk.call b1 (A0.out))
  have Y1 := Lib.hid (show Blk w1 (w.heap.size + 1) [.string x.name, .int .i64 x.kind, .slice p0 x.cols.length q0, .slice p1 x.expr.length q1, .string x.table, .slice p2 x.to.length q2] from Blk.call b1 (Y0.out))
  clear b1
  clear g0_0 g0_1 g0_2 g0_3 g0_4 g0_5 y0_0 y0_1 y0_2 y0_3 y0_4 y0_5
  have g1_0 : w1.cell? ⟨w.heap.size, 0, none⟩ = some (.string x.name) := (A1.out.2 0 (by simp)).1
  have y1_0 : w1.cell? ⟨w.heap.size + 1, 0, none⟩ = some (.string x.name) := (Y1.out.2 0 (by simp)).1
  have g1_1 : w1.cell? ⟨w.heap.size, 1, none⟩ = some (.int .i64 x.kind) := (A1.out.2 1 (by simp)).1
  have y1_1 : w1.cell? ⟨w.heap.size + 1, 1, none⟩ = some (.int .i64 x.kind) := (Y1.out.2 1 (by simp)).1
  have g1_2 : w1.cell? ⟨w.heap.size, 2, none⟩ = some (.slice a0 x.cols.length c0) := (A1.out.2 2 (by simp)).1
  have y1_2 : w1.cell? ⟨w.heap.size + 1, 2, none⟩ = some (.slice p0 x.cols.length q0) := (Y1.out.2 2 (by simp)).1
  have g1_3 : w1.cell? ⟨w.heap.size, 3, none⟩ = some (.slice a1 x.expr.length c1) := (A1.out.2 3 (by simp)).1
  have y1_3 : w1.cell? ⟨w.heap.size + 1, 3, none⟩ = some (.slice p1 x.expr.length q1) := (Y1.out.2 3 (by simp)).1
  have g1_4 : w1.cell? ⟨w.heap.size, 4, none⟩ = some (.string x.table) := (A1.out.2 4 (by simp)).1
  have y1_4 : w1.cell? ⟨w.heap.size + 1, 4, none⟩ = some (.string x.table) := (Y1.out.2 4 (by simp)).1
  have g1_5 : w1.cell? ⟨w.heap.size, 5, none⟩ = some (.slice a2 x.to.length c2) := (A1.out.2 5 (by simp)).1
  have y1_5 : w1.cell? ⟨w.heap.size + 1, 5, none⟩ = some (.slice p2 x.to.length q2) := (Y1.out.2 5 (by simp)).1
  go_wp2_with fail
  refine (eqSs a2 p2 c2 q2 x.to _ (K2.out _ B1.out) (M2.out _ B1.out)).mono ?_
  rintro e w2 ⟨rfl, b2⟩
  have B2 := Lib.hid (Below.call b2 B1.out)
  have A2 := Lib.hid (show Blk w2 w.heap.size [.string x.name, .int .i64 x.kind, .slice a0 x.cols.length c0, .slice a1 x.expr.length c1, .string x.table, .slice a2 x.to.length c2] from Blk.call b2 (A1.out))
  have Y2 := Lib.hid (show Blk w2 (w.heap.size + 1) [.string x.name, .int .i64 x.kind, .slice p0 x.cols.length q0, .slice p1 x.expr.length q1, .string x.table, .slice p2 x.to.length q2] from Blk.call b2 (Y1.out))
  clear b2
  clear g1_0 g1_1 g1_2 g1_3 g1_4 g1_5 y1_0 y1_1 y1_2 y1_3 y1_4 y1_5
  have g2_0 : w2.cell? ⟨w.heap.size, 0, none⟩ = some (.string x.name) := (A2.out.2 0 (by simp)).1
  have y2_0 : w2.cell? ⟨w.heap.size + 1, 0, none⟩ = some (.string x.name) := (Y2.out.2 0 (by simp)).1
  have g2_1 : w2.cell? ⟨w.heap.size, 1, none⟩ = some (.int .i64 x.kind) := (A2.out.2 1 (by simp)).1
  have y2_1 : w2.cell? ⟨w.heap.size + 1, 1, none⟩ = some (.int .i64 x.kind) := (Y2.out.2 1 (by simp)).1
  have g2_2 : w2.cell? ⟨w.heap.size, 2, none⟩ = some (.slice a0 x.cols.length c0) := (A2.out.2 2 (by simp)).1
  have y2_2 : w2.cell? ⟨w.heap.size + 1, 2, none⟩ = some (.slice p0 x.cols.length q0) := (Y2.out.2 2 (by simp)).1
  have g2_3 : w2.cell? ⟨w.heap.size, 3, none⟩ = some (.slice a1 x.expr.length c1) := (A2.out.2 3 (by simp)).1
  have y2_3 : w2.cell? ⟨w.heap.size + 1, 3, none⟩ = some (.slice p1 x.expr.length q1) := (Y2.out.2 3 (by simp)).1
  have g2_4 : w2.cell? ⟨w.heap.size, 4, none⟩ = some (.string x.table) := (A2.out.2 4 (by simp)).1
  have y2_4 : w2.cell? ⟨w.heap.size + 1, 4, none⟩ = some (.string x.table) := (Y2.out.2 4 (by simp)).1
  have g2_5 : w2.cell? ⟨w.heap.size, 5, none⟩ = some (.slice a2 x.to.length c2) := (A2.out.2 5 (by simp)).1
  have y2_5 : w2.cell? ⟨w.heap.size + 1, 5, none⟩ = some (.slice p2 x.to.length q2) := (Y2.out.2 5 (by simp)).1
  go_wp2_with fail
  go_ret
  exact ⟨rfl, B2.out⟩

set_option maxHeartbeats 2000000 in
theorem eqRuS (a a' : Option Addr) (c c' : Nat) (xs : List Ru) (w : World) (hx : Sl 6 RRu 0 w a c xs) (hy : Sl 6 RRu 0 w a' c' xs) :
    Calls Tryz.prog 57 #[.slice a xs.length c, .slice a' xs.length c'] w fun e w' => e = .returned (.bool true) ∧ Below w.heap.size w w' := by
  have hl := hx.len
  have hne : (((xs.length : Int)) != (xs.length : Int)) = false := by simp
  have HX := Lib.hid (fun w' (hb : Below w.heap.size w w') => hx.kept goodRu (Kept.below hb))
  have HY := Lib.hid (fun w' (hb : Below w.heap.size w w') => hy.kept goodRu (Kept.below hb))
  clear hx hy
  go_enter Tryz.func57, Tryz.ntmps57
  go_wp2
  go_loopw [5] (fun i wr => ∃ k : Nat, k ≤ xs.length ∧ i = .int .i64 k ∧ Below w.heap.size w wr) (fun i _ => xs.length - (intOf i).toNat)
  case atStart => exact ⟨0, Nat.zero_le _, rfl, Below.refl _ _⟩
  case round =>
    obtain ⟨k, hk, rfl, hbw⟩ := hrel
    by_cases hlt : k < xs.length
    · obtain ⟨b, off, vs, rfl, hbl, hcs, hR⟩ := (HX.out _ hbw).spot hlt
      obtain ⟨b', off', us, rfl, hbl', hds, hU⟩ := (HY.out _ hbw).spot hlt
      have HR := hR
      have HU := hU
      obtain ⟨a0, c0, a1, c1, a2, c2, rfl, _⟩ := hR
      obtain ⟨p0, q0, p1, q1, p2, q2, rfl, _⟩ := hU
      have hc0 : wr.cell? ⟨b, off + k * 6, none⟩ = some (.string xs[k].name) := hcs 0 (by simp)
      have hc1 : wr.cell? ⟨b, off + k * 6 + 1, none⟩ = some (.int .i64 xs[k].kind) := hcs 1 (by simp)
      have hc2 : wr.cell? ⟨b, off + k * 6 + 2, none⟩ = some (.slice a0 xs[k].cols.length c0) := hcs 2 (by simp)
      have hc3 : wr.cell? ⟨b, off + k * 6 + 3, none⟩ = some (.slice a1 xs[k].expr.length c1) := hcs 3 (by simp)
      have hc4 : wr.cell? ⟨b, off + k * 6 + 4, none⟩ = some (.string xs[k].table) := hcs 4 (by simp)
      have hc5 : wr.cell? ⟨b, off + k * 6 + 5, none⟩ = some (.slice a2 xs[k].to.length c2) := hcs 5 (by simp)
      have hd0 : wr.cell? ⟨b', off' + k * 6, none⟩ = some (.string xs[k].name) := hds 0 (by simp)
      have hd1 : wr.cell? ⟨b', off' + k * 6 + 1, none⟩ = some (.int .i64 xs[k].kind) := hds 1 (by simp)
      have hd2 : wr.cell? ⟨b', off' + k * 6 + 2, none⟩ = some (.slice p0 xs[k].cols.length q0) := hds 2 (by simp)
      have hd3 : wr.cell? ⟨b', off' + k * 6 + 3, none⟩ = some (.slice p1 xs[k].expr.length q1) := hds 3 (by simp)
      have hd4 : wr.cell? ⟨b', off' + k * 6 + 4, none⟩ = some (.string xs[k].table) := hds 4 (by simp)
      have hd5 : wr.cell? ⟨b', off' + k * 6 + 5, none⟩ = some (.slice p2 xs[k].to.length q2) := hds 5 (by simp)
      have h0k : (0 : Int) ≤ (k : Int) := by omega
      have hkl : (k : Int) < (xs.length : Int) := by omega
      have HA := Lib.hid (fun w' (hb : Below wr.heap.size wr w') => goodRu.kept HR (Kept.below hb))
      have HB := Lib.hid (fun w' (hb : Below wr.heap.size wr w') => goodRu.kept HU (Kept.below hb))
      clear HR HU hcs hds
      go_wp2_with fail
      go_region_held3 (fun w' => w'.cell? ⟨b, off + k * 6, none⟩ = some (.string xs[k].name) ∧ w'.cell? ⟨b, off + k * 6 + 1, none⟩ = some (.int .i64 xs[k].kind) ∧ w'.cell? ⟨b, off + k * 6 + 2, none⟩ = some (.slice a0 xs[k].cols.length c0) ∧ w'.cell? ⟨b, off + k * 6 + 3, none⟩ = some (.slice a1 xs[k].expr.length c1) ∧ w'.cell? ⟨b, off + k * 6 + 4, none⟩ = some (.string xs[k].table) ∧ w'.cell? ⟨b, off + k * 6 + 5, none⟩ = some (.slice a2 xs[k].to.length c2) ∧ w'.cell? ⟨b', off' + k * 6, none⟩ = some (.string xs[k].name) ∧ w'.cell? ⟨b', off' + k * 6 + 1, none⟩ = some (.int .i64 xs[k].kind) ∧ w'.cell? ⟨b', off' + k * 6 + 2, none⟩ = some (.slice p0 xs[k].cols.length q0) ∧ w'.cell? ⟨b', off' + k * 6 + 3, none⟩ = some (.slice p1 xs[k].expr.length q1) ∧ w'.cell? ⟨b', off' + k * 6 + 4, none⟩ = some (.string xs[k].table) ∧ w'.cell? ⟨b', off' + k * 6 + 5, none⟩ = some (.slice p2 xs[k].to.length q2)) (first | go_keep | exact ⟨(hcw _ _ hbl).trans hc0, (hcw _ _ hbl).trans hc1, (hcw _ _ hbl).trans hc2, (hcw _ _ hbl).trans hc3, (hcw _ _ hbl).trans hc4, (hcw _ _ hbl).trans hc5, (hcw _ _ hbl').trans hd0, (hcw _ _ hbl').trans hd1, (hcw _ _ hbl').trans hd2, (hcw _ _ hbl').trans hd3, (hcw _ _ hbl').trans hd4, (hcw _ _ hbl').trans hd5⟩)
        ((go_at_call 15; refine (eqRu _ _ xs[k] _ (HA.out _ (below_drewE (Below.refl _ _))) (HB.out _ (below_drewE (Below.refl _ _)))).mono ?_; rintro e w2 ⟨rfl, hb2⟩; obtain ⟨hcw, _⟩ := bcellE hb2))
      go_wp2_with fail
      go_roundw
      case rel => exact ⟨k + 1, by omega, by go_num, (below_drewE hbw).trans (hb2.mono hbw.size)⟩
      case measure => simp [intOf]; omega
    · go_wp2
      go_ret
      exact ⟨rfl, hbw⟩

end Go.Proofs.YtpdcmmhhgnackaaGreatDoor

namespace Go.Proofs.YtpdcmmhhgnackaaGreatDoor
open Go.RowKit

def Two2 {X : Type} (R : Rd X) (w : World) (b : Nat) (vs vs4 : List Value) (x : X) (w' : World) : Prop :=
  Blk w' w.heap.size vs ∧ Blk w' b vs4 ∧ R 0 w' vs4 x ∧ Below w.heap.size w w'

theorem Two2.below {X : Type} {R : Rd X} (G : Good R) {w wa wb : World} {b : Nat} {vs vs4 : List Value} {x : X} (h : Two2 R w b vs vs4 x wa) (hb : Below wa.heap.size wa wb) : Two2 R w b vs vs4 x wb :=
  ⟨h.1.below hb, h.2.1.below hb, G.kept h.2.2.1 (Kept.below hb), Below.call hb h.2.2.2⟩

theorem Two2.drew {X : Type} {R : Rd X} (G : Good R) {w wa : World} {b : Nat} {vs vs4 : List Value} {x : X} (h : Two2 R w b vs vs4 x wa) : Two2 R w b vs vs4 x wa.drew := h.below G (below_drewE (Below.refl _ _))

theorem Two2.new {X : Type} {R : Rd X} (G : Good R) {w w4 : World} {vs vs4 : List Value} {x : X} (hX : Blk w4 w.heap.size vs) (hK : R 0 w4 vs4 x) (hB : Below w.heap.size w w4) (T : TypeId) :
    Two2 R w w4.heap.size vs vs4 x (w4.alloc (.cells vs4.toArray T)) :=
  ⟨hX.alloc _, blk_new w4 T vs4, G.kept hK (Kept.below ((Below.refl _ _).alloc (Nat.le_refl _) _)), Below.call ((Below.refl _ _).alloc (Nat.le_refl _) _) hB⟩

end Go.Proofs.YtpdcmmhhgnackaaGreatDoor
