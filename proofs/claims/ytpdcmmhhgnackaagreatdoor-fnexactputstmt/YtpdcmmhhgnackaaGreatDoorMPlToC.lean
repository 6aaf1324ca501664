/- The laws' own helpers over schemas (the copy): Rule. Written by tools/gen_plan.py. -/
/- The laws' own helpers over statements (the copy). Written by tools/gen_stmt.py. -/
/- The laws' own helpers over schemas (the equality): Col. Written by tools/gen_plan.py. -/
import Derived.Test.YtpdcmmhhgnackaaGreatDoorMExSz
import Derived.Test.YtpdcmmhhgnackaaGreatDoorMPl
import Derived.Test.YtpdcmmhhgnackaaGreatDoorMPlSzB
namespace Go.Proofs.YtpdcmmhhgnackaaGreatDoor
open Go.RowKit

set_option maxHeartbeats 2000000 in
theorem toRu (vs : List Value) (x : Ru) (w : World) (hR : RRu 0 w vs x) (hn : x.wt ≤ 1048576) :
    Calls Tryz.prog 13 #[.agg vs.toArray] w fun e w' => ∃ vs' : List Value, vs'.length = 6 ∧ e = .returned (.agg vs'.toArray) ∧ RRu w.heap.size w' vs' x ∧ Below w.heap.size w w' := by
  obtain ⟨a0, c0, a1, c1, a2, c2, rfl, hfit, k0, k1, k2⟩ := hR
  have K0 := Lib.hid (fun w' (hb : Below w.heap.size w w') => k0.kept (Kept.below hb))
  clear k0
  have K1 := Lib.hid (fun w' (hb : Below w.heap.size w w') => k1.kept (Kept.below hb))
  clear k1
  have K2 := Lib.hid (fun w' (hb : Below w.heap.size w w') => k2.kept (Kept.below hb))
  clear k2
  have HW : x.wt = x.name.size + (x.cols.length + lets x.cols) + (x.expr.length + wtL x.expr) + x.table.size + (x.to.length + lets x.to) := rfl
  go_enter Tryz.func13, Tryz.ntmps13
  go_wp2_with fail
  refine (toSs a0 c0 x.cols _ (K0.out _ ?_) (by omega)).mono ?_
  · ((repeat (first | refine Below.alloc ?_ (by first | omega | (simp; done) | (simp; omega)) _ | refine Below.setCell ?_ (by first | omega | (simp; done) | (simp; omega)) _)); first | exact Below.refl _ _ | exact Below.refl _ _)
  rintro e w0 ⟨p0, q0, rfl, s0, b0⟩
  have B0 := Lib.hid (show Below w.heap.size w w0 from Below.call b0 (by ((repeat (first | refine Below.alloc ?_ (by first | omega | (simp; done) | (simp; omega)) _ | refine Below.setCell ?_ (by first | omega | (simp; done) | (simp; omega)) _)); first | exact Below.refl _ _ | exact Below.refl _ _)))
  have A0 := Lib.hid (show Blk w0 w.heap.size [.string x.name, .int .i64 x.kind, .slice a0 x.cols.length c0, .slice a1 x.expr.length c1, .string x.table, .slice a2 x.to.length c2] from Blk.call b0 (((blk_new w _ [.string x.name, .int .i64 x.kind, .slice a0 x.cols.length c0, .slice a1 x.expr.length c1, .string x.table, .slice a2 x.to.length c2]).alloc _).alloc _))
  have Y0 := Lib.hid (show Blk w0 (w.heap.size + 1) [.string ByteArray.empty, .int .i64 0, .slice none 0 0, .slice none 0 0, .string ByteArray.empty, .slice none 0 0] from Blk.call b0 ((blk_new' (w := w.alloc _) (b := w.heap.size + 1) (by simp) _ [.string ByteArray.empty, .int .i64 0, .slice none 0 0, .slice none 0 0, .string ByteArray.empty, .slice none 0 0]).alloc _))
  have G0 := Lib.hid (show Blk w0 (w.heap.size + 1 + 1) [.string x.name, .int .i64 x.kind, .slice none 0 0, .slice none 0 0, .string ByteArray.empty, .slice none 0 0] from Blk.call b0 (blk_new' (w := (w.alloc _).alloc _) (b := w.heap.size + 1 + 1) (by simp) _ [.string x.name, .int .i64 x.kind, .slice none 0 0, .slice none 0 0, .string ByteArray.empty, .slice none 0 0]))
  have S0 := Lib.hid (s0.lower (show w.heap.size + 3 ≤ _ by (first | omega | (simp; done) | (simp; omega) | (simp [World.setCell]; done) | (simp [World.setCell]; omega))))
  clear s0 b0
  have g0_3 : w0.cell? ⟨w.heap.size, 3, none⟩ = some (.slice a1 x.expr.length c1) := (A0.out.2 3 (by simp)).1
  have h0_2 : w0.cell? ⟨w.heap.size + 1 + 1, 2, none⟩ = some (.slice none 0 0) := (G0.out.2 2 (by simp)).1
  have z0_2 : w0.frozen? ⟨w.heap.size + 1 + 1, 2, none⟩ = false := (G0.out.2 2 (by simp)).2
  go_wp2_with fail
  refine (toKs a1 c1 x.expr _ (K1.out _ ?_) (by omega)).mono ?_
  · (refine Below.setCell ?_ (by first | omega | (simp; done) | (simp; omega)) _; exact B0.out)
  rintro e w1 ⟨p1, q1, rfl, s1, b1⟩
  have B1 := Lib.hid (show Below w.heap.size w w1 from Below.call b1 (by (refine Below.setCell ?_ (by first | omega | (simp; done) | (simp; omega)) _; exact B0.out)))
  have A1 := Lib.hid (show Blk w1 w.heap.size [.string x.name, .int .i64 x.kind, .slice a0 x.cols.length c0, .slice a1 x.expr.length c1, .string x.table, .slice a2 x.to.length c2] from Blk.call b1 ((A0.out).other (b' := w.heap.size + 1 + 1) (by omega) 2 (.slice p0 x.cols.length q0)))
  have Y1 := Lib.hid (show Blk w1 (w.heap.size + 1) [.string ByteArray.empty, .int .i64 0, .slice none 0 0, .slice none 0 0, .string ByteArray.empty, .slice none 0 0] from Blk.call b1 ((Y0.out).other (b' := w.heap.size + 1 + 1) (by omega) 2 (.slice p0 x.cols.length q0)))
  have G1 := Lib.hid (show Blk w1 (w.heap.size + 1 + 1) [.string x.name, .int .i64 x.kind, .slice p0 x.cols.length q0, .slice none 0 0, .string ByteArray.empty, .slice none 0 0] from Blk.call b1 ((G0.out).set 2 (.slice p0 x.cols.length q0)))
  have S0 := Lib.hid (S0.out.kept (Kept.call b1 (by (refine Kept.set ?_ (by first | omega | (simp; done) | (simp; omega)) _; exact Kept.refl _ _))))
  have S1 := Lib.hid (s1.lower (show w.heap.size + 3 ≤ _ by (have h3 := G0.out.1; first | omega | (simp; done) | (simp; omega) | (simp [World.setCell]; done) | (simp [World.setCell]; omega))))
  clear s1 b1
  clear g0_3 h0_2 z0_2
  have g1_4 : w1.cell? ⟨w.heap.size, 4, none⟩ = some (.string x.table) := (A1.out.2 4 (by simp)).1
  have g1_5 : w1.cell? ⟨w.heap.size, 5, none⟩ = some (.slice a2 x.to.length c2) := (A1.out.2 5 (by simp)).1
  have h1_3 : w1.cell? ⟨w.heap.size + 1 + 1, 3, none⟩ = some (.slice none 0 0) := (G1.out.2 3 (by simp)).1
  have z1_3 : w1.frozen? ⟨w.heap.size + 1 + 1, 3, none⟩ = false := (G1.out.2 3 (by simp)).2
  have h1_4 : w1.cell? ⟨w.heap.size + 1 + 1, 4, none⟩ = some (.string ByteArray.empty) := (G1.out.2 4 (by simp)).1
  have z1_4 : w1.frozen? ⟨w.heap.size + 1 + 1, 4, none⟩ = false := (G1.out.2 4 (by simp)).2
  go_wp2_with fail
  refine (toSs a2 c2 x.to _ (K2.out _ ?_) (by omega)).mono ?_
  · (refine Below.setCell ?_ (by first | omega | (simp; done) | (simp; omega)) _; refine Below.setCell ?_ (by first | omega | (simp; done) | (simp; omega)) _; exact B1.out)
  rintro e w2 ⟨p2, q2, rfl, s2, b2⟩
  have B2 := Lib.hid (show Below w.heap.size w w2 from Below.call b2 (by (refine Below.setCell ?_ (by first | omega | (simp; done) | (simp; omega)) _; refine Below.setCell ?_ (by first | omega | (simp; done) | (simp; omega)) _; exact B1.out)))
  have A2 := Lib.hid (show Blk w2 w.heap.size [.string x.name, .int .i64 x.kind, .slice a0 x.cols.length c0, .slice a1 x.expr.length c1, .string x.table, .slice a2 x.to.length c2] from Blk.call b2 (((A1.out).other (b' := w.heap.size + 1 + 1) (by omega) 3 (.slice p1 x.expr.length q1)).other (b' := w.heap.size + 1 + 1) (by omega) 4 (.string x.table)))
  have Y2 := Lib.hid (show Blk w2 (w.heap.size + 1) [.string ByteArray.empty, .int .i64 0, .slice none 0 0, .slice none 0 0, .string ByteArray.empty, .slice none 0 0] from Blk.call b2 (((Y1.out).other (b' := w.heap.size + 1 + 1) (by omega) 3 (.slice p1 x.expr.length q1)).other (b' := w.heap.size + 1 + 1) (by omega) 4 (.string x.table)))
  have G2 := Lib.hid (show Blk w2 (w.heap.size + 1 + 1) [.string x.name, .int .i64 x.kind, .slice p0 x.cols.length q0, .slice p1 x.expr.length q1, .string x.table, .slice none 0 0] from Blk.call b2 (((G1.out).set 3 (.slice p1 x.expr.length q1)).set 4 (.string x.table)))
  have S0 := Lib.hid (S0.out.kept (Kept.call b2 (by (refine Kept.set ?_ (by first | omega | (simp; done) | (simp; omega)) _; refine Kept.set ?_ (by first | omega | (simp; done) | (simp; omega)) _; exact Kept.refl _ _))))
  have S1 := Lib.hid (S1.out.kept (Kept.call b2 (by (refine Kept.set ?_ (by first | omega | (simp; done) | (simp; omega)) _; refine Kept.set ?_ (by first | omega | (simp; done) | (simp; omega)) _; exact Kept.refl _ _))))
  have S2 := Lib.hid (s2.lower (show w.heap.size + 3 ≤ _ by (have h3 := G1.out.1; first | omega | (simp; done) | (simp; omega) | (simp [World.setCell]; done) | (simp [World.setCell]; omega))))
  clear s2 b2
  clear g1_4 g1_5 h1_3 z1_3 h1_4 z1_4
  have h2_0 : w2.cell? ⟨w.heap.size + 1 + 1, 0, none⟩ = some (.string x.name) := (G2.out.2 0 (by simp)).1
  have y2_0 : w2.cell? ⟨w.heap.size + 1, 0, none⟩ = some (.string ByteArray.empty) := (Y2.out.2 0 (by simp)).1
  have r2_0 : w2.frozen? ⟨w.heap.size + 1, 0, none⟩ = false := (Y2.out.2 0 (by simp)).2
  have h2_1 : w2.cell? ⟨w.heap.size + 1 + 1, 1, none⟩ = some (.int .i64 x.kind) := (G2.out.2 1 (by simp)).1
  have y2_1 : w2.cell? ⟨w.heap.size + 1, 1, none⟩ = some (.int .i64 0) := (Y2.out.2 1 (by simp)).1
  have r2_1 : w2.frozen? ⟨w.heap.size + 1, 1, none⟩ = false := (Y2.out.2 1 (by simp)).2
  have h2_2 : w2.cell? ⟨w.heap.size + 1 + 1, 2, none⟩ = some (.slice p0 x.cols.length q0) := (G2.out.2 2 (by simp)).1
  have y2_2 : w2.cell? ⟨w.heap.size + 1, 2, none⟩ = some (.slice none 0 0) := (Y2.out.2 2 (by simp)).1
  have r2_2 : w2.frozen? ⟨w.heap.size + 1, 2, none⟩ = false := (Y2.out.2 2 (by simp)).2
  have h2_3 : w2.cell? ⟨w.heap.size + 1 + 1, 3, none⟩ = some (.slice p1 x.expr.length q1) := (G2.out.2 3 (by simp)).1
  have y2_3 : w2.cell? ⟨w.heap.size + 1, 3, none⟩ = some (.slice none 0 0) := (Y2.out.2 3 (by simp)).1
  have r2_3 : w2.frozen? ⟨w.heap.size + 1, 3, none⟩ = false := (Y2.out.2 3 (by simp)).2
  have h2_4 : w2.cell? ⟨w.heap.size + 1 + 1, 4, none⟩ = some (.string x.table) := (G2.out.2 4 (by simp)).1
  have y2_4 : w2.cell? ⟨w.heap.size + 1, 4, none⟩ = some (.string ByteArray.empty) := (Y2.out.2 4 (by simp)).1
  have r2_4 : w2.frozen? ⟨w.heap.size + 1, 4, none⟩ = false := (Y2.out.2 4 (by simp)).2
  have h2_5 : w2.cell? ⟨w.heap.size + 1 + 1, 5, none⟩ = some (.slice none 0 0) := (G2.out.2 5 (by simp)).1
  have z2_5 : w2.frozen? ⟨w.heap.size + 1 + 1, 5, none⟩ = false := (G2.out.2 5 (by simp)).2
  have y2_5 : w2.cell? ⟨w.heap.size + 1, 5, none⟩ = some (.slice none 0 0) := (Y2.out.2 5 (by simp)).1
  have r2_5 : w2.frozen? ⟨w.heap.size + 1, 5, none⟩ = false := (Y2.out.2 5 (by simp)).2
  go_wp2_with fail
  refine bodyPost_ret (v := .agg #[.string x.name, .int .i64 x.kind, .slice p0 x.cols.length q0, .slice p1 x.expr.length q1, .string x.table, .slice p2 x.to.length q2]) (by simp [results, Tryz.results13, go_sem, *]) rfl ⟨[.string x.name, .int .i64 x.kind, .slice p0 x.cols.length q0, .slice p1 x.expr.length q1, .string x.table, .slice p2 x.to.length q2], rfl, rfl, ⟨p0, q0, p1, q1, p2, q2, rfl, hfit, ?_, ?_, ?_⟩, ?_⟩
  · exact (S0.out.kept (by (refine Kept.set ?_ (by first | omega | (simp; done) | (simp; omega)) _; refine Kept.set ?_ (by first | omega | (simp; done) | (simp; omega)) _; refine Kept.set ?_ (by first | omega | (simp; done) | (simp; omega)) _; refine Kept.set ?_ (by first | omega | (simp; done) | (simp; omega)) _; refine Kept.set ?_ (by first | omega | (simp; done) | (simp; omega)) _; refine Kept.set ?_ (by first | omega | (simp; done) | (simp; omega)) _; refine Kept.set ?_ (by first | omega | (simp; done) | (simp; omega)) _; exact Kept.refl _ _))).lower (by omega)
  · exact (S1.out.kept (by (refine Kept.set ?_ (by first | omega | (simp; done) | (simp; omega)) _; refine Kept.set ?_ (by first | omega | (simp; done) | (simp; omega)) _; refine Kept.set ?_ (by first | omega | (simp; done) | (simp; omega)) _; refine Kept.set ?_ (by first | omega | (simp; done) | (simp; omega)) _; refine Kept.set ?_ (by first | omega | (simp; done) | (simp; omega)) _; refine Kept.set ?_ (by first | omega | (simp; done) | (simp; omega)) _; refine Kept.set ?_ (by first | omega | (simp; done) | (simp; omega)) _; exact Kept.refl _ _))).lower (by omega)
  · exact (S2.out.kept (by (refine Kept.set ?_ (by first | omega | (simp; done) | (simp; omega)) _; refine Kept.set ?_ (by first | omega | (simp; done) | (simp; omega)) _; refine Kept.set ?_ (by first | omega | (simp; done) | (simp; omega)) _; refine Kept.set ?_ (by first | omega | (simp; done) | (simp; omega)) _; refine Kept.set ?_ (by first | omega | (simp; done) | (simp; omega)) _; refine Kept.set ?_ (by first | omega | (simp; done) | (simp; omega)) _; refine Kept.set ?_ (by first | omega | (simp; done) | (simp; omega)) _; exact Kept.refl _ _))).lower (by omega)
  · (refine Below.setCell ?_ (by first | omega | (simp; done) | (simp; omega)) _; refine Below.setCell ?_ (by first | omega | (simp; done) | (simp; omega)) _; refine Below.setCell ?_ (by first | omega | (simp; done) | (simp; omega)) _; refine Below.setCell ?_ (by first | omega | (simp; done) | (simp; omega)) _; refine Below.setCell ?_ (by first | omega | (simp; done) | (simp; omega)) _; refine Below.setCell ?_ (by first | omega | (simp; done) | (simp; omega)) _; refine Below.setCell ?_ (by first | omega | (simp; done) | (simp; omega)) _; exact B2.out)

theorem Tryz.infoRule : (Tryz.prog.info? 42).map (fun i => (i.zero, i.size, i.bytes)) = some (some (.agg #[.string ByteArray.empty, .int .i64 0, .slice none 0 0, .slice none 0 0, .string ByteArray.empty, .slice none 0 0]), 6, 112) := by kernel_rfl

set_option maxHeartbeats 2000000 in
theorem toRuS (a : Option Addr) (c : Nat) (xs : List Ru) (w : World) (hx : Sl 6 RRu 0 w a c xs) (hn : xs.length + wtS Ru.wt xs ≤ 1048576) :
    Calls Tryz.prog 53 #[.slice a xs.length c] w fun e w' => ∃ a' c', e = .returned (.slice a' xs.length c') ∧ Sl 6 RRu w.heap.size w' a' c' xs ∧ Below w.heap.size w w' := by
  obtain ⟨i0, hi0, hz0, hz1, hz2⟩ := info_parts Tryz.infoRule
  have hb16 : i0.bytes * xs.length ≤ 281474976710656 := by rw [hz2]; omega
  have hl := hx.len
  have HX := Lib.hid (fun w' (hb : Below w.heap.size w w') => hx.kept goodRu (Kept.below hb))
  clear hx
  go_enter Tryz.func53, Tryz.ntmps53
  go_wp2_with (at_make; refine wpList_make_full _ rfl _ _ 53 rfl w.heap.size 42 i0 (.agg #[.string ByteArray.empty, .int .i64 0, .slice none 0 0, .slice none 0 0, .string ByteArray.empty, .slice none 0 0]) 6 Tryz.underlying53 hi0 hz0 hz1 .i64 .i64 _ _ xs.length rfl rfl rfl rfl hb16 (by unfold maxLen; omega) (Nat.le_refl _) ?_; intro w1 hown hg)
  have HD0 : DoneR 42 6 RRu [.string ByteArray.empty, .int .i64 0, .slice none 0 0, .slice none 0 0, .string ByteArray.empty, .slice none 0 0] w xs 0 w1 := DoneR.new (z := [.string ByteArray.empty, .int .i64 0, .slice none 0 0, .slice none 0 0, .string ByteArray.empty, .slice none 0 0]) (by simp) hown hg
  clear hown hg
  go_loopw [4] (fun i wr => ∃ k : Nat, i = .int .i64 k ∧ DoneR 42 6 RRu [.string ByteArray.empty, .int .i64 0, .slice none 0 0, .slice none 0 0, .string ByteArray.empty, .slice none 0 0] w xs k wr) (fun i _ => xs.length - (intOf i).toNat)
  case atStart => exact ⟨0, rfl, HD0⟩
  case round =>
    obtain ⟨k, rfl, hd⟩ := hrel
    by_cases hlt : k < xs.length
    · obtain ⟨b, off, vs, rfl, hbl, hcs, hR⟩ := (HX.out _ hd.2.2.2).spot hlt
      have HR := hR
      obtain ⟨a0, c0, a1, c1, a2, c2, rfl, _⟩ := hR
      have hc0 : wr.cell? ⟨b, off + k * 6, none⟩ = some (.string xs[k].name) := hcs 0 (by simp)
      have hc1 : wr.cell? ⟨b, off + k * 6 + 1, none⟩ = some (.int .i64 xs[k].kind) := hcs 1 (by simp)
      have hc2 : wr.cell? ⟨b, off + k * 6 + 2, none⟩ = some (.slice a0 xs[k].cols.length c0) := hcs 2 (by simp)
      have hc3 : wr.cell? ⟨b, off + k * 6 + 3, none⟩ = some (.slice a1 xs[k].expr.length c1) := hcs 3 (by simp)
      have hc4 : wr.cell? ⟨b, off + k * 6 + 4, none⟩ = some (.string xs[k].table) := hcs 4 (by simp)
      have hc5 : wr.cell? ⟨b, off + k * 6 + 5, none⟩ = some (.slice a2 xs[k].to.length c2) := hcs 5 (by simp)
      have HK := Lib.hid HR
      have HD := Lib.hid hd
      have HWt := wtS_get Ru.wt hlt
      clear HR hd hcs HD0
      go_wp2_with fail
      refine (toRu _ xs[k] _ HK.out (by omega)).mono ?_
      rintro e w2 ⟨vs2, hvl, rfl, hk2, hb2⟩
      have HR2 := hk2
      obtain ⟨p0, q0, p1, q1, p2, q2, rfl, _⟩ := hk2
      have DC := HD.out.cells rfl hlt hb2
      have hd0 : w2.cell? ⟨w.heap.size, k * 6, none⟩ = some (.string ByteArray.empty) := DC.1 0 (by simp)
      have hf0 : w2.frozen? ⟨w.heap.size, k * 6, none⟩ = false := DC.2 _
      have hd1 : w2.cell? ⟨w.heap.size, k * 6 + 1, none⟩ = some (.int .i64 0) := DC.1 1 (by simp)
      have hf1 : w2.frozen? ⟨w.heap.size, k * 6 + 1, none⟩ = false := DC.2 _
      have hd2 : w2.cell? ⟨w.heap.size, k * 6 + 2, none⟩ = some (.slice none 0 0) := DC.1 2 (by simp)
      have hf2 : w2.frozen? ⟨w.heap.size, k * 6 + 2, none⟩ = false := DC.2 _
      have hd3 : w2.cell? ⟨w.heap.size, k * 6 + 3, none⟩ = some (.slice none 0 0) := DC.1 3 (by simp)
      have hf3 : w2.frozen? ⟨w.heap.size, k * 6 + 3, none⟩ = false := DC.2 _
      have hd4 : w2.cell? ⟨w.heap.size, k * 6 + 4, none⟩ = some (.string ByteArray.empty) := DC.1 4 (by simp)
      have hf4 : w2.frozen? ⟨w.heap.size, k * 6 + 4, none⟩ = false := DC.2 _
      have hd5 : w2.cell? ⟨w.heap.size, k * 6 + 5, none⟩ = some (.slice none 0 0) := DC.1 5 (by simp)
      have hf5 : w2.frozen? ⟨w.heap.size, k * 6 + 5, none⟩ = false := DC.2 _
      have HS := Lib.hid (HD.out.step goodRu rfl hlt hvl HR2 hb2 rfl)
      clear DC HR2 hb2 HD HK hc0 hc1 hc2 hc3 hc4 hc5 hbl hvl
      go_wp2_with fail
      go_roundw
      case rel => exact ⟨k + 1, by go_num, HS.out⟩
      case measure => simp [intOf]; omega
    · have hle := hd.1
      obtain rfl : k = xs.length := by omega
      have HE := Lib.hid (hd.end goodRu (by unfold maxLen; omega))
      have hbl := hd.2.2.2
      clear hd
      go_wp2_with fail
      go_ret
      exact ⟨_, _, rfl, HE.out, hbl⟩

end Go.Proofs.YtpdcmmhhgnackaaGreatDoor

namespace Go.Proofs.YtpdcmmhhgnackaaGreatDoor
open Go.RowKit

set_option maxHeartbeats 2000000 in
theorem toSt (vs : List Value) (x : St) (w : World) (hR : RSt 0 w vs x) (hn : x.wt ≤ 1048576) :
    Calls Tryz.prog 18 #[.agg vs.toArray] w fun e w' => ∃ vs' : List Value, vs'.length = 12 ∧ e = .returned (.agg vs'.toArray) ∧ RSt w.heap.size w' vs' x ∧ Below w.heap.size w w' := by
  obtain ⟨a0, c0, a1, c1, a2, c2, a3, c3, rfl, hfit, k0, k1, k2, k3⟩ := hR
  have K0 := Lib.hid (fun w' (hb : Below w.heap.size w w') => k0.kept (Kept.below hb))
  clear k0
  have K1 := Lib.hid (fun w' (hb : Below w.heap.size w w') => k1.kept goodCo (Kept.below hb))
  clear k1
  have K2 := Lib.hid (fun w' (hb : Below w.heap.size w w') => k2.kept goodRu (Kept.below hb))
  clear k2
  have K3 := Lib.hid (fun w' (hb : Below w.heap.size w w') => k3.kept (Kept.below hb))
  clear k3
  have HW : x.wt = x.name.size + x.on.size + (x.list.length + lets x.list) + x.ty.name.size + (x.cols.length + wtS Co.wt x.cols) + (x.rules.length + wtS Ru.wt x.rules) + (x.exprs.length + wtL x.exprs) := rfl
  go_enter Tryz.func18, Tryz.ntmps18
  go_wp2_with fail
  refine (toSs a0 c0 x.list _ (K0.out _ ?_) (by omega)).mono ?_
  · ((repeat (first | refine Below.alloc ?_ (by first | omega | (simp; done) | (simp; omega)) _ | refine Below.setCell ?_ (by first | omega | (simp; done) | (simp; omega)) _)); first | exact Below.refl _ _ | exact Below.refl _ _)
  rintro e w0 ⟨p0, q0, rfl, s0, b0⟩
  have B0 := Lib.hid (show Below w.heap.size w w0 from Below.call b0 (by ((repeat (first | refine Below.alloc ?_ (by first | omega | (simp; done) | (simp; omega)) _ | refine Below.setCell ?_ (by first | omega | (simp; done) | (simp; omega)) _)); first | exact Below.refl _ _ | exact Below.refl _ _)))
  have A0 := Lib.hid (show Blk w0 w.heap.size [.int .i64 x.kind, .string x.name, .string x.on, .slice a0 x.list.length c0, .int .i64 x.num, .bool x.flag, .int .i64 x.ty.kind, .int .i64 x.ty.len, .string x.ty.name, .slice a1 x.cols.length c1, .slice a2 x.rules.length c2, .slice a3 x.exprs.length c3] from Blk.call b0 (((blk_new w _ [.int .i64 x.kind, .string x.name, .string x.on, .slice a0 x.list.length c0, .int .i64 x.num, .bool x.flag, .int .i64 x.ty.kind, .int .i64 x.ty.len, .string x.ty.name, .slice a1 x.cols.length c1, .slice a2 x.rules.length c2, .slice a3 x.exprs.length c3]).alloc _).alloc _))
  have Y0 := Lib.hid (show Blk w0 (w.heap.size + 1) [.int .i64 0, .string ByteArray.empty, .string ByteArray.empty, .slice none 0 0, .int .i64 0, .bool false, .int .i64 0, .int .i64 0, .string ByteArray.empty, .slice none 0 0, .slice none 0 0, .slice none 0 0] from Blk.call b0 ((blk_new' (w := w.alloc _) (b := w.heap.size + 1) (by simp) _ [.int .i64 0, .string ByteArray.empty, .string ByteArray.empty, .slice none 0 0, .int .i64 0, .bool false, .int .i64 0, .int .i64 0, .string ByteArray.empty, .slice none 0 0, .slice none 0 0, .slice none 0 0]).alloc _))
  have G0 := Lib.hid (show Blk w0 (w.heap.size + 1 + 1) [.int .i64 x.kind, .string x.name, .string x.on, .slice none 0 0, .int .i64 0, .bool false, .int .i64 0, .int .i64 0, .string ByteArray.empty, .slice none 0 0, .slice none 0 0, .slice none 0 0] from Blk.call b0 (blk_new' (w := (w.alloc _).alloc _) (b := w.heap.size + 1 + 1) (by simp) _ [.int .i64 x.kind, .string x.name, .string x.on, .slice none 0 0, .int .i64 0, .bool false, .int .i64 0, .int .i64 0, .string ByteArray.empty, .slice none 0 0, .slice none 0 0, .slice none 0 0]))
  have S0 := Lib.hid (s0.lower (show w.heap.size + 3 ≤ _ by (first | omega | (simp; done) | (simp; omega) | (simp [World.setCell]; done) | (simp [World.setCell]; omega))))
  clear s0 b0
  have g0_4 : w0.cell? ⟨w.heap.size, 4, none⟩ = some (.int .i64 x.num) := (A0.out.2 4 (by simp)).1
  have g0_5 : w0.cell? ⟨w.heap.size, 5, none⟩ = some (.bool x.flag) := (A0.out.2 5 (by simp)).1
  have g0_6 : w0.cell? ⟨w.heap.size, 6, none⟩ = some (.int .i64 x.ty.kind) := (A0.out.2 6 (by simp)).1
  have g0_7 : w0.cell? ⟨w.heap.size, 7, none⟩ = some (.int .i64 x.ty.len) := (A0.out.2 7 (by simp)).1
  have g0_8 : w0.cell? ⟨w.heap.size, 8, none⟩ = some (.string x.ty.name) := (A0.out.2 8 (by simp)).1
  have h0_3 : w0.cell? ⟨w.heap.size + 1 + 1, 3, none⟩ = some (.slice none 0 0) := (G0.out.2 3 (by simp)).1
  have z0_3 : w0.frozen? ⟨w.heap.size + 1 + 1, 3, none⟩ = false := (G0.out.2 3 (by simp)).2
  have h0_4 : w0.cell? ⟨w.heap.size + 1 + 1, 4, none⟩ = some (.int .i64 0) := (G0.out.2 4 (by simp)).1
  have z0_4 : w0.frozen? ⟨w.heap.size + 1 + 1, 4, none⟩ = false := (G0.out.2 4 (by simp)).2
  have h0_5 : w0.cell? ⟨w.heap.size + 1 + 1, 5, none⟩ = some (.bool false) := (G0.out.2 5 (by simp)).1
  have z0_5 : w0.frozen? ⟨w.heap.size + 1 + 1, 5, none⟩ = false := (G0.out.2 5 (by simp)).2
  go_wp2_with fail
  refine (toTy x.ty.kind x.ty.len x.ty.name _).mono ?_
  rintro e wt ⟨rfl, bt⟩
  have Bt := Lib.hid (show Below w.heap.size w wt from Below.call bt (by (refine Below.setCell ?_ (by first | omega | (simp; done) | (simp; omega)) _; refine Below.setCell ?_ (by first | omega | (simp; done) | (simp; omega)) _; refine Below.setCell ?_ (by first | omega | (simp; done) | (simp; omega)) _; exact B0.out)))
  have At := Lib.hid (show Blk wt w.heap.size [.int .i64 x.kind, .string x.name, .string x.on, .slice a0 x.list.length c0, .int .i64 x.num, .bool x.flag, .int .i64 x.ty.kind, .int .i64 x.ty.len, .string x.ty.name, .slice a1 x.cols.length c1, .slice a2 x.rules.length c2, .slice a3 x.exprs.length c3] from Blk.call bt ((((A0.out).other (b' := w.heap.size + 1 + 1) (by omega) 3 (.slice p0 x.list.length q0)).other (b' := w.heap.size + 1 + 1) (by omega) 4 (.int .i64 x.num)).other (b' := w.heap.size + 1 + 1) (by omega) 5 (.bool x.flag)))
  have Yt := Lib.hid (show Blk wt (w.heap.size + 1) [.int .i64 0, .string ByteArray.empty, .string ByteArray.empty, .slice none 0 0, .int .i64 0, .bool false, .int .i64 0, .int .i64 0, .string ByteArray.empty, .slice none 0 0, .slice none 0 0, .slice none 0 0] from Blk.call bt ((((Y0.out).other (b' := w.heap.size + 1 + 1) (by omega) 3 (.slice p0 x.list.length q0)).other (b' := w.heap.size + 1 + 1) (by omega) 4 (.int .i64 x.num)).other (b' := w.heap.size + 1 + 1) (by omega) 5 (.bool x.flag)))
  have Gt := Lib.hid (show Blk wt (w.heap.size + 1 + 1) [.int .i64 x.kind, .string x.name, .string x.on, .slice p0 x.list.length q0, .int .i64 x.num, .bool x.flag, .int .i64 0, .int .i64 0, .string ByteArray.empty, .slice none 0 0, .slice none 0 0, .slice none 0 0] from Blk.call bt ((((G0.out).set 3 (.slice p0 x.list.length q0)).set 4 (.int .i64 x.num)).set 5 (.bool x.flag)))
  have S0 := Lib.hid (S0.out.kept (Kept.call bt (by (refine Kept.set ?_ (by first | omega | (simp; done) | (simp; omega)) _; refine Kept.set ?_ (by first | omega | (simp; done) | (simp; omega)) _; refine Kept.set ?_ (by first | omega | (simp; done) | (simp; omega)) _; exact Kept.refl _ _))))
  clear bt
  clear g0_4 g0_5 g0_6 g0_7 g0_8 h0_3 z0_3 h0_4 z0_4 h0_5 z0_5
  have gt_9 : wt.cell? ⟨w.heap.size, 9, none⟩ = some (.slice a1 x.cols.length c1) := (At.out.2 9 (by simp)).1
  have ht_6 : wt.cell? ⟨w.heap.size + 1 + 1, 6, none⟩ = some (.int .i64 0) := (Gt.out.2 6 (by simp)).1
  have zt_6 : wt.frozen? ⟨w.heap.size + 1 + 1, 6, none⟩ = false := (Gt.out.2 6 (by simp)).2
  have ht_7 : wt.cell? ⟨w.heap.size + 1 + 1, 7, none⟩ = some (.int .i64 0) := (Gt.out.2 7 (by simp)).1
  have zt_7 : wt.frozen? ⟨w.heap.size + 1 + 1, 7, none⟩ = false := (Gt.out.2 7 (by simp)).2
  have ht_8 : wt.cell? ⟨w.heap.size + 1 + 1, 8, none⟩ = some (.string ByteArray.empty) := (Gt.out.2 8 (by simp)).1
  have zt_8 : wt.frozen? ⟨w.heap.size + 1 + 1, 8, none⟩ = false := (Gt.out.2 8 (by simp)).2
  go_wp2_with fail
  refine (toCoS a1 c1 x.cols _ (K1.out _ ?_) (by omega)).mono ?_
  · (refine Below.setCell ?_ (by first | omega | (simp; done) | (simp; omega)) _; refine Below.setCell ?_ (by first | omega | (simp; done) | (simp; omega)) _; refine Below.setCell ?_ (by first | omega | (simp; done) | (simp; omega)) _; exact Bt.out)
  rintro e w1 ⟨p1, q1, rfl, s1, b1⟩
  have B1 := Lib.hid (show Below w.heap.size w w1 from Below.call b1 (by (refine Below.setCell ?_ (by first | omega | (simp; done) | (simp; omega)) _; refine Below.setCell ?_ (by first | omega | (simp; done) | (simp; omega)) _; refine Below.setCell ?_ (by first | omega | (simp; done) | (simp; omega)) _; exact Bt.out)))
  have A1 := Lib.hid (show Blk w1 w.heap.size [.int .i64 x.kind, .string x.name, .string x.on, .slice a0 x.list.length c0, .int .i64 x.num, .bool x.flag, .int .i64 x.ty.kind, .int .i64 x.ty.len, .string x.ty.name, .slice a1 x.cols.length c1, .slice a2 x.rules.length c2, .slice a3 x.exprs.length c3] from Blk.call b1 ((((At.out).other (b' := w.heap.size + 1 + 1) (by omega) 6 (.int .i64 x.ty.kind)).other (b' := w.heap.size + 1 + 1) (by omega) 7 (.int .i64 x.ty.len)).other (b' := w.heap.size + 1 + 1) (by omega) 8 (.string x.ty.name)))
  have Y1 := Lib.hid (show Blk w1 (w.heap.size + 1) [.int .i64 0, .string ByteArray.empty, .string ByteArray.empty, .slice none 0 0, .int .i64 0, .bool false, .int .i64 0, .int .i64 0, .string ByteArray.empty, .slice none 0 0, .slice none 0 0, .slice none 0 0] from Blk.call b1 ((((Yt.out).other (b' := w.heap.size + 1 + 1) (by omega) 6 (.int .i64 x.ty.kind)).other (b' := w.heap.size + 1 + 1) (by omega) 7 (.int .i64 x.ty.len)).other (b' := w.heap.size + 1 + 1) (by omega) 8 (.string x.ty.name)))
  have G1 := Lib.hid (show Blk w1 (w.heap.size + 1 + 1) [.int .i64 x.kind, .string x.name, .string x.on, .slice p0 x.list.length q0, .int .i64 x.num, .bool x.flag, .int .i64 x.ty.kind, .int .i64 x.ty.len, .string x.ty.name, .slice none 0 0, .slice none 0 0, .slice none 0 0] from Blk.call b1 ((((Gt.out).set 6 (.int .i64 x.ty.kind)).set 7 (.int .i64 x.ty.len)).set 8 (.string x.ty.name)))
  have S0 := Lib.hid (S0.out.kept (Kept.call b1 (by (refine Kept.set ?_ (by first | omega | (simp; done) | (simp; omega)) _; refine Kept.set ?_ (by first | omega | (simp; done) | (simp; omega)) _; refine Kept.set ?_ (by first | omega | (simp; done) | (simp; omega)) _; exact Kept.refl _ _))))
  have S1 := Lib.hid (s1.lower goodCo (show w.heap.size + 3 ≤ _ by (have h3 := Gt.out.1; first | omega | (simp; done) | (simp; omega) | (simp [World.setCell]; done) | (simp [World.setCell]; omega))))
  clear s1 b1
  clear gt_9 ht_6 zt_6 ht_7 zt_7 ht_8 zt_8
  have g1_10 : w1.cell? ⟨w.heap.size, 10, none⟩ = some (.slice a2 x.rules.length c2) := (A1.out.2 10 (by simp)).1
  have h1_9 : w1.cell? ⟨w.heap.size + 1 + 1, 9, none⟩ = some (.slice none 0 0) := (G1.out.2 9 (by simp)).1
  have z1_9 : w1.frozen? ⟨w.heap.size + 1 + 1, 9, none⟩ = false := (G1.out.2 9 (by simp)).2
  go_wp2_with fail
  refine (toRuS a2 c2 x.rules _ (K2.out _ ?_) (by omega)).mono ?_
  · (refine Below.setCell ?_ (by first | omega | (simp; done) | (simp; omega)) _; exact B1.out)
  rintro e w2 ⟨p2, q2, rfl, s2, b2⟩
  have B2 := Lib.hid (show Below w.heap.size w w2 from Below.call b2 (by (refine Below.setCell ?_ (by first | omega | (simp; done) | (simp; omega)) _; exact B1.out)))
  have A2 := Lib.hid (show Blk w2 w.heap.size [.int .i64 x.kind, .string x.name, .string x.on, .slice a0 x.list.length c0, .int .i64 x.num, .bool x.flag, .int .i64 x.ty.kind, .int .i64 x.ty.len, .string x.ty.name, .slice a1 x.cols.length c1, .slice a2 x.rules.length c2, .slice a3 x.exprs.length c3] from Blk.call b2 ((A1.out).other (b' := w.heap.size + 1 + 1) (by omega) 9 (.slice p1 x.cols.length q1)))
  have Y2 := Lib.hid (show Blk w2 (w.heap.size + 1) [.int .i64 0, .string ByteArray.empty, .string ByteArray.empty, .slice none 0 0, .int .i64 0, .bool false, .int .i64 0, .int .i64 0, .string ByteArray.empty, .slice none 0 0, .slice none 0 0, .slice none 0 0] from Blk.call b2 ((Y1.out).other (b' := w.heap.size + 1 + 1) (by omega) 9 (.slice p1 x.cols.length q1)))
  have G2 := Lib.hid (show Blk w2 (w.heap.size + 1 + 1) [.int .i64 x.kind, .string x.name, .string x.on, .slice p0 x.list.length q0, .int .i64 x.num, .bool x.flag, .int .i64 x.ty.kind, .int .i64 x.ty.len, .string x.ty.name, .slice p1 x.cols.length q1, .slice none 0 0, .slice none 0 0] from Blk.call b2 ((G1.out).set 9 (.slice p1 x.cols.length q1)))
  have S0 := Lib.hid (S0.out.kept (Kept.call b2 (by (refine Kept.set ?_ (by first | omega | (simp; done) | (simp; omega)) _; exact Kept.refl _ _))))
  have S1 := Lib.hid (S1.out.kept goodCo (Kept.call b2 (by (refine Kept.set ?_ (by first | omega | (simp; done) | (simp; omega)) _; exact Kept.refl _ _))))
  have S2 := Lib.hid (s2.lower goodRu (show w.heap.size + 3 ≤ _ by (have h3 := G1.out.1; first | omega | (simp; done) | (simp; omega) | (simp [World.setCell]; done) | (simp [World.setCell]; omega))))
  clear s2 b2
  clear g1_10 h1_9 z1_9
  have g2_11 : w2.cell? ⟨w.heap.size, 11, none⟩ = some (.slice a3 x.exprs.length c3) := (A2.out.2 11 (by simp)).1
  have h2_10 : w2.cell? ⟨w.heap.size + 1 + 1, 10, none⟩ = some (.slice none 0 0) := (G2.out.2 10 (by simp)).1
  have z2_10 : w2.frozen? ⟨w.heap.size + 1 + 1, 10, none⟩ = false := (G2.out.2 10 (by simp)).2
  go_wp2_with fail
  refine (toKs a3 c3 x.exprs _ (K3.out _ ?_) (by omega)).mono ?_
  · (refine Below.setCell ?_ (by first | omega | (simp; done) | (simp; omega)) _; exact B2.out)
  rintro e w3 ⟨p3, q3, rfl, s3, b3⟩
  have B3 := Lib.hid (show Below w.heap.size w w3 from Below.call b3 (by (refine Below.setCell ?_ (by first | omega | (simp; done) | (simp; omega)) _; exact B2.out)))
  have A3 := Lib.hid (show Blk w3 w.heap.size [.int .i64 x.kind, .string x.name, .string x.on, .slice a0 x.list.length c0, .int .i64 x.num, .bool x.flag, .int .i64 x.ty.kind, .int .i64 x.ty.len, .string x.ty.name, .slice a1 x.cols.length c1, .slice a2 x.rules.length c2, .slice a3 x.exprs.length c3] from Blk.call b3 ((A2.out).other (b' := w.heap.size + 1 + 1) (by omega) 10 (.slice p2 x.rules.length q2)))
  have Y3 := Lib.hid (show Blk w3 (w.heap.size + 1) [.int .i64 0, .string ByteArray.empty, .string ByteArray.empty, .slice none 0 0, .int .i64 0, .bool false, .int .i64 0, .int .i64 0, .string ByteArray.empty, .slice none 0 0, .slice none 0 0, .slice none 0 0] from Blk.call b3 ((Y2.out).other (b' := w.heap.size + 1 + 1) (by omega) 10 (.slice p2 x.rules.length q2)))
  have G3 := Lib.hid (show Blk w3 (w.heap.size + 1 + 1) [.int .i64 x.kind, .string x.name, .string x.on, .slice p0 x.list.length q0, .int .i64 x.num, .bool x.flag, .int .i64 x.ty.kind, .int .i64 x.ty.len, .string x.ty.name, .slice p1 x.cols.length q1, .slice p2 x.rules.length q2, .slice none 0 0] from Blk.call b3 ((G2.out).set 10 (.slice p2 x.rules.length q2)))
  have S0 := Lib.hid (S0.out.kept (Kept.call b3 (by (refine Kept.set ?_ (by first | omega | (simp; done) | (simp; omega)) _; exact Kept.refl _ _))))
  have S1 := Lib.hid (S1.out.kept goodCo (Kept.call b3 (by (refine Kept.set ?_ (by first | omega | (simp; done) | (simp; omega)) _; exact Kept.refl _ _))))
  have S2 := Lib.hid (S2.out.kept goodRu (Kept.call b3 (by (refine Kept.set ?_ (by first | omega | (simp; done) | (simp; omega)) _; exact Kept.refl _ _))))
  have S3 := Lib.hid (s3.lower (show w.heap.size + 3 ≤ _ by (have h3 := G2.out.1; first | omega | (simp; done) | (simp; omega) | (simp [World.setCell]; done) | (simp [World.setCell]; omega))))
  clear s3 b3
  clear g2_11 h2_10 z2_10
  have h3_0 : w3.cell? ⟨w.heap.size + 1 + 1, 0, none⟩ = some (.int .i64 x.kind) := (G3.out.2 0 (by simp)).1
  have y3_0 : w3.cell? ⟨w.heap.size + 1, 0, none⟩ = some (.int .i64 0) := (Y3.out.2 0 (by simp)).1
  have r3_0 : w3.frozen? ⟨w.heap.size + 1, 0, none⟩ = false := (Y3.out.2 0 (by simp)).2
  have h3_1 : w3.cell? ⟨w.heap.size + 1 + 1, 1, none⟩ = some (.string x.name) := (G3.out.2 1 (by simp)).1
  have y3_1 : w3.cell? ⟨w.heap.size + 1, 1, none⟩ = some (.string ByteArray.empty) := (Y3.out.2 1 (by simp)).1
  have r3_1 : w3.frozen? ⟨w.heap.size + 1, 1, none⟩ = false := (Y3.out.2 1 (by simp)).2
  have h3_2 : w3.cell? ⟨w.heap.size + 1 + 1, 2, none⟩ = some (.string x.on) := (G3.out.2 2 (by simp)).1
  have y3_2 : w3.cell? ⟨w.heap.size + 1, 2, none⟩ = some (.string ByteArray.empty) := (Y3.out.2 2 (by simp)).1
  have r3_2 : w3.frozen? ⟨w.heap.size + 1, 2, none⟩ = false := (Y3.out.2 2 (by simp)).2
  have h3_3 : w3.cell? ⟨w.heap.size + 1 + 1, 3, none⟩ = some (.slice p0 x.list.length q0) := (G3.out.2 3 (by simp)).1
  have y3_3 : w3.cell? ⟨w.heap.size + 1, 3, none⟩ = some (.slice none 0 0) := (Y3.out.2 3 (by simp)).1
  have r3_3 : w3.frozen? ⟨w.heap.size + 1, 3, none⟩ = false := (Y3.out.2 3 (by simp)).2
  have h3_4 : w3.cell? ⟨w.heap.size + 1 + 1, 4, none⟩ = some (.int .i64 x.num) := (G3.out.2 4 (by simp)).1
  have y3_4 : w3.cell? ⟨w.heap.size + 1, 4, none⟩ = some (.int .i64 0) := (Y3.out.2 4 (by simp)).1
  have r3_4 : w3.frozen? ⟨w.heap.size + 1, 4, none⟩ = false := (Y3.out.2 4 (by simp)).2
  have h3_5 : w3.cell? ⟨w.heap.size + 1 + 1, 5, none⟩ = some (.bool x.flag) := (G3.out.2 5 (by simp)).1
  have y3_5 : w3.cell? ⟨w.heap.size + 1, 5, none⟩ = some (.bool false) := (Y3.out.2 5 (by simp)).1
  have r3_5 : w3.frozen? ⟨w.heap.size + 1, 5, none⟩ = false := (Y3.out.2 5 (by simp)).2
  have h3_6 : w3.cell? ⟨w.heap.size + 1 + 1, 6, none⟩ = some (.int .i64 x.ty.kind) := (G3.out.2 6 (by simp)).1
  have y3_6 : w3.cell? ⟨w.heap.size + 1, 6, none⟩ = some (.int .i64 0) := (Y3.out.2 6 (by simp)).1
  have r3_6 : w3.frozen? ⟨w.heap.size + 1, 6, none⟩ = false := (Y3.out.2 6 (by simp)).2
  have h3_7 : w3.cell? ⟨w.heap.size + 1 + 1, 7, none⟩ = some (.int .i64 x.ty.len) := (G3.out.2 7 (by simp)).1
  have y3_7 : w3.cell? ⟨w.heap.size + 1, 7, none⟩ = some (.int .i64 0) := (Y3.out.2 7 (by simp)).1
  have r3_7 : w3.frozen? ⟨w.heap.size + 1, 7, none⟩ = false := (Y3.out.2 7 (by simp)).2
  have h3_8 : w3.cell? ⟨w.heap.size + 1 + 1, 8, none⟩ = some (.string x.ty.name) := (G3.out.2 8 (by simp)).1
  have y3_8 : w3.cell? ⟨w.heap.size + 1, 8, none⟩ = some (.string ByteArray.empty) := (Y3.out.2 8 (by simp)).1
  have r3_8 : w3.frozen? ⟨w.heap.size + 1, 8, none⟩ = false := (Y3.out.2 8 (by simp)).2
  have h3_9 : w3.cell? ⟨w.heap.size + 1 + 1, 9, none⟩ = some (.slice p1 x.cols.length q1) := (G3.out.2 9 (by simp)).1
  have y3_9 : w3.cell? ⟨w.heap.size + 1, 9, none⟩ = some (.slice none 0 0) := (Y3.out.2 9 (by simp)).1
  have r3_9 : w3.frozen? ⟨w.heap.size + 1, 9, none⟩ = false := (Y3.out.2 9 (by simp)).2
  have h3_10 : w3.cell? ⟨w.heap.size + 1 + 1, 10, none⟩ = some (.slice p2 x.rules.length q2) := (G3.out.2 10 (by simp)).1
  have y3_10 : w3.cell? ⟨w.heap.size + 1, 10, none⟩ = some (.slice none 0 0) := (Y3.out.2 10 (by simp)).1
  have r3_10 : w3.frozen? ⟨w.heap.size + 1, 10, none⟩ = false := (Y3.out.2 10 (by simp)).2
  have h3_11 : w3.cell? ⟨w.heap.size + 1 + 1, 11, none⟩ = some (.slice none 0 0) := (G3.out.2 11 (by simp)).1
  have z3_11 : w3.frozen? ⟨w.heap.size + 1 + 1, 11, none⟩ = false := (G3.out.2 11 (by simp)).2
  have y3_11 : w3.cell? ⟨w.heap.size + 1, 11, none⟩ = some (.slice none 0 0) := (Y3.out.2 11 (by simp)).1
  have r3_11 : w3.frozen? ⟨w.heap.size + 1, 11, none⟩ = false := (Y3.out.2 11 (by simp)).2
  go_wp2_with fail
  refine bodyPost_ret (v := .agg #[.int .i64 x.kind, .string x.name, .string x.on, .slice p0 x.list.length q0, .int .i64 x.num, .bool x.flag, .int .i64 x.ty.kind, .int .i64 x.ty.len, .string x.ty.name, .slice p1 x.cols.length q1, .slice p2 x.rules.length q2, .slice p3 x.exprs.length q3]) (by simp [results, Tryz.results18, go_sem, *]) rfl ⟨[.int .i64 x.kind, .string x.name, .string x.on, .slice p0 x.list.length q0, .int .i64 x.num, .bool x.flag, .int .i64 x.ty.kind, .int .i64 x.ty.len, .string x.ty.name, .slice p1 x.cols.length q1, .slice p2 x.rules.length q2, .slice p3 x.exprs.length q3], rfl, rfl, ⟨p0, q0, p1, q1, p2, q2, p3, q3, rfl, hfit, ?_, ?_, ?_, ?_⟩, ?_⟩
  · exact (S0.out.kept (by (refine Kept.set ?_ (by first | omega | (simp; done) | (simp; omega)) _; refine Kept.set ?_ (by first | omega | (simp; done) | (simp; omega)) _; refine Kept.set ?_ (by first | omega | (simp; done) | (simp; omega)) _; refine Kept.set ?_ (by first | omega | (simp; done) | (simp; omega)) _; refine Kept.set ?_ (by first | omega | (simp; done) | (simp; omega)) _; refine Kept.set ?_ (by first | omega | (simp; done) | (simp; omega)) _; refine Kept.set ?_ (by first | omega | (simp; done) | (simp; omega)) _; refine Kept.set ?_ (by first | omega | (simp; done) | (simp; omega)) _; refine Kept.set ?_ (by first | omega | (simp; done) | (simp; omega)) _; refine Kept.set ?_ (by first | omega | (simp; done) | (simp; omega)) _; refine Kept.set ?_ (by first | omega | (simp; done) | (simp; omega)) _; refine Kept.set ?_ (by first | omega | (simp; done) | (simp; omega)) _; refine Kept.set ?_ (by first | omega | (simp; done) | (simp; omega)) _; exact Kept.refl _ _))).lower (by omega)
  · exact (S1.out.kept goodCo (by (refine Kept.set ?_ (by first | omega | (simp; done) | (simp; omega)) _; refine Kept.set ?_ (by first | omega | (simp; done) | (simp; omega)) _; refine Kept.set ?_ (by first | omega | (simp; done) | (simp; omega)) _; refine Kept.set ?_ (by first | omega | (simp; done) | (simp; omega)) _; refine Kept.set ?_ (by first | omega | (simp; done) | (simp; omega)) _; refine Kept.set ?_ (by first | omega | (simp; done) | (simp; omega)) _; refine Kept.set ?_ (by first | omega | (simp; done) | (simp; omega)) _; refine Kept.set ?_ (by first | omega | (simp; done) | (simp; omega)) _; refine Kept.set ?_ (by first | omega | (simp; done) | (simp; omega)) _; refine Kept.set ?_ (by first | omega | (simp; done) | (simp; omega)) _; refine Kept.set ?_ (by first | omega | (simp; done) | (simp; omega)) _; refine Kept.set ?_ (by first | omega | (simp; done) | (simp; omega)) _; refine Kept.set ?_ (by first | omega | (simp; done) | (simp; omega)) _; exact Kept.refl _ _))).lower goodCo (by omega)
  · exact (S2.out.kept goodRu (by (refine Kept.set ?_ (by first | omega | (simp; done) | (simp; omega)) _; refine Kept.set ?_ (by first | omega | (simp; done) | (simp; omega)) _; refine Kept.set ?_ (by first | omega | (simp; done) | (simp; omega)) _; refine Kept.set ?_ (by first | omega | (simp; done) | (simp; omega)) _; refine Kept.set ?_ (by first | omega | (simp; done) | (simp; omega)) _; refine Kept.set ?_ (by first | omega | (simp; done) | (simp; omega)) _; refine Kept.set ?_ (by first | omega | (simp; done) | (simp; omega)) _; refine Kept.set ?_ (by first | omega | (simp; done) | (simp; omega)) _; refine Kept.set ?_ (by first | omega | (simp; done) | (simp; omega)) _; refine Kept.set ?_ (by first | omega | (simp; done) | (simp; omega)) _; refine Kept.set ?_ (by first | omega | (simp; done) | (simp; omega)) _; refine Kept.set ?_ (by first | omega | (simp; done) | (simp; omega)) _; refine Kept.set ?_ (by first | omega | (simp; done) | (simp; omega)) _; exact Kept.refl _ _))).lower goodRu (by omega)
  · exact (S3.out.kept (by (refine Kept.set ?_ (by first | omega | (simp; done) | (simp; omega)) _; refine Kept.set ?_ (by first | omega | (simp; done) | (simp; omega)) _; refine Kept.set ?_ (by first | omega | (simp; done) | (simp; omega)) _; refine Kept.set ?_ (by first | omega | (simp; done) | (simp; omega)) _; refine Kept.set ?_ (by first | omega | (simp; done) | (simp; omega)) _; refine Kept.set ?_ (by first | omega | (simp; done) | (simp; omega)) _; refine Kept.set ?_ (by first | omega | (simp; done) | (simp; omega)) _; refine Kept.set ?_ (by first | omega | (simp; done) | (simp; omega)) _; refine Kept.set ?_ (by first | omega | (simp; done) | (simp; omega)) _; refine Kept.set ?_ (by first | omega | (simp; done) | (simp; omega)) _; refine Kept.set ?_ (by first | omega | (simp; done) | (simp; omega)) _; refine Kept.set ?_ (by first | omega | (simp; done) | (simp; omega)) _; refine Kept.set ?_ (by first | omega | (simp; done) | (simp; omega)) _; exact Kept.refl _ _))).lower (by omega)
  · (refine Below.setCell ?_ (by first | omega | (simp; done) | (simp; omega)) _; refine Below.setCell ?_ (by first | omega | (simp; done) | (simp; omega)) _; refine Below.setCell ?_ (by first | omega | (simp; done) | (simp; omega)) _; refine Below.setCell ?_ (by first | omega | (simp; done) | (simp; omega)) _; refine Below.setCell ?_ (by first | omega | (simp; done) | (simp; omega)) _; refine Below.setCell ?_ (by first | omega | (simp; done) | (simp; omega)) _; refine Below.setCell ?_ (by first | omega | (simp; done) | (simp; omega)) _; refine Below.setCell ?_ (by first | omega | (simp; done) | (simp; omega)) _; refine Below.setCell ?_ (by first | omega | (simp; done) | (simp; omega)) _; refine Below.setCell ?_ (by first | omega | (simp; done) | (simp; omega)) _; refine Below.setCell ?_ (by first | omega | (simp; done) | (simp; omega)) _; refine Below.setCell ?_ (by first | omega | (simp; done) | (simp; omega)) _; refine Below.setCell ?_ (by first | omega | (simp; done) | (simp; omega)) _; exact B3.out)

theorem Tryz.infoStmt : (Tryz.prog.info? 55).map (fun i => (i.zero, i.size, i.bytes)) = some (some (.agg #[.int .i64 0, .string ByteArray.empty, .string ByteArray.empty, .slice none 0 0, .int .i64 0, .bool false, .int .i64 0, .int .i64 0, .string ByteArray.empty, .slice none 0 0, .slice none 0 0, .slice none 0 0]), 12, 184) := by kernel_rfl

end Go.Proofs.YtpdcmmhhgnackaaGreatDoor

namespace Go.Proofs.YtpdcmmhhgnackaaGreatDoor
open Go.RowKit

set_option maxHeartbeats 2000000 in
theorem eqCo (vs us : List Value) (x : Co) (w : World) (hR : RCo 0 w vs x) (hU : RCo 0 w us x) :
    Calls Tryz.prog 10 #[.agg vs.toArray, .agg us.toArray] w fun e w' => e = .returned (.bool true) ∧ Below w.heap.size w w' := by
  obtain ⟨a0, c0, rfl, hfit, k0⟩ := hR
  obtain ⟨p0, q0, rfl, _, m0⟩ := hU
  have N0 := k0.len
  have K0 := Lib.hid (fun w' (hb : Below w.heap.size w w') => k0.kept (Kept.below hb))
  have M0 := Lib.hid (fun w' (hb : Below w.heap.size w w') => m0.kept (Kept.below hb))
  clear k0 m0
  have e_name : (!(x.name.toList == x.name.toList)) = false := by simp
  have e_notNull : (x.notNull != x.notNull) = false := by simp
  go_enter Tryz.func10, Tryz.ntmps10
  go_wp2_with fail
  refine (eqTy0 x.ty.kind x.ty.len x.ty.name _).mono ?_
  rintro e wt ⟨rfl, bt⟩
  have Bt := Lib.hid (show Below w.heap.size w wt from Below.call bt (by ((repeat (first | refine Below.alloc ?_ (by first | omega | (simp; done) | (simp; omega)) _ | refine Below.setCell ?_ (by first | omega | (simp; done) | (simp; omega)) _)); first | exact Below.refl _ _ | exact Below.refl _ _)))
  have At := Lib.hid (show Blk wt w.heap.size [.string x.name, .int .i64 x.ty.kind, .int .i64 x.ty.len, .string x.ty.name, .bool x.notNull, .slice a0 x.dflt.length c0] from Blk.call bt ((blk_new w _ [.string x.name, .int .i64 x.ty.kind, .int .i64 x.ty.len, .string x.ty.name, .bool x.notNull, .slice a0 x.dflt.length c0]).alloc _))
  have Yt := Lib.hid (show Blk wt (w.heap.size + 1) [.string x.name, .int .i64 x.ty.kind, .int .i64 x.ty.len, .string x.ty.name, .bool x.notNull, .slice p0 x.dflt.length q0] from Blk.call bt (blk_new' (w := w.alloc _) (b := w.heap.size + 1) (by simp) _ [.string x.name, .int .i64 x.ty.kind, .int .i64 x.ty.len, .string x.ty.name, .bool x.notNull, .slice p0 x.dflt.length q0]))
  clear bt
  have gt_0 : wt.cell? ⟨w.heap.size, 0, none⟩ = some (.string x.name) := (At.out.2 0 (by simp)).1
  have yt_0 : wt.cell? ⟨w.heap.size + 1, 0, none⟩ = some (.string x.name) := (Yt.out.2 0 (by simp)).1
  have gt_1 : wt.cell? ⟨w.heap.size, 1, none⟩ = some (.int .i64 x.ty.kind) := (At.out.2 1 (by simp)).1
  have yt_1 : wt.cell? ⟨w.heap.size + 1, 1, none⟩ = some (.int .i64 x.ty.kind) := (Yt.out.2 1 (by simp)).1
  have gt_2 : wt.cell? ⟨w.heap.size, 2, none⟩ = some (.int .i64 x.ty.len) := (At.out.2 2 (by simp)).1
  have yt_2 : wt.cell? ⟨w.heap.size + 1, 2, none⟩ = some (.int .i64 x.ty.len) := (Yt.out.2 2 (by simp)).1
  have gt_3 : wt.cell? ⟨w.heap.size, 3, none⟩ = some (.string x.ty.name) := (At.out.2 3 (by simp)).1
  have yt_3 : wt.cell? ⟨w.heap.size + 1, 3, none⟩ = some (.string x.ty.name) := (Yt.out.2 3 (by simp)).1
  have gt_4 : wt.cell? ⟨w.heap.size, 4, none⟩ = some (.bool x.notNull) := (At.out.2 4 (by simp)).1
  have yt_4 : wt.cell? ⟨w.heap.size + 1, 4, none⟩ = some (.bool x.notNull) := (Yt.out.2 4 (by simp)).1
  have gt_5 : wt.cell? ⟨w.heap.size, 5, none⟩ = some (.slice a0 x.dflt.length c0) := (At.out.2 5 (by simp)).1
  have yt_5 : wt.cell? ⟨w.heap.size + 1, 5, none⟩ = some (.slice p0 x.dflt.length q0) := (Yt.out.2 5 (by simp)).1
  go_wp2_with fail
  refine (eqKs a0 p0 c0 q0 x.dflt _ (K0.out _ Bt.out) (M0.out _ Bt.out)).mono ?_
  rintro e w0 ⟨rfl, b0⟩
  have B0 := Lib.hid (Below.call b0 Bt.out)
  have A0 := Lib.hid (show Blk w0 w.heap.size [.string x.name, .int .i64 x.ty.kind, .int .i64 x.ty.len, .string x.ty.name, .bool x.notNull, .slice a0 x.dflt.length c0] from Blk.call b0 (At.out))
  have Y0 := Lib.hid (show Blk w0 (w.heap.size + 1) [.string x.name, .int .i64 x.ty.kind, .int .i64 x.ty.len, .string x.ty.name, .bool x.notNull, .slice p0 x.dflt.length q0] from Blk.call b0 (Yt.out))
  clear b0
  clear gt_0 gt_1 gt_2 gt_3 gt_4 gt_5 yt_0 yt_1 yt_2 yt_3 yt_4 yt_5
  have g0_0 : w0.cell? ⟨w.heap.size, 0, none⟩ = some (.string x.name) := (A0.out.2 0 (by simp)).1
  have y0_0 : w0.cell? ⟨w.heap.size + 1, 0, none⟩ = some (.string x.name) := (Y0.out.2 0 (by simp)).1
  have g0_1 : w0.cell? ⟨w.heap.size, 1, none⟩ = some (.int .i64 x.ty.kind) := (A0.out.2 1 (by simp)).1
  have y0_1 : w0.cell? ⟨w.heap.size + 1, 1, none⟩ = some (.int .i64 x.ty.kind) := (Y0.out.2 1 (by simp)).1
  have g0_2 : w0.cell? ⟨w.heap.size, 2, none⟩ = some (.int .i64 x.ty.len) := (A0.out.2 2 (by simp)).1
  have y0_2 : w0.cell? ⟨w.heap.size + 1, 2, none⟩ = some (.int .i64 x.ty.len) := (Y0.out.2 2 (by simp)).1
  have g0_3 : w0.cell? ⟨w.heap.size, 3, none⟩ = some (.string x.ty.name) := (A0.out.2 3 (by simp)).1
  have y0_3 : w0.cell? ⟨w.heap.size + 1, 3, none⟩ = some (.string x.ty.name) := (Y0.out.2 3 (by simp)).1
  have g0_4 : w0.cell? ⟨w.heap.size, 4, none⟩ = some (.bool x.notNull) := (A0.out.2 4 (by simp)).1
  have y0_4 : w0.cell? ⟨w.heap.size + 1, 4, none⟩ = some (.bool x.notNull) := (Y0.out.2 4 (by simp)).1
  have g0_5 : w0.cell? ⟨w.heap.size, 5, none⟩ = some (.slice a0 x.dflt.length c0) := (A0.out.2 5 (by simp)).1
  have y0_5 : w0.cell? ⟨w.heap.size + 1, 5, none⟩ = some (.slice p0 x.dflt.length q0) := (Y0.out.2 5 (by simp)).1
  go_wp2_with fail
  go_ret
  exact ⟨rfl, B0.out⟩

set_option maxHeartbeats 2000000 in
theorem eqCoS (a a' : Option Addr) (c c' : Nat) (xs : List Co) (w : World) (hx : Sl 6 RCo 0 w a c xs) (hy : Sl 6 RCo 0 w a' c' xs) :
    Calls Tryz.prog 56 #[.slice a xs.length c, .slice a' xs.length c'] w fun e w' => e = .returned (.bool true) ∧ Below w.heap.size w w' := by
  have hl := hx.len
  have hne : (((xs.length : Int)) != (xs.length : Int)) = false := by simp
  have HX := Lib.hid (fun w' (hb : Below w.heap.size w w') => hx.kept goodCo (Kept.below hb))
  have HY := Lib.hid (fun w' (hb : Below w.heap.size w w') => hy.kept goodCo (Kept.below hb))
  clear hx hy
  go_enter Tryz.func56, Tryz.ntmps56
  go_wp2
  go_loopw [5] (fun i wr => ∃ k : Nat, k ≤ xs.length ∧ i = .int .i64 k ∧ Below w.heap.size w wr) (fun i _ => xs.length - (intOf i).toNat)
  case atStart => exact ⟨0, Nat.zero_le _, rfl, Below.refl _ _⟩
  case round =>
    obtain ⟨k, hk, rfl, hbw⟩ := hrel
    by_cases hlt : k < xs.length
    · obtain ⟨b, off, vs, rfl, hbl, hcs, hR⟩ := (HX.out _ hbw).spot hlt
      obtain ⟨b', off', us, rfl, hbl', hds, hU⟩ := (HY.out _ hbw).spot hlt
      have HR := hR
      have HU := hU
      obtain ⟨a0, c0, rfl, _⟩ := hR
      obtain ⟨p0, q0, rfl, _⟩ := hU
      have hc0 : wr.cell? ⟨b, off + k * 6, none⟩ = some (.string xs[k].name) := hcs 0 (by simp)
      have hc1 : wr.cell? ⟨b, off + k * 6 + 1, none⟩ = some (.int .i64 xs[k].ty.kind) := hcs 1 (by simp)
      have hc2 : wr.cell? ⟨b, off + k * 6 + 2, none⟩ = some (.int .i64 xs[k].ty.len) := hcs 2 (by simp)
      have hc3 : wr.cell? ⟨b, off + k * 6 + 3, none⟩ = some (.string xs[k].ty.name) := hcs 3 (by simp)
      have hc4 : wr.cell? ⟨b, off + k * 6 + 4, none⟩ = some (.bool xs[k].notNull) := hcs 4 (by simp)
      have hc5 : wr.cell? ⟨b, off + k * 6 + 5, none⟩ = some (.slice a0 xs[k].dflt.length c0) := hcs 5 (by simp)
      have hd0 : wr.cell? ⟨b', off' + k * 6, none⟩ = some (.string xs[k].name) := hds 0 (by simp)
      have hd1 : wr.cell? ⟨b', off' + k * 6 + 1, none⟩ = some (.int .i64 xs[k].ty.kind) := hds 1 (by simp)
      have hd2 : wr.cell? ⟨b', off' + k * 6 + 2, none⟩ = some (.int .i64 xs[k].ty.len) := hds 2 (by simp)
      have hd3 : wr.cell? ⟨b', off' + k * 6 + 3, none⟩ = some (.string xs[k].ty.name) := hds 3 (by simp)
      have hd4 : wr.cell? ⟨b', off' + k * 6 + 4, none⟩ = some (.bool xs[k].notNull) := hds 4 (by simp)
      have hd5 : wr.cell? ⟨b', off' + k * 6 + 5, none⟩ = some (.slice p0 xs[k].dflt.length q0) := hds 5 (by simp)
      have h0k : (0 : Int) ≤ (k : Int) := by omega
      have hkl : (k : Int) < (xs.length : Int) := by omega
      have HA := Lib.hid (fun w' (hb : Below wr.heap.size wr w') => goodCo.kept HR (Kept.below hb))
      have HB := Lib.hid (fun w' (hb : Below wr.heap.size wr w') => goodCo.kept HU (Kept.below hb))
      clear HR HU hcs hds
      go_wp2_with fail
      go_region_held3 (fun w' => w'.cell? ⟨b, off + k * 6, none⟩ = some (.string xs[k].name) ∧ w'.cell? ⟨b, off + k * 6 + 1, none⟩ = some (.int .i64 xs[k].ty.kind) ∧ w'.cell? ⟨b, off + k * 6 + 2, none⟩ = some (.int .i64 xs[k].ty.len) ∧ w'.cell? ⟨b, off + k * 6 + 3, none⟩ = some (.string xs[k].ty.name) ∧ w'.cell? ⟨b, off + k * 6 + 4, none⟩ = some (.bool xs[k].notNull) ∧ w'.cell? ⟨b, off + k * 6 + 5, none⟩ = some (.slice a0 xs[k].dflt.length c0) ∧ w'.cell? ⟨b', off' + k * 6, none⟩ = some (.string xs[k].name) ∧ w'.cell? ⟨b', off' + k * 6 + 1, none⟩ = some (.int .i64 xs[k].ty.kind) ∧ w'.cell? ⟨b', off' + k * 6 + 2, none⟩ = some (.int .i64 xs[k].ty.len) ∧ w'.cell? ⟨b', off' + k * 6 + 3, none⟩ = some (.string xs[k].ty.name) ∧ w'.cell? ⟨b', off' + k * 6 + 4, none⟩ = some (.bool xs[k].notNull) ∧ w'.cell? ⟨b', off' + k * 6 + 5, none⟩ = some (.slice p0 xs[k].dflt.length q0)) (first | go_keep | exact ⟨(hcw _ _ hbl).trans hc0, (hcw _ _ hbl).trans hc1, (hcw _ _ hbl).trans hc2, (hcw _ _ hbl).trans hc3, (hcw _ _ hbl).trans hc4, (hcw _ _ hbl).trans hc5, (hcw _ _ hbl').trans hd0, (hcw _ _ hbl').trans hd1, (hcw _ _ hbl').trans hd2, (hcw _ _ hbl').trans hd3, (hcw _ _ hbl').trans hd4, (hcw _ _ hbl').trans hd5⟩)
        ((go_at_call 10; refine (eqCo _ _ xs[k] _ (HA.out _ (below_drewE (Below.refl _ _))) (HB.out _ (below_drewE (Below.refl _ _)))).mono ?_; rintro e w2 ⟨rfl, hb2⟩; obtain ⟨hcw, _⟩ := bcellE hb2))
      go_wp2_with fail
      go_roundw
      case rel => exact ⟨k + 1, by omega, by go_num, (below_drewE hbw).trans (hb2.mono hbw.size)⟩
      case measure => simp [intOf]; omega
    · go_wp2
      go_ret
      exact ⟨rfl, hbw⟩

end Go.Proofs.YtpdcmmhhgnackaaGreatDoor
