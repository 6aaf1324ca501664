/- The laws' own helpers over schemas (the equality): Rule. Written by tools/gen_plan.py. -/
/- The laws' own helpers over statements (the equality). Written by tools/gen_stmt.py. -/
/- Two boxes: the argument's own, and that of its copy. Written by tools/gen_plan.py. -/
import Derived.Test.YtpdcmmhhgnackaaGreatDoorMExSz
import Derived.Test.YtpdcmmhhgnackaaGreatDoorMPl
import Derived.Test.YtpdcmmhhgnackaaGreatDoorMPlToC
namespace Go.Proofs.YtpdcmmhhgnackaaGreatDoor
open Go.RowKit

set_option maxHeartbeats 2000000 in
theorem eqRu (vs us : List Value) (x : Ru) (w : World) (hR : RRu 0 w vs x) (hU : RRu 0 w us x) :
    Calls Tryz.prog 15 #[.agg vs.toArray, .agg us.toArray] w fun e w' => e = .returned (.bool true) ∧ Below w.heap.size w w' := by
  obtain ⟨a0, c0, a1, c1, a2, c2, rfl, hfit, k0, k1, k2⟩ := hR
  obtain ⟨p0, q0, p1, q1, p2, q2, rfl, _, m0, m1, m2⟩ := hU
  have N0 := k0.1.len
  have K0 := Lib.hid (fun w' (hb : Below w.heap.size w w') => k0.kept (Kept.below hb))
  have M0 := Lib.hid (fun w' (hb : Below w.heap.size w w') => m0.kept (Kept.below hb))
  clear k0 m0
  have N1 := k1.len
  have K1 := Lib.hid (fun w' (hb : Below w.heap.size w w') => k1.kept (Kept.below hb))
  have M1 := Lib.hid (fun w' (hb : Below w.heap.size w w') => m1.kept (Kept.below hb))
  clear k1 m1
  have N2 := k2.1.len
  have K2 := Lib.hid (fun w' (hb : Below w.heap.size w w') => k2.kept (Kept.below hb))
  have M2 := Lib.hid (fun w' (hb : Below w.heap.size w w') => m2.kept (Kept.below hb))
  clear k2 m2
  have e_name : (!(x.name.toList == x.name.toList)) = false := by simp
  have e_kind : (x.kind != x.kind) = false := by simp
  have e_table : (!(x.table.toList == x.table.toList)) = false := by simp
  go_enter Tryz.func15, Tryz.ntmps15
  go_wp2_with fail
  refine (eqSs a0 p0 c0 q0 x.cols _ (K0.out _ (by ((repeat (first | refine Below.alloc ?_ (by first | omega | (simp; done) | (simp; omega)) _ | refine Below.setCell ?_ (by first | omega | (simp; done) | (simp; omega)) _)); first | exact Below.refl _ _ | exact Below.refl _ _))) (M0.out _ (by ((repeat (first | refine Below.alloc ?_ (by first | omega | (simp; done) | (simp; omega)) _ | refine Below.setCell ?_ (by first | omega | (simp; done) | (simp; omega)) _)); first | exact Below.refl _ _ | exact Below.refl _ _)))).mono ?_
  rintro e w0 ⟨rfl, b0⟩
  have B0 := Lib.hid (show Below w.heap.size w w0 from Below.call b0 (by ((repeat (first | refine Below.alloc ?_ (by first | omega | (simp; done) | (simp; omega)) _ | refine Below.setCell ?_ (by first | omega | (simp; done) | (simp; omega)) _)); first | exact Below.refl _ _ | exact Below.refl _ _)))
  have A0 := Lib.hid (show Blk w0 w.heap.size [.string x.name, .int .i64 x.kind, .slice a0 x.cols.length c0, .slice a1 x.expr.length c1, .string x.table, .slice a2 x.to.length c2] from Blk.call b0 ((blk_new w _ [.string x.name, .int .i64 x.kind, .slice a0 x.cols.length c0, .slice a1 x.expr.length c1, .string x.table, .slice a2 x.to.length c2]).alloc _))
  have Y0 := Lib.hid (show Blk w0 (w.heap.size + 1) [.string x.name, .int .i64 x.kind, .slice p0 x.cols.length q0, .slice p1 x.expr.length q1, .string x.table, .slice p2 x.to.length q2] from Blk.call b0 (blk_new' (w := w.alloc _) (b := w.heap.size + 1) (by simp) _ [.string x.name, .int .i64 x.kind, .slice p0 x.cols.length q0, .slice p1 x.expr.length q1, .string x.table, .slice p2 x.to.length q2]))
  clear b0
  have g0_0 : w0.cell? ⟨w.heap.size, 0, none⟩ = some (.string x.name) := (A0.out.2 0 (by simp)).1
  have y0_0 : w0.cell? ⟨w.heap.size + 1, 0, none⟩ = some (.string x.name) := (Y0.out.2 0 (by simp)).1
  have g0_1 : w0.cell? ⟨w.heap.size, 1, none⟩ = some (.int .i64 x.kind) := (A0.out.2 1 (by simp)).1
  have y0_1 : w0.cell? ⟨w.heap.size + 1, 1, none⟩ = some (.int .i64 x.kind) := (Y0.out.2 1 (by simp)).1
  have g0_2 : w0.cell? ⟨w.heap.size, 2, none⟩ = some (.slice a0 x.cols.length c0) := (A0.out.2 2 (by simp)).1
  have y0_2 : w0.cell? ⟨w.heap.size + 1, 2, none⟩ = some (.slice p0 x.cols.length q0) := (Y0.out.2 2 (by simp)).1
  have g0_3 : w0.cell? ⟨w.heap.size, 3, none⟩ = some (.slice a1 x.expr.length c1) := (A0.out.2 3 (by simp)).1
  have y0_3 : w0.cell? ⟨w.heap.size + 1, 3, none⟩ = some (.slice p1 x.expr.length q1) := (Y0.out.2 3 (by simp)).1
  have g0_4 : w0.cell? ⟨w.heap.size, 4, none⟩ = some (.string x.table) := (A0.out.2 4 (by simp)).1
  have y0_4 : w0.cell? ⟨w.heap.size + 1, 4, none⟩ = some (.string x.table) := (Y0.out.2 4 (by simp)).1
  have g0_5 : w0.cell? ⟨w.heap.size, 5, none⟩ = some (.slice a2 x.to.length c2) := (A0.out.2 5 (by simp)).1
  have y0_5 : w0.cell? ⟨w.heap.size + 1, 5, none⟩ = some (.slice p2 x.to.length q2) := (Y0.out.2 5 (by simp)).1
  go_wp2_with fail
  refine (eqKs a1 p1 c1 q1 x.expr _ (K1.out _ B0.out) (M1.out _ B0.out)).mono ?_
  rintro e w1 ⟨rfl, b1⟩
  have B1 := Lib.hid (Below.call b1 B0.out)
  have A1 := Lib.hid (show Blk w1 w.heap.size [.string x.name, .int .i64 x.kind, .slice a0 x.cols.length c0, .slice a1 x.expr.length c1, .string x.table, .slice a2 x.to.length c2] from Blk.call b1 (A0.out))
  have Y1 := Lib.hid (show Blk w1 (w.heap.size + 1) [.string x.name, .int .i64 x.kind, .slice p0 x.cols.length q0, .slice p1 x.expr.length q1, .string x.table, .slice p2 x.to.length q2] from Blk.call b1 (Y0.out))
  clear b1
  clear g0_0 g0_1 g0_2 g0_3 g0_4 g0_5 y0_0 y0_1 y0_2 y0_3 y0_4 y0_5
  have g1_0 : w1.cell? ⟨w.heap.size, 0, none⟩ = some (.string x.name) := (A1.out.2 0 (by simp)).1
  have y1_0 : w1.cell? ⟨w.heap.size + 1, 0, none⟩ = some (.string x.name) := (Y1.out.2 0 (by simp)).1
  have g1_1 : w1.cell? ⟨w.heap.size, 1, none⟩ = some (.int .i64 x.kind) := (A1.out.2 1 (by simp)).1
  have y1_1 : w1.cell? ⟨w.heap.size + 1, 1, none⟩ = some (.int .i64 x.kind) := (Y1.out.2 1 (by simp)).1
  have g1_2 : w1.cell? ⟨w.heap.size, 2, none⟩ = some (.slice a0 x.cols.length c0) := (A1.out.2 2 (by simp)).1
  have y1_2 : w1.cell? ⟨w.heap.size + 1, 2, none⟩ = some (.slice p0 x.cols.length q0) := (Y1.out.2 2 (by simp)).1
  have g1_3 : w1.cell? ⟨w.heap.size, 3, none⟩ = some (.slice a1 x.expr.length c1) := (A1.out.2 3 (by simp)).1
  have y1_3 : w1.cell? ⟨w.heap.size + 1, 3, none⟩ = some (.slice p1 x.expr.length q1) := (Y1.out.2 3 (by simp)).1
  have g1_4 : w1.cell? ⟨w.heap.size, 4, none⟩ = some (.string x.table) := (A1.out.2 4 (by simp)).1
  have y1_4 : w1.cell? ⟨w.heap.size + 1, 4, none⟩ = some (.string x.table) := (Y1.out.2 4 (by simp)).1
  have g1_5 : w1.cell? ⟨w.heap.size, 5, none⟩ = some (.slice a2 x.to.length c2) := (A1.out.2 5 (by simp)).1
  have y1_5 : w1.cell? ⟨w.heap.size + 1, 5, none⟩ = some (.slice p2 x.to.length q2) := (Y1.out.2 5 (by simp)).1
  go_wp2_with fail
  refine (eqSs a2 p2 c2 q2 x.to _ (K2.out _ B1.out) (M2.out _ B1.out)).mono ?_
  rintro e w2 ⟨rfl, b2⟩
  have B2 := Lib.hid (Below.call b2 B1.out)
  have A2 := Lib.hid (show Blk w2 w.heap.size [.string x.name, .int .i64 x.kind, .slice a0 x.cols.length c0, .slice a1 x.expr.length c1, .string x.table, .slice a2 x.to.length c2] from Blk.call b2 (A1.out))
  have Y2 := Lib.hid (show Blk w2 (w.heap.size + 1) [.string x.name, .int .i64 x.kind, .slice p0 x.cols.length q0, .slice p1 x.expr.length q1, .string x.table, .slice p2 x.to.length q2] from Blk.call b2 (Y1.out))
  clear b2
  clear g1_0 g1_1 g1_2 g1_3 g1_4 g1_5 y1_0 y1_1 y1_2 y1_3 y1_4 y1_5
  have g2_0 : w2.cell? ⟨w.heap.size, 0, none⟩ = some (.string x.name) := (A2.out.2 0 (by simp)).1
  have y2_0 : w2.cell? ⟨w.heap.size + 1, 0, none⟩ = some (.string x.name) := (Y2.out.2 0 (by simp)).1
  have g2_1 : w2.cell? ⟨w.heap.size, 1, none⟩ = some (.int .i64 x.kind) := (A2.out.2 1 (by simp)).1
  have y2_1 : w2.cell? ⟨w.heap.size + 1, 1, none⟩ = some (.int .i64 x.kind) := (Y2.out.2 1 (by simp)).1
  have g2_2 : w2.cell? ⟨w.heap.size, 2, none⟩ = some (.slice a0 x.cols.length c0) := (A2.out.2 2 (by simp)).1
  have y2_2 : w2.cell? ⟨w.heap.size + 1, 2, none⟩ = some (.slice p0 x.cols.length q0) := (Y2.out.2 2 (by simp)).1
  have g2_3 : w2.cell? ⟨w.heap.size, 3, none⟩ = some (.slice a1 x.expr.length c1) := (A2.out.2 3 (by simp)).1
  have y2_3 : w2.cell? ⟨w.heap.size + 1, 3, none⟩ = some (.slice p1 x.expr.length q1) := (Y2.out.2 3 (by simp)).1
  have g2_4 : w2.cell? ⟨w.heap.size, 4, none⟩ = some (.string x.table) := (A2.out.2 4 (by simp)).1
  have y2_4 : w2.cell? ⟨w.heap.size + 1, 4, none⟩ = some (.string x.table) := (Y2.out.2 4 (by simp)).1
  have g2_5 : w2.cell? ⟨w.heap.size, 5, none⟩ = some (.slice a2 x.to.length c2) := (A2.out.2 5 (by simp)).1
  have y2_5 : w2.cell? ⟨w.heap.size + 1, 5, none⟩ = some (.slice p2 x.to.length q2) := (Y2.out.2 5 (by simp)).1
  go_wp2_with fail
  go_ret
  exact ⟨rfl, B2.out⟩

set_option maxHeartbeats 2000000 in
theorem eqRuS (a a' : Option Addr) (c c' : Nat) (xs : List Ru) (w : World) (hx : Sl 6 RRu 0 w a c xs) (hy : Sl 6 RRu 0 w a' c' xs) :
    Calls Tryz.prog 57 #[.slice a xs.length c, .slice a' xs.length c'] w fun e w' => e = .returned (.bool true) ∧ Below w.heap.size w w' := by
  have hl := hx.len
  have hne : (((xs.length : Int)) != (xs.length : Int)) = false := by simp
  have HX := Lib.hid (fun w' (hb : Below w.heap.size w w') => hx.kept goodRu (Kept.below hb))
  have HY := Lib.hid (fun w' (hb : Below w.heap.size w w') => hy.kept goodRu (Kept.below hb))
  clear hx hy
  go_enter Tryz.func57, Tryz.ntmps57
  go_wp2
  go_loopw [5] (fun i wr => ∃ k : Nat, k ≤ xs.length ∧ i = .int .i64 k ∧ Below w.heap.size w wr) (fun i _ => xs.length - (intOf i).toNat)
  case atStart => exact ⟨0, Nat.zero_le _, rfl, Below.refl _ _⟩
  case round =>
    obtain ⟨k, hk, rfl, hbw⟩ := hrel
    by_cases hlt : k < xs.length
    · obtain ⟨b, off, vs, rfl, hbl, hcs, hR⟩ := (HX.out _ hbw).spot hlt
      obtain ⟨b', off', us, rfl, hbl', hds, hU⟩ := (HY.out _ hbw).spot hlt
      have HR := hR
      have HU := hU
      obtain ⟨a0, c0, a1, c1, a2, c2, rfl, _⟩ := hR
      obtain ⟨p0, q0, p1, q1, p2, q2, rfl, _⟩ := hU
      have hc0 : wr.cell? ⟨b, off + k * 6, none⟩ = some (.string xs[k].name) := hcs 0 (by simp)
      have hc1 : wr.cell? ⟨b, off + k * 6 + 1, none⟩ = some (.int .i64 xs[k].kind) := hcs 1 (by simp)
      have hc2 : wr.cell? ⟨b, off + k * 6 + 2, none⟩ = some (.slice a0 xs[k].cols.length c0) := hcs 2 (by simp)
      have hc3 : wr.cell? ⟨b, off + k * 6 + 3, none⟩ = some (.slice a1 xs[k].expr.length c1) := hcs 3 (by simp)
      have hc4 : wr.cell? ⟨b, off + k * 6 + 4, none⟩ = some (.string xs[k].table) := hcs 4 (by simp)
      have hc5 : wr.cell? ⟨b, off + k * 6 + 5, none⟩ = some (.slice a2 xs[k].to.length c2) := hcs 5 (by simp)
      have hd0 : wr.cell? ⟨b', off' + k * 6, none⟩ = some (.string xs[k].name) := hds 0 (by simp)
      have hd1 : wr.cell? ⟨b', off' + k * 6 + 1, none⟩ = some (.int .i64 xs[k].kind) := hds 1 (by simp)
      have hd2 : wr.cell? ⟨b', off' + k * 6 + 2, none⟩ = some (.slice p0 xs[k].cols.length q0) := hds 2 (by simp)
      have hd3 : wr.cell? ⟨b', off' + k * 6 + 3, none⟩ = some (.slice p1 xs[k].expr.length q1) := hds 3 (by simp)
      have hd4 : wr.cell? ⟨b', off' + k * 6 + 4, none⟩ = some (.string xs[k].table) := hds 4 (by simp)
      have hd5 : wr.cell? ⟨b', off' + k * 6 + 5, none⟩ = some (.slice p2 xs[k].to.length q2) := hds 5 (by simp)
      have h0k : (0 : Int) ≤ (k : Int) := by omega
      have hkl : (k : Int) < (xs.length : Int) := by omega
      have HA := Lib.hid (fun w' (hb : Below wr.heap.size wr w') => goodRu.kept HR (Kept.below hb))
      have HB := Lib.hid (fun w' (hb : Below wr.heap.size wr w') => goodRu.kept HU (Kept.below hb))
      clear HR HU hcs hds
      go_wp2_with fail
      go_region_held3 (fun w' => w'.cell? ⟨b, off + k * 6, none⟩ = some (.string xs[k].name) ∧ w'.cell? ⟨b, off + k * 6 + 1, none⟩ = some (.int .i64 xs[k].kind) ∧ w'.cell? ⟨b, off + k * 6 + 2, none⟩ = some (.slice a0 xs[k].cols.length c0) ∧ w'.cell? ⟨b, off + k * 6 + 3, none⟩ = some (.slice a1 xs[k].expr.length c1) ∧ w'.cell? ⟨b, off + k * 6 + 4, none⟩ = some (.string xs[k].table) ∧ w'.cell? ⟨b, off + k * 6 + 5, none⟩ = some (.slice a2 xs[k].to.length c2) ∧ w'.cell? ⟨b', off' + k * 6, none⟩ = some (.string xs[k].name) ∧ w'.cell? ⟨b', off' + k * 6 + 1, none⟩ = some (.int .i64 xs[k].kind) ∧ w'.cell? ⟨b', off' + k * 6 + 2, none⟩ = some (.slice p0 xs[k].cols.length q0) ∧ w'.cell? ⟨b', off' + k * 6 + 3, none⟩ = some (.slice p1 xs[k].expr.length q1) ∧ w'.cell? ⟨b', off' + k * 6 + 4, none⟩ = some (.string xs[k].table) ∧ w'.cell? ⟨b', off' + k * 6 + 5, none⟩ = some (.slice p2 xs[k].to.length q2)) (first | go_keep | exact ⟨(hcw _ _ hbl).trans hc0, (hcw _ _ hbl).trans hc1, (hcw _ _ hbl).trans hc2, (hcw _ _ hbl).trans hc3, (hcw _ _ hbl).trans hc4, (hcw _ _ hbl).trans hc5, (hcw _ _ hbl').trans hd0, (hcw _ _ hbl').trans hd1, (hcw _ _ hbl').trans hd2, (hcw _ _ hbl').trans hd3, (hcw _ _ hbl').trans hd4, (hcw _ _ hbl').trans hd5⟩)
        ((go_at_call 15; refine (eqRu _ _ xs[k] _ (HA.out _ (below_drewE (Below.refl _ _))) (HB.out _ (below_drewE (Below.refl _ _)))).mono ?_; rintro e w2 ⟨rfl, hb2⟩; obtain ⟨hcw, _⟩ := bcellE hb2))
      go_wp2_with fail
      go_roundw
      case rel => exact ⟨k + 1, by omega, by go_num, (below_drewE hbw).trans (hb2.mono hbw.size)⟩
      case measure => simp [intOf]; omega
    · go_wp2
      go_ret
      exact ⟨rfl, hbw⟩

end Go.Proofs.YtpdcmmhhgnackaaGreatDoor

namespace Go.Proofs.YtpdcmmhhgnackaaGreatDoor
open Go.RowKit

set_option maxHeartbeats 2000000 in
theorem eqSt (vs us : List Value) (x : St) (w : World) (hR : RSt 0 w vs x) (hU : RSt 0 w us x) :
    Calls Tryz.prog 20 #[.agg vs.toArray, .agg us.toArray] w fun e w' => e = .returned (.bool true) ∧ Below w.heap.size w w' := by
  obtain ⟨a0, c0, a1, c1, a2, c2, a3, c3, rfl, hfit, k0, k1, k2, k3⟩ := hR
  obtain ⟨p0, q0, p1, q1, p2, q2, p3, q3, rfl, _, m0, m1, m2, m3⟩ := hU
  have N0 := k0.1.len
  have K0 := Lib.hid (fun w' (hb : Below w.heap.size w w') => k0.kept (Kept.below hb))
  have M0 := Lib.hid (fun w' (hb : Below w.heap.size w w') => m0.kept (Kept.below hb))
  clear k0 m0
  have N1 := k1.len
  have K1 := Lib.hid (fun w' (hb : Below w.heap.size w w') => k1.kept goodCo (Kept.below hb))
  have M1 := Lib.hid (fun w' (hb : Below w.heap.size w w') => m1.kept goodCo (Kept.below hb))
  clear k1 m1
  have N2 := k2.len
  have K2 := Lib.hid (fun w' (hb : Below w.heap.size w w') => k2.kept goodRu (Kept.below hb))
  have M2 := Lib.hid (fun w' (hb : Below w.heap.size w w') => m2.kept goodRu (Kept.below hb))
  clear k2 m2
  have N3 := k3.len
  have K3 := Lib.hid (fun w' (hb : Below w.heap.size w w') => k3.kept (Kept.below hb))
  have M3 := Lib.hid (fun w' (hb : Below w.heap.size w w') => m3.kept (Kept.below hb))
  clear k3 m3
  have e_kind : (x.kind != x.kind) = false := by simp
  have e_name : (!(x.name.toList == x.name.toList)) = false := by simp
  have e_on : (!(x.on.toList == x.on.toList)) = false := by simp
  have e_num : (x.num != x.num) = false := by simp
  have e_flag : (x.flag != x.flag) = false := by simp
  go_enter Tryz.func20, Tryz.ntmps20
  go_wp2_with fail
  refine (eqSs a0 p0 c0 q0 x.list _ (K0.out _ (by ((repeat (first | refine Below.alloc ?_ (by first | omega | (simp; done) | (simp; omega)) _ | refine Below.setCell ?_ (by first | omega | (simp; done) | (simp; omega)) _)); first | exact Below.refl _ _ | exact Below.refl _ _))) (M0.out _ (by ((repeat (first | refine Below.alloc ?_ (by first | omega | (simp; done) | (simp; omega)) _ | refine Below.setCell ?_ (by first | omega | (simp; done) | (simp; omega)) _)); first | exact Below.refl _ _ | exact Below.refl _ _)))).mono ?_
  rintro e w0 ⟨rfl, b0⟩
  have B0 := Lib.hid (show Below w.heap.size w w0 from Below.call b0 (by ((repeat (first | refine Below.alloc ?_ (by first | omega | (simp; done) | (simp; omega)) _ | refine Below.setCell ?_ (by first | omega | (simp; done) | (simp; omega)) _)); first | exact Below.refl _ _ | exact Below.refl _ _)))
  have A0 := Lib.hid (show Blk w0 w.heap.size [.int .i64 x.kind, .string x.name, .string x.on, .slice a0 x.list.length c0, .int .i64 x.num, .bool x.flag, .int .i64 x.ty.kind, .int .i64 x.ty.len, .string x.ty.name, .slice a1 x.cols.length c1, .slice a2 x.rules.length c2, .slice a3 x.exprs.length c3] from Blk.call b0 ((blk_new w _ [.int .i64 x.kind, .string x.name, .string x.on, .slice a0 x.list.length c0, .int .i64 x.num, .bool x.flag, .int .i64 x.ty.kind, .int .i64 x.ty.len, .string x.ty.name, .slice a1 x.cols.length c1, .slice a2 x.rules.length c2, .slice a3 x.exprs.length c3]).alloc _))
  have Y0 := Lib.hid (show Blk w0 (w.heap.size + 1) [.int .i64 x.kind, .string x.name, .string x.on, .slice p0 x.list.length q0, .int .i64 x.num, .bool x.flag, .int .i64 x.ty.kind, .int .i64 x.ty.len, .string x.ty.name, .slice p1 x.cols.length q1, .slice p2 x.rules.length q2, .slice p3 x.exprs.length q3] from Blk.call b0 (blk_new' (w := w.alloc _) (b := w.heap.size + 1) (by simp) _ [.int .i64 x.kind, .string x.name, .string x.on, .slice p0 x.list.length q0, .int .i64 x.num, .bool x.flag, .int .i64 x.ty.kind, .int .i64 x.ty.len, .string x.ty.name, .slice p1 x.cols.length q1, .slice p2 x.rules.length q2, .slice p3 x.exprs.length q3]))
  clear b0
  have g0_0 : w0.cell? ⟨w.heap.size, 0, none⟩ = some (.int .i64 x.kind) := (A0.out.2 0 (by simp)).1
  have y0_0 : w0.cell? ⟨w.heap.size + 1, 0, none⟩ = some (.int .i64 x.kind) := (Y0.out.2 0 (by simp)).1
  have g0_1 : w0.cell? ⟨w.heap.size, 1, none⟩ = some (.string x.name) := (A0.out.2 1 (by simp)).1
  have y0_1 : w0.cell? ⟨w.heap.size + 1, 1, none⟩ = some (.string x.name) := (Y0.out.2 1 (by simp)).1
  have g0_2 : w0.cell? ⟨w.heap.size, 2, none⟩ = some (.string x.on) := (A0.out.2 2 (by simp)).1
  have y0_2 : w0.cell? ⟨w.heap.size + 1, 2, none⟩ = some (.string x.on) := (Y0.out.2 2 (by simp)).1
  have g0_3 : w0.cell? ⟨w.heap.size, 3, none⟩ = some (.slice a0 x.list.length c0) := (A0.out.2 3 (by simp)).1
  have y0_3 : w0.cell? ⟨w.heap.size + 1, 3, none⟩ = some (.slice p0 x.list.length q0) := (Y0.out.2 3 (by simp)).1
  have g0_4 : w0.cell? ⟨w.heap.size, 4, none⟩ = some (.int .i64 x.num) := (A0.out.2 4 (by simp)).1
  have y0_4 : w0.cell? ⟨w.heap.size + 1, 4, none⟩ = some (.int .i64 x.num) := (Y0.out.2 4 (by simp)).1
  have g0_5 : w0.cell? ⟨w.heap.size, 5, none⟩ = some (.bool x.flag) := (A0.out.2 5 (by simp)).1
  have y0_5 : w0.cell? ⟨w.heap.size + 1, 5, none⟩ = some (.bool x.flag) := (Y0.out.2 5 (by simp)).1
  have g0_6 : w0.cell? ⟨w.heap.size, 6, none⟩ = some (.int .i64 x.ty.kind) := (A0.out.2 6 (by simp)).1
  have y0_6 : w0.cell? ⟨w.heap.size + 1, 6, none⟩ = some (.int .i64 x.ty.kind) := (Y0.out.2 6 (by simp)).1
  have g0_7 : w0.cell? ⟨w.heap.size, 7, none⟩ = some (.int .i64 x.ty.len) := (A0.out.2 7 (by simp)).1
  have y0_7 : w0.cell? ⟨w.heap.size + 1, 7, none⟩ = some (.int .i64 x.ty.len) := (Y0.out.2 7 (by simp)).1
  have g0_8 : w0.cell? ⟨w.heap.size, 8, none⟩ = some (.string x.ty.name) := (A0.out.2 8 (by simp)).1
  have y0_8 : w0.cell? ⟨w.heap.size + 1, 8, none⟩ = some (.string x.ty.name) := (Y0.out.2 8 (by simp)).1
  have g0_9 : w0.cell? ⟨w.heap.size, 9, none⟩ = some (.slice a1 x.cols.length c1) := (A0.out.2 9 (by simp)).1
  have y0_9 : w0.cell? ⟨w.heap.size + 1, 9, none⟩ = some (.slice p1 x.cols.length q1) := (Y0.out.2 9 (by simp)).1
  have g0_10 : w0.cell? ⟨w.heap.size, 10, none⟩ = some (.slice a2 x.rules.length c2) := (A0.out.2 10 (by simp)).1
  have y0_10 : w0.cell? ⟨w.heap.size + 1, 10, none⟩ = some (.slice p2 x.rules.length q2) := (Y0.out.2 10 (by simp)).1
  have g0_11 : w0.cell? ⟨w.heap.size, 11, none⟩ = some (.slice a3 x.exprs.length c3) := (A0.out.2 11 (by simp)).1
  have y0_11 : w0.cell? ⟨w.heap.size + 1, 11, none⟩ = some (.slice p3 x.exprs.length q3) := (Y0.out.2 11 (by simp)).1
  go_wp2_with fail
  refine (eqTy0 x.ty.kind x.ty.len x.ty.name _).mono ?_
  rintro e wt ⟨rfl, bt⟩
  have Bt := Lib.hid (Below.call bt B0.out)
  have At := Lib.hid (show Blk wt w.heap.size [.int .i64 x.kind, .string x.name, .string x.on, .slice a0 x.list.length c0, .int .i64 x.num, .bool x.flag, .int .i64 x.ty.kind, .int .i64 x.ty.len, .string x.ty.name, .slice a1 x.cols.length c1, .slice a2 x.rules.length c2, .slice a3 x.exprs.length c3] from Blk.call bt (A0.out))
  have Yt := Lib.hid (show Blk wt (w.heap.size + 1) [.int .i64 x.kind, .string x.name, .string x.on, .slice p0 x.list.length q0, .int .i64 x.num, .bool x.flag, .int .i64 x.ty.kind, .int .i64 x.ty.len, .string x.ty.name, .slice p1 x.cols.length q1, .slice p2 x.rules.length q2, .slice p3 x.exprs.length q3] from Blk.call bt (Y0.out))
  clear bt
  clear g0_0 g0_1 g0_2 g0_3 g0_4 g0_5 g0_6 g0_7 g0_8 g0_9 g0_10 g0_11 y0_0 y0_1 y0_2 y0_3 y0_4 y0_5 y0_6 y0_7 y0_8 y0_9 y0_10 y0_11
  have gt_0 : wt.cell? ⟨w.heap.size, 0, none⟩ = some (.int .i64 x.kind) := (At.out.2 0 (by simp)).1
  have yt_0 : wt.cell? ⟨w.heap.size + 1, 0, none⟩ = some (.int .i64 x.kind) := (Yt.out.2 0 (by simp)).1
  have gt_1 : wt.cell? ⟨w.heap.size, 1, none⟩ = some (.string x.name) := (At.out.2 1 (by simp)).1
  have yt_1 : wt.cell? ⟨w.heap.size + 1, 1, none⟩ = some (.string x.name) := (Yt.out.2 1 (by simp)).1
  have gt_2 : wt.cell? ⟨w.heap.size, 2, none⟩ = some (.string x.on) := (At.out.2 2 (by simp)).1
  have yt_2 : wt.cell? ⟨w.heap.size + 1, 2, none⟩ = some (.string x.on) := (Yt.out.2 2 (by simp)).1
  have gt_3 : wt.cell? ⟨w.heap.size, 3, none⟩ = some (.slice a0 x.list.length c0) := (At.out.2 3 (by simp)).1
  have yt_3 : wt.cell? ⟨w.heap.size + 1, 3, none⟩ = some (.slice p0 x.list.length q0) := (Yt.out.2 3 (by simp)).1
  have gt_4 : wt.cell? ⟨w.heap.size, 4, none⟩ = some (.int .i64 x.num) := (At.out.2 4 (by simp)).1
  have yt_4 : wt.cell? ⟨w.heap.size + 1, 4, none⟩ = some (.int .i64 x.num) := (Yt.out.2 4 (by simp)).1
  have gt_5 : wt.cell? ⟨w.heap.size, 5, none⟩ = some (.bool x.flag) := (At.out.2 5 (by simp)).1
  have yt_5 : wt.cell? ⟨w.heap.size + 1, 5, none⟩ = some (.bool x.flag) := (Yt.out.2 5 (by simp)).1
  have gt_6 : wt.cell? ⟨w.heap.size, 6, none⟩ = some (.int .i64 x.ty.kind) := (At.out.2 6 (by simp)).1
  have yt_6 : wt.cell? ⟨w.heap.size + 1, 6, none⟩ = some (.int .i64 x.ty.kind) := (Yt.out.2 6 (by simp)).1
  have gt_7 : wt.cell? ⟨w.heap.size, 7, none⟩ = some (.int .i64 x.ty.len) := (At.out.2 7 (by simp)).1
  have yt_7 : wt.cell? ⟨w.heap.size + 1, 7, none⟩ = some (.int .i64 x.ty.len) := (Yt.out.2 7 (by simp)).1
  have gt_8 : wt.cell? ⟨w.heap.size, 8, none⟩ = some (.string x.ty.name) := (At.out.2 8 (by simp)).1
  have yt_8 : wt.cell? ⟨w.heap.size + 1, 8, none⟩ = some (.string x.ty.name) := (Yt.out.2 8 (by simp)).1
  have gt_9 : wt.cell? ⟨w.heap.size, 9, none⟩ = some (.slice a1 x.cols.length c1) := (At.out.2 9 (by simp)).1
  have yt_9 : wt.cell? ⟨w.heap.size + 1, 9, none⟩ = some (.slice p1 x.cols.length q1) := (Yt.out.2 9 (by simp)).1
  have gt_10 : wt.cell? ⟨w.heap.size, 10, none⟩ = some (.slice a2 x.rules.length c2) := (At.out.2 10 (by simp)).1
  have yt_10 : wt.cell? ⟨w.heap.size + 1, 10, none⟩ = some (.slice p2 x.rules.length q2) := (Yt.out.2 10 (by simp)).1
  have gt_11 : wt.cell? ⟨w.heap.size, 11, none⟩ = some (.slice a3 x.exprs.length c3) := (At.out.2 11 (by simp)).1
  have yt_11 : wt.cell? ⟨w.heap.size + 1, 11, none⟩ = some (.slice p3 x.exprs.length q3) := (Yt.out.2 11 (by simp)).1
  go_wp2_with fail
  refine (eqCoS a1 p1 c1 q1 x.cols _ (K1.out _ Bt.out) (M1.out _ Bt.out)).mono ?_
  rintro e w1 ⟨rfl, b1⟩
  have B1 := Lib.hid (Below.call b1 Bt.out)
  have A1 := Lib.hid (show Blk w1 w.heap.size [.int .i64 x.kind, .string x.name, .string x.on, .slice a0 x.list.length c0, .int .i64 x.num, .bool x.flag, .int .i64 x.ty.kind, .int .i64 x.ty.len, .string x.ty.name, .slice a1 x.cols.length c1, .slice a2 x.rules.length c2, .slice a3 x.exprs.length c3] from Blk.call b1 (At.out))
  have Y1 := Lib.hid (show Blk w1 (w.heap.size + 1) [.int .i64 x.kind, .string x.name, .string x.on, .slice p0 x.list.length q0, .int .i64 x.num, .bool x.flag, .int .i64 x.ty.kind, .int .i64 x.ty.len, .string x.ty.name, .slice p1 x.cols.length q1, .slice p2 x.rules.length q2, .slice p3 x.exprs.length q3] from Blk.call b1 (Yt.out))
  clear b1
  clear gt_0 gt_1 gt_2 gt_3 gt_4 gt_5 gt_6 gt_7 gt_8 gt_9 gt_10 gt_11 yt_0 yt_1 yt_2 yt_3 yt_4 yt_5 yt_6 yt_7 yt_8 yt_9 yt_10 yt_11
  have g1_0 : w1.cell? ⟨w.heap.size, 0, none⟩ = some (.int .i64 x.kind) := (A1.out.2 0 (by simp)).1
  have y1_0 : w1.cell? ⟨w.heap.size + 1, 0, none⟩ = some (.int .i64 x.kind) := (Y1.out.2 0 (by simp)).1
  have g1_1 : w1.cell? ⟨w.heap.size, 1, none⟩ = some (.string x.name) := (A1.out.2 1 (by simp)).1
  have y1_1 : w1.cell? ⟨w.heap.size + 1, 1, none⟩ = some (.string x.name) := (Y1.out.2 1 (by simp)).1
  have g1_2 : w1.cell? ⟨w.heap.size, 2, none⟩ = some (.string x.on) := (A1.out.2 2 (by simp)).1
  have y1_2 : w1.cell? ⟨w.heap.size + 1, 2, none⟩ = some (.string x.on) := (Y1.out.2 2 (by simp)).1
  have g1_3 : w1.cell? ⟨w.heap.size, 3, none⟩ = some (.slice a0 x.list.length c0) := (A1.out.2 3 (by simp)).1
  have y1_3 : w1.cell? ⟨w.heap.size + 1, 3, none⟩ = some (.slice p0 x.list.length q0) := (Y1.out.2 3 (by simp)).1
  have g1_4 : w1.cell? ⟨w.heap.size, 4, none⟩ = some (.int .i64 x.num) := (A1.out.2 4 (by simp)).1
  have y1_4 : w1.cell? ⟨w.heap.size + 1, 4, none⟩ = some (.int .i64 x.num) := (Y1.out.2 4 (by simp)).1
  have g1_5 : w1.cell? ⟨w.heap.size, 5, none⟩ = some (.bool x.flag) := (A1.out.2 5 (by simp)).1
  have y1_5 : w1.cell? ⟨w.heap.size + 1, 5, none⟩ = some (.bool x.flag) := (Y1.out.2 5 (by simp)).1
  have g1_6 : w1.cell? ⟨w.heap.size, 6, none⟩ = some (.int .i64 x.ty.kind) := (A1.out.2 6 (by simp)).1
  have y1_6 : w1.cell? ⟨w.heap.size + 1, 6, none⟩ = some (.int .i64 x.ty.kind) := (Y1.out.2 6 (by simp)).1
  have g1_7 : w1.cell? ⟨w.heap.size, 7, none⟩ = some (.int .i64 x.ty.len) := (A1.out.2 7 (by simp)).1
  have y1_7 : w1.cell? ⟨w.heap.size + 1, 7, none⟩ = some (.int .i64 x.ty.len) := (Y1.out.2 7 (by simp)).1
  have g1_8 : w1.cell? ⟨w.heap.size, 8, none⟩ = some (.string x.ty.name) := (A1.out.2 8 (by simp)).1
  have y1_8 : w1.cell? ⟨w.heap.size + 1, 8, none⟩ = some (.string x.ty.name) := (Y1.out.2 8 (by simp)).1
  have g1_9 : w1.cell? ⟨w.heap.size, 9, none⟩ = some (.slice a1 x.cols.length c1) := (A1.out.2 9 (by simp)).1
  have y1_9 : w1.cell? ⟨w.heap.size + 1, 9, none⟩ = some (.slice p1 x.cols.length q1) := (Y1.out.2 9 (by simp)).1
  have g1_10 : w1.cell? ⟨w.heap.size, 10, none⟩ = some (.slice a2 x.rules.length c2) := (A1.out.2 10 (by simp)).1
  have y1_10 : w1.cell? ⟨w.heap.size + 1, 10, none⟩ = some (.slice p2 x.rules.length q2) := (Y1.out.2 10 (by simp)).1
  have g1_11 : w1.cell? ⟨w.heap.size, 11, none⟩ = some (.slice a3 x.exprs.length c3) := (A1.out.2 11 (by simp)).1
  have y1_11 : w1.cell? ⟨w.heap.size + 1, 11, none⟩ = some (.slice p3 x.exprs.length q3) := (Y1.out.2 11 (by simp)).1
  go_wp2_with fail
  refine (eqRuS a2 p2 c2 q2 x.rules _ (K2.out _ B1.out) (M2.out _ B1.out)).mono ?_
  rintro e w2 ⟨rfl, b2⟩
  have B2 := Lib.hid (Below.call b2 B1.out)
  have A2 := Lib.hid (show Blk w2 w.heap.size [.int .i64 x.kind, .string x.name, .string x.on, .slice a0 x.list.length c0, .int .i64 x.num, .bool x.flag, .int .i64 x.ty.kind, .int .i64 x.ty.len, .string x.ty.name, .slice a1 x.cols.length c1, .slice a2 x.rules.length c2, .slice a3 x.exprs.length c3] from Blk.call b2 (A1.out))
  have Y2 := Lib.hid (show Blk w2 (w.heap.size + 1) [.int .i64 x.kind, .string x.name, .string x.on, .slice p0 x.list.length q0, .int .i64 x.num, .bool x.flag, .int .i64 x.ty.kind, .int .i64 x.ty.len, .string x.ty.name, .slice p1 x.cols.length q1, .slice p2 x.rules.length q2, .slice p3 x.exprs.length q3] from Blk.call b2 (Y1.out))
  clear b2
  clear g1_0 g1_1 g1_2 g1_3 g1_4 g1_5 g1_6 g1_7 g1_8 g1_9 g1_10 g1_11 y1_0 y1_1 y1_2 y1_3 y1_4 y1_5 y1_6 y1_7 y1_8 y1_9 y1_10 y1_11
  have g2_0 : w2.cell? ⟨w.heap.size, 0, none⟩ = some (.int .i64 x.kind) := (A2.out.2 0 (by simp)).1
  have y2_0 : w2.cell? ⟨w.heap.size + 1, 0, none⟩ = some (.int .i64 x.kind) := (Y2.out.2 0 (by simp)).1
  have g2_1 : w2.cell? ⟨w.heap.size, 1, none⟩ = some (.string x.name) := (A2.out.2 1 (by simp)).1
  have y2_1 : w2.cell? ⟨w.heap.size + 1, 1, none⟩ = some (.string x.name) := (Y2.out.2 1 (by simp)).1
  have g2_2 : w2.cell? ⟨w.heap.size, 2, none⟩ = some (.string x.on) := (A2.out.2 2 (by simp)).1
  have y2_2 : w2.cell? ⟨w.heap.size + 1, 2, none⟩ = some (.string x.on) := (Y2.out.2 2 (by simp)).1
  have g2_3 : w2.cell? ⟨w.heap.size, 3, none⟩ = some (.slice a0 x.list.length c0) := (A2.out.2 3 (by simp)).1
  have y2_3 : w2.cell? ⟨w.heap.size + 1, 3, none⟩ = some (.slice p0 x.list.length q0) := (Y2.out.2 3 (by simp)).1
  have g2_4 : w2.cell? ⟨w.heap.size, 4, none⟩ = some (.int .i64 x.num) := (A2.out.2 4 (by simp)).1
  have y2_4 : w2.cell? ⟨w.heap.size + 1, 4, none⟩ = some (.int .i64 x.num) := (Y2.out.2 4 (by simp)).1
  have g2_5 : w2.cell? ⟨w.heap.size, 5, none⟩ = some (.bool x.flag) := (A2.out.2 5 (by simp)).1
  have y2_5 : w2.cell? ⟨w.heap.size + 1, 5, none⟩ = some (.bool x.flag) := (Y2.out.2 5 (by simp)).1
  have g2_6 : w2.cell? ⟨w.heap.size, 6, none⟩ = some (.int .i64 x.ty.kind) := (A2.out.2 6 (by simp)).1
  have y2_6 : w2.cell? ⟨w.heap.size + 1, 6, none⟩ = some (.int .i64 x.ty.kind) := (Y2.out.2 6 (by simp)).1
  have g2_7 : w2.cell? ⟨w.heap.size, 7, none⟩ = some (.int .i64 x.ty.len) := (A2.out.2 7 (by simp)).1
  have y2_7 : w2.cell? ⟨w.heap.size + 1, 7, none⟩ = some (.int .i64 x.ty.len) := (Y2.out.2 7 (by simp)).1
  have g2_8 : w2.cell? ⟨w.heap.size, 8, none⟩ = some (.string x.ty.name) := (A2.out.2 8 (by simp)).1
  have y2_8 : w2.cell? ⟨w.heap.size + 1, 8, none⟩ = some (.string x.ty.name) := (Y2.out.2 8 (by simp)).1
  have g2_9 : w2.cell? ⟨w.heap.size, 9, none⟩ = some (.slice a1 x.cols.length c1) := (A2.out.2 9 (by simp)).1
  have y2_9 : w2.cell? ⟨w.heap.size + 1, 9, none⟩ = some (.slice p1 x.cols.length q1) := (Y2.out.2 9 (by simp)).1
  have g2_10 : w2.cell? ⟨w.heap.size, 10, none⟩ = some (.slice a2 x.rules.length c2) := (A2.out.2 10 (by simp)).1
  have y2_10 : w2.cell? ⟨w.heap.size + 1, 10, none⟩ = some (.slice p2 x.rules.length q2) := (Y2.out.2 10 (by simp)).1
  have g2_11 : w2.cell? ⟨w.heap.size, 11, none⟩ = some (.slice a3 x.exprs.length c3) := (A2.out.2 11 (by simp)).1
  have y2_11 : w2.cell? ⟨w.heap.size + 1, 11, none⟩ = some (.slice p3 x.exprs.length q3) := (Y2.out.2 11 (by simp)).1
  go_wp2_with fail
  refine (eqKs a3 p3 c3 q3 x.exprs _ (K3.out _ B2.out) (M3.out _ B2.out)).mono ?_
  rintro e w3 ⟨rfl, b3⟩
  have B3 := Lib.hid (Below.call b3 B2.out)
  have A3 := Lib.hid (show Blk w3 w.heap.size [.int .i64 x.kind, .string x.name, .string x.on, .slice a0 x.list.length c0, .int .i64 x.num, .bool x.flag, .int .i64 x.ty.kind, .int .i64 x.ty.len, .string x.ty.name, .slice a1 x.cols.length c1, .slice a2 x.rules.length c2, .slice a3 x.exprs.length c3] from Blk.call b3 (A2.out))
  have Y3 := Lib.hid (show Blk w3 (w.heap.size + 1) [.int .i64 x.kind, .string x.name, .string x.on, .slice p0 x.list.length q0, .int .i64 x.num, .bool x.flag, .int .i64 x.ty.kind, .int .i64 x.ty.len, .string x.ty.name, .slice p1 x.cols.length q1, .slice p2 x.rules.length q2, .slice p3 x.exprs.length q3] from Blk.call b3 (Y2.out))
  clear b3
  clear g2_0 g2_1 g2_2 g2_3 g2_4 g2_5 g2_6 g2_7 g2_8 g2_9 g2_10 g2_11 y2_0 y2_1 y2_2 y2_3 y2_4 y2_5 y2_6 y2_7 y2_8 y2_9 y2_10 y2_11
  have g3_0 : w3.cell? ⟨w.heap.size, 0, none⟩ = some (.int .i64 x.kind) := (A3.out.2 0 (by simp)).1
  have y3_0 : w3.cell? ⟨w.heap.size + 1, 0, none⟩ = some (.int .i64 x.kind) := (Y3.out.2 0 (by simp)).1
  have g3_1 : w3.cell? ⟨w.heap.size, 1, none⟩ = some (.string x.name) := (A3.out.2 1 (by simp)).1
  have y3_1 : w3.cell? ⟨w.heap.size + 1, 1, none⟩ = some (.string x.name) := (Y3.out.2 1 (by simp)).1
  have g3_2 : w3.cell? ⟨w.heap.size, 2, none⟩ = some (.string x.on) := (A3.out.2 2 (by simp)).1
  have y3_2 : w3.cell? ⟨w.heap.size + 1, 2, none⟩ = some (.string x.on) := (Y3.out.2 2 (by simp)).1
  have g3_3 : w3.cell? ⟨w.heap.size, 3, none⟩ = some (.slice a0 x.list.length c0) := (A3.out.2 3 (by simp)).1
  have y3_3 : w3.cell? ⟨w.heap.size + 1, 3, none⟩ = some (.slice p0 x.list.length q0) := (Y3.out.2 3 (by simp)).1
  have g3_4 : w3.cell? ⟨w.heap.size, 4, none⟩ = some (.int .i64 x.num) := (A3.out.2 4 (by simp)).1
  have y3_4 : w3.cell? ⟨w.heap.size + 1, 4, none⟩ = some (.int .i64 x.num) := (Y3.out.2 4 (by simp)).1
  have g3_5 : w3.cell? ⟨w.heap.size, 5, none⟩ = some (.bool x.flag) := (A3.out.2 5 (by simp)).1
  have y3_5 : w3.cell? ⟨w.heap.size + 1, 5, none⟩ = some (.bool x.flag) := (Y3.out.2 5 (by simp)).1
  have g3_6 : w3.cell? ⟨w.heap.size, 6, none⟩ = some (.int .i64 x.ty.kind) := (A3.out.2 6 (by simp)).1
  have y3_6 : w3.cell? ⟨w.heap.size + 1, 6, none⟩ = some (.int .i64 x.ty.kind) := (Y3.out.2 6 (by simp)).1
  have g3_7 : w3.cell? ⟨w.heap.size, 7, none⟩ = some (.int .i64 x.ty.len) := (A3.out.2 7 (by simp)).1
  have y3_7 : w3.cell? ⟨w.heap.size + 1, 7, none⟩ = some (.int .i64 x.ty.len) := (Y3.out.2 7 (by simp)).1
  have g3_8 : w3.cell? ⟨w.heap.size, 8, none⟩ = some (.string x.ty.name) := (A3.out.2 8 (by simp)).1
  have y3_8 : w3.cell? ⟨w.heap.size + 1, 8, none⟩ = some (.string x.ty.name) := (Y3.out.2 8 (by simp)).1
  have g3_9 : w3.cell? ⟨w.heap.size, 9, none⟩ = some (.slice a1 x.cols.length c1) := (A3.out.2 9 (by simp)).1
  have y3_9 : w3.cell? ⟨w.heap.size + 1, 9, none⟩ = some (.slice p1 x.cols.length q1) := (Y3.out.2 9 (by simp)).1
  have g3_10 : w3.cell? ⟨w.heap.size, 10, none⟩ = some (.slice a2 x.rules.length c2) := (A3.out.2 10 (by simp)).1
  have y3_10 : w3.cell? ⟨w.heap.size + 1, 10, none⟩ = some (.slice p2 x.rules.length q2) := (Y3.out.2 10 (by simp)).1
  have g3_11 : w3.cell? ⟨w.heap.size, 11, none⟩ = some (.slice a3 x.exprs.length c3) := (A3.out.2 11 (by simp)).1
  have y3_11 : w3.cell? ⟨w.heap.size + 1, 11, none⟩ = some (.slice p3 x.exprs.length q3) := (Y3.out.2 11 (by simp)).1
  go_wp2_with fail
  go_ret
  exact ⟨rfl, B3.out⟩

end Go.Proofs.YtpdcmmhhgnackaaGreatDoor

namespace Go.Proofs.YtpdcmmhhgnackaaGreatDoor
open Go.RowKit

def Two2 {X : Type} (R : Rd X) (w : World) (b : Nat) (vs vs4 : List Value) (x : X) (w' : World) : Prop :=
  Blk w' w.heap.size vs ∧ Blk w' b vs4 ∧ R 0 w' vs4 x ∧ Below w.heap.size w w'

theorem Two2.below {X : Type} {R : Rd X} (G : Good R) {w wa wb : World} {b : Nat} {vs vs4 : List Value} {x : X} (h : Two2 R w b vs vs4 x wa) (hb : Below wa.heap.size wa wb) : Two2 R w b vs vs4 x wb :=
  ⟨h.1.below hb, h.2.1.below hb, G.kept h.2.2.1 (Kept.below hb), Below.call hb h.2.2.2⟩

theorem Two2.drew {X : Type} {R : Rd X} (G : Good R) {w wa : World} {b : Nat} {vs vs4 : List Value} {x : X} (h : Two2 R w b vs vs4 x wa) : Two2 R w b vs vs4 x wa.drew := h.below G (below_drewE (Below.refl _ _))

theorem Two2.new {X : Type} {R : Rd X} (G : Good R) {w w4 : World} {vs vs4 : List Value} {x : X} (hX : Blk w4 w.heap.size vs) (hK : R 0 w4 vs4 x) (hB : Below w.heap.size w w4) (T : TypeId) :
    Two2 R w w4.heap.size vs vs4 x (w4.alloc (.cells vs4.toArray T)) :=
  ⟨hX.alloc _, blk_new w4 T vs4, G.kept hK (Kept.below ((Below.refl _ _).alloc (Nat.le_refl _) _)), Below.call ((Below.refl _ _).alloc (Nat.le_refl _) _) hB⟩

end Go.Proofs.YtpdcmmhhgnackaaGreatDoor
