/- The laws' own helpers over schemas (the equality): Rule. Written by tools/gen_plan.py. -/
import Derived.Test.YtefjjcoaeanagaaDat2
import Derived.Test.YtefjjcoaeanagaaPl
namespace Go.Proofs.Ytefjjcoaeanagaa
open Go.RowKit

set_option maxHeartbeats 2000000 in
theorem eqRu (vs us : List Value) (x : Ru) (w : World) (hR : RRu 0 w vs x) (hU : RRu 0 w us x) :
    Calls Try.prog 98 #[.agg vs.toArray, .agg us.toArray] w fun e w' => e = .returned (.bool true) ∧ Below w.heap.size w w' := by
  obtain ⟨a0, c0, a1, c1, a2, c2, rfl, hfit, k0, k1, k2⟩ := hR
  obtain ⟨p0, q0, p1, q1, p2, q2, rfl, _, m0, m1, m2⟩ := hU
  have N0 := k0.1.len
  have K0 := Lib.hid (fun w' (hb : Below w.heap.size w w') => k0.kept (Kept.below hb))
  have M0 := Lib.hid (fun w' (hb : Below w.heap.size w w') => m0.kept (Kept.below hb))
  clear k0 m0
  have N1 := k1.len
  have K1 := Lib.hid (fun w' (hb : Below w.heap.size w w') => k1.kept (Kept.below hb))
  have M1 := Lib.hid (fun w' (hb : Below w.heap.size w w') => m1.kept (Kept.below hb))
  clear k1 m1
  have N2 := k2.1.len
  have K2 := Lib.hid (fun w' (hb : Below w.heap.size w w') => k2.kept (Kept.below hb))
  have M2 := Lib.hid (fun w' (hb : Below w.heap.size w w') => m2.kept (Kept.below hb))
  clear k2 m2
  have e_name : (!(x.name.toList == x.name.toList)) = false := by simp
  have e_kind : (x.kind != x.kind) = false := by simp
  have e_table : (!(x.table.toList == x.table.toList)) = false := by simp
  go_enter Try.func98, Try.ntmps98
  go_wp2_with fail
  refine (eqSs a0 p0 c0 q0 x.cols _ (K0.out _ (by (repeat (first | exact Below.refl _ _ | exact Below.refl _ _ | refine Below.alloc ?_ (by first | omega | (simp; done) | (simp; omega)) _ | refine Below.setCell ?_ (by first | omega | (simp; done) | (simp; omega)) _)))) (M0.out _ (by (repeat (first | exact Below.refl _ _ | exact Below.refl _ _ | refine Below.alloc ?_ (by first | omega | (simp; done) | (simp; omega)) _ | refine Below.setCell ?_ (by first | omega | (simp; done) | (simp; omega)) _))))).mono ?_
  rintro e w0 ⟨rfl, b0⟩
  have B0 := Lib.hid (show Below w.heap.size w w0 from Below.call b0 (by (repeat (first | exact Below.refl _ _ | exact Below.refl _ _ | refine Below.alloc ?_ (by first | omega | (simp; done) | (simp; omega)) _ | refine Below.setCell ?_ (by first | omega | (simp; done) | (simp; omega)) _))))
  have A0 := Lib.hid (show Blk w0 w.heap.size [.string x.name, .int .i64 x.kind, .slice a0 x.cols.length c0, .slice a1 x.expr.length c1, .string x.table, .slice a2 x.to.length c2] from Blk.call b0 ((blk_new w _ [.string x.name, .int .i64 x.kind, .slice a0 x.cols.length c0, .slice a1 x.expr.length c1, .string x.table, .slice a2 x.to.length c2]).alloc _))
  have Y0 := Lib.hid (show Blk w0 (w.heap.size + 1) [.string x.name, .int .i64 x.kind, .slice p0 x.cols.length q0, .slice p1 x.expr.length q1, .string x.table, .slice p2 x.to.length q2] from Blk.call b0 (blk_new' (w := w.alloc _) (b := w.heap.size + 1) (by simp) _ [.string x.name, .int .i64 x.kind, .slice p0 x.cols.length q0, .slice p1 x.expr.length q1, .string x.table, .slice p2 x.to.length q2]))
  clear b0
  have g0_0 : w0.cell? ⟨w.heap.size, 0, none⟩ = some (.string x.name) := (A0.out.2 0 (by simp)).1
  have y0_0 : w0.cell? ⟨w.heap.size + 1, 0, none⟩ = some (.string x.name) := (Y0.out.2 0 (by simp)).1
  have g0_1 : w0.cell? ⟨w.heap.size, 1, none⟩ = some (.int .i64 x.kind) := (A0.out.2 1 (by simp)).1
  have y0_1 : w0.cell? ⟨w.heap.size + 1, 1, none⟩ = some (.int .i64 x.kind) := (Y0.out.2 1 (by simp)).1
  have g0_2 : w0.cell? ⟨w.heap.size, 2, none⟩ = some (.slice a0 x.cols.length c0) := (A0.out.2 2 (by simp)).1
  have y0_2 : w0.cell? ⟨w.heap.size + 1, 2, none⟩ = some (.slice p0 x.cols.length q0) := (Y0.out.2 2 (by simp)).1
  have g0_3 : w0.cell? ⟨w.heap.size, 3, none⟩ = some (.slice a1 x.expr.length c1) := (A0.out.2 3 (by simp)).1
  have y0_3 : w0.cell? ⟨w.heap.size + 1, 3, none⟩ = some (.slice p1 x.expr.length q1) := (Y0.out.2 3 (by simp)).1
  have g0_4 : w0.cell? ⟨w.heap.size, 4, none⟩ = some (.string x.table) := (A0.out.2 4 (by simp)).1
  have y0_4 : w0.cell? ⟨w.heap.size + 1, 4, none⟩ = some (.string x.table) := (Y0.out.2 4 (by simp)).1
  have g0_5 : w0.cell? ⟨w.heap.size, 5, none⟩ = some (.slice a2 x.to.length c2) := (A0.out.2 5 (by simp)).1
  have y0_5 : w0.cell? ⟨w.heap.size + 1, 5, none⟩ = some (.slice p2 x.to.length q2) := (Y0.out.2 5 (by simp)).1
  go_wp2_with fail
  refine (eqKs a1 p1 c1 q1 x.expr _ (K1.out _ B0.out) (M1.out _ B0.out)).mono ?_
  rintro e w1 ⟨rfl, b1⟩
  have B1 := Lib.hid (Below.call b1 B0.out)
  have A1 := Lib.hid (show Blk w1 w.heap.size [.string x.name, .int .i64 x.kind, .slice a0 x.cols.length c0, .slice a1 x.expr.length c1, .string x.table, .slice a2 x.to.length c2] from Blk.call b1 (A0.out))
  have Y1 := Lib.hid (show Blk w1 (w.heap.size + 1) [.string x.name, .int .i64 x.kind, .slice p0 x.cols.length q0, .slice p1 x.expr.length q1, .string x.table, .slice p2 x.to.length q2] from Blk.call b1 (Y0.out))
  clear b1
  clear g0_0 g0_1 g0_2 g0_3 g0_4 g0_5 y0_0 y0_1 y0_2 y0_3 y0_4 y0_5
  have g1_0 : w1.cell? ⟨w.heap.size, 0, none⟩ = some (.string x.name) := (A1.out.2 0 (by simp)).1
  have y1_0 : w1.cell? ⟨w.heap.size + 1, 0, none⟩ = some (.string x.name) := (Y1.out.2 0 (by simp)).1
  have g1_1 : w1.cell? ⟨w.heap.size, 1, none⟩ = some (.int .i64 x.kind) := (A1.out.2 1 (by simp)).1
  have y1_1 : w1.cell? ⟨w.heap.size + 1, 1, none⟩ = some (.int .i64 x.kind) := (Y1.out.2 1 (by simp)).1
  have g1_2 : w1.cell? ⟨w.heap.size, 2, none⟩ = some (.slice a0 x.cols.length c0) := (A1.out.2 2 (by simp)).1
  have y1_2 : w1.cell? ⟨w.heap.size + 1, 2, none⟩ = some (.slice p0 x.cols.length q0) := (Y1.out.2 2 (by simp)).1
  have g1_3 : w1.cell? ⟨w.heap.size, 3, none⟩ = some (.slice a1 x.expr.length c1) := (A1.out.2 3 (by simp)).1
  have y1_3 : w1.cell? ⟨w.heap.size + 1, 3, none⟩ = some (.slice p1 x.expr.length q1) := (Y1.out.2 3 (by simp)).1
  have g1_4 : w1.cell? ⟨w.heap.size, 4, none⟩ = some (.string x.table) := (A1.out.2 4 (by simp)).1
  have y1_4 : w1.cell? ⟨w.heap.size + 1, 4, none⟩ = some (.string x.table) := (Y1.out.2 4 (by simp)).1
  have g1_5 : w1.cell? ⟨w.heap.size, 5, none⟩ = some (.slice a2 x.to.length c2) := (A1.out.2 5 (by simp)).1
  have y1_5 : w1.cell? ⟨w.heap.size + 1, 5, none⟩ = some (.slice p2 x.to.length q2) := (Y1.out.2 5 (by simp)).1
  go_wp2_with fail
  refine (eqSs a2 p2 c2 q2 x.to _ (K2.out _ B1.out) (M2.out _ B1.out)).mono ?_
  rintro e w2 ⟨rfl, b2⟩
  have B2 := Lib.hid (Below.call b2 B1.out)
  have A2 := Lib.hid (show Blk w2 w.heap.size [.string x.name, .int .i64 x.kind, .slice a0 x.cols.length c0, .slice a1 x.expr.length c1, .string x.table, .slice a2 x.to.length c2] from Blk.call b2 (A1.out))
  have Y2 := Lib.hid (show Blk w2 (w.heap.size + 1) [.string x.name, .int .i64 x.kind, .slice p0 x.cols.length q0, .slice p1 x.expr.length q1, .string x.table, .slice p2 x.to.length q2] from Blk.call b2 (Y1.out))
  clear b2
  clear g1_0 g1_1 g1_2 g1_3 g1_4 g1_5 y1_0 y1_1 y1_2 y1_3 y1_4 y1_5
  have g2_0 : w2.cell? ⟨w.heap.size, 0, none⟩ = some (.string x.name) := (A2.out.2 0 (by simp)).1
  have y2_0 : w2.cell? ⟨w.heap.size + 1, 0, none⟩ = some (.string x.name) := (Y2.out.2 0 (by simp)).1
  have g2_1 : w2.cell? ⟨w.heap.size, 1, none⟩ = some (.int .i64 x.kind) := (A2.out.2 1 (by simp)).1
  have y2_1 : w2.cell? ⟨w.heap.size + 1, 1, none⟩ = some (.int .i64 x.kind) := (Y2.out.2 1 (by simp)).1
  have g2_2 : w2.cell? ⟨w.heap.size, 2, none⟩ = some (.slice a0 x.cols.length c0) := (A2.out.2 2 (by simp)).1
  have y2_2 : w2.cell? ⟨w.heap.size + 1, 2, none⟩ = some (.slice p0 x.cols.length q0) := (Y2.out.2 2 (by simp)).1
  have g2_3 : w2.cell? ⟨w.heap.size, 3, none⟩ = some (.slice a1 x.expr.length c1) := (A2.out.2 3 (by simp)).1
  have y2_3 : w2.cell? ⟨w.heap.size + 1, 3, none⟩ = some (.slice p1 x.expr.length q1) := (Y2.out.2 3 (by simp)).1
  have g2_4 : w2.cell? ⟨w.heap.size, 4, none⟩ = some (.string x.table) := (A2.out.2 4 (by simp)).1
  have y2_4 : w2.cell? ⟨w.heap.size + 1, 4, none⟩ = some (.string x.table) := (Y2.out.2 4 (by simp)).1
  have g2_5 : w2.cell? ⟨w.heap.size, 5, none⟩ = some (.slice a2 x.to.length c2) := (A2.out.2 5 (by simp)).1
  have y2_5 : w2.cell? ⟨w.heap.size + 1, 5, none⟩ = some (.slice p2 x.to.length q2) := (Y2.out.2 5 (by simp)).1
  go_wp2_with fail
  go_ret
  exact ⟨rfl, B2.out⟩

set_option maxHeartbeats 2000000 in
theorem eqRuS (a a' : Option Addr) (c c' : Nat) (xs : List Ru) (w : World) (hx : Sl 6 RRu 0 w a c xs) (hy : Sl 6 RRu 0 w a' c' xs) :
    Calls Try.prog 60 #[.slice a xs.length c, .slice a' xs.length c'] w fun e w' => e = .returned (.bool true) ∧ Below w.heap.size w w' := by
  have hl := hx.len
  have hne : (((xs.length : Int)) != (xs.length : Int)) = false := by simp
  have HX := Lib.hid (fun w' (hb : Below w.heap.size w w') => hx.kept goodRu (Kept.below hb))
  have HY := Lib.hid (fun w' (hb : Below w.heap.size w w') => hy.kept goodRu (Kept.below hb))
  clear hx hy
  go_enter Try.func60, Try.ntmps60
  go_wp2
  go_loopw [5] (fun i wr => ∃ k : Nat, k ≤ xs.length ∧ i = .int .i64 k ∧ Below w.heap.size w wr) (fun i _ => xs.length - (intOf i).toNat)
  case atStart => exact ⟨0, Nat.zero_le _, rfl, Below.refl _ _⟩
  case round =>
    obtain ⟨k, hk, rfl, hbw⟩ := hrel
    by_cases hlt : k < xs.length
    · obtain ⟨b, off, vs, rfl, hbl, hcs, hR⟩ := (HX.out _ hbw).spot hlt
      obtain ⟨b', off', us, rfl, hbl', hds, hU⟩ := (HY.out _ hbw).spot hlt
      have HR := hR
      have HU := hU
      obtain ⟨a0, c0, a1, c1, a2, c2, rfl, _⟩ := hR
      obtain ⟨p0, q0, p1, q1, p2, q2, rfl, _⟩ := hU
      have hc0 : wr.cell? ⟨b, off + k * 6, none⟩ = some (.string xs[k].name) := hcs 0 (by simp)
      have hc1 : wr.cell? ⟨b, off + k * 6 + 1, none⟩ = some (.int .i64 xs[k].kind) := hcs 1 (by simp)
      have hc2 : wr.cell? ⟨b, off + k * 6 + 2, none⟩ = some (.slice a0 xs[k].cols.length c0) := hcs 2 (by simp)
      have hc3 : wr.cell? ⟨b, off + k * 6 + 3, none⟩ = some (.slice a1 xs[k].expr.length c1) := hcs 3 (by simp)
      have hc4 : wr.cell? ⟨b, off + k * 6 + 4, none⟩ = some (.string xs[k].table) := hcs 4 (by simp)
      have hc5 : wr.cell? ⟨b, off + k * 6 + 5, none⟩ = some (.slice a2 xs[k].to.length c2) := hcs 5 (by simp)
      have hd0 : wr.cell? ⟨b', off' + k * 6, none⟩ = some (.string xs[k].name) := hds 0 (by simp)
      have hd1 : wr.cell? ⟨b', off' + k * 6 + 1, none⟩ = some (.int .i64 xs[k].kind) := hds 1 (by simp)
      have hd2 : wr.cell? ⟨b', off' + k * 6 + 2, none⟩ = some (.slice p0 xs[k].cols.length q0) := hds 2 (by simp)
      have hd3 : wr.cell? ⟨b', off' + k * 6 + 3, none⟩ = some (.slice p1 xs[k].expr.length q1) := hds 3 (by simp)
      have hd4 : wr.cell? ⟨b', off' + k * 6 + 4, none⟩ = some (.string xs[k].table) := hds 4 (by simp)
      have hd5 : wr.cell? ⟨b', off' + k * 6 + 5, none⟩ = some (.slice p2 xs[k].to.length q2) := hds 5 (by simp)
      have h0k : (0 : Int) ≤ (k : Int) := by omega
      have hkl : (k : Int) < (xs.length : Int) := by omega
      have HA := Lib.hid (fun w' (hb : Below wr.heap.size wr w') => goodRu.kept HR (Kept.below hb))
      have HB := Lib.hid (fun w' (hb : Below wr.heap.size wr w') => goodRu.kept HU (Kept.below hb))
      clear HR HU hcs hds
      go_wp2_with fail
      go_region_held3 (fun w' => w'.cell? ⟨b, off + k * 6, none⟩ = some (.string xs[k].name) ∧ w'.cell? ⟨b, off + k * 6 + 1, none⟩ = some (.int .i64 xs[k].kind) ∧ w'.cell? ⟨b, off + k * 6 + 2, none⟩ = some (.slice a0 xs[k].cols.length c0) ∧ w'.cell? ⟨b, off + k * 6 + 3, none⟩ = some (.slice a1 xs[k].expr.length c1) ∧ w'.cell? ⟨b, off + k * 6 + 4, none⟩ = some (.string xs[k].table) ∧ w'.cell? ⟨b, off + k * 6 + 5, none⟩ = some (.slice a2 xs[k].to.length c2) ∧ w'.cell? ⟨b', off' + k * 6, none⟩ = some (.string xs[k].name) ∧ w'.cell? ⟨b', off' + k * 6 + 1, none⟩ = some (.int .i64 xs[k].kind) ∧ w'.cell? ⟨b', off' + k * 6 + 2, none⟩ = some (.slice p0 xs[k].cols.length q0) ∧ w'.cell? ⟨b', off' + k * 6 + 3, none⟩ = some (.slice p1 xs[k].expr.length q1) ∧ w'.cell? ⟨b', off' + k * 6 + 4, none⟩ = some (.string xs[k].table) ∧ w'.cell? ⟨b', off' + k * 6 + 5, none⟩ = some (.slice p2 xs[k].to.length q2)) (first | go_keep | exact ⟨(hcw _ _ hbl).trans hc0, (hcw _ _ hbl).trans hc1, (hcw _ _ hbl).trans hc2, (hcw _ _ hbl).trans hc3, (hcw _ _ hbl).trans hc4, (hcw _ _ hbl).trans hc5, (hcw _ _ hbl').trans hd0, (hcw _ _ hbl').trans hd1, (hcw _ _ hbl').trans hd2, (hcw _ _ hbl').trans hd3, (hcw _ _ hbl').trans hd4, (hcw _ _ hbl').trans hd5⟩)
        ((go_at_call 98; refine (eqRu _ _ xs[k] _ (HA.out _ (below_drewE (Below.refl _ _))) (HB.out _ (below_drewE (Below.refl _ _)))).mono ?_; rintro e w2 ⟨rfl, hb2⟩; obtain ⟨hcw, _⟩ := bcellE hb2))
      go_wp2_with fail
      go_roundw
      case rel => exact ⟨k + 1, by omega, by go_num, (below_drewE hbw).trans (hb2.mono hbw.size)⟩
      case measure => simp [intOf]; omega
    · go_wp2
      go_ret
      exact ⟨rfl, hbw⟩

end Go.Proofs.Ytefjjcoaeanagaa
