/- The laws' own helpers over schemas (the equality): Col. Written by tools/gen_plan.py. -/
import Derived.Test.YtefjjcoaeanagaaDat2
import Derived.Test.YtefjjcoaeanagaaPl
namespace Go.Proofs.Ytefjjcoaeanagaa
open Go.RowKit

set_option maxHeartbeats 2000000 in
theorem eqCo (vs us : List Value) (x : Co) (w : World) (hR : RCo 0 w vs x) (hU : RCo 0 w us x) :
    Calls Try.prog 97 #[.agg vs.toArray, .agg us.toArray] w fun e w' => e = .returned (.bool true) ∧ Below w.heap.size w w' := by
  obtain ⟨a0, c0, rfl, hfit, k0⟩ := hR
  obtain ⟨p0, q0, rfl, _, m0⟩ := hU
  have N0 := k0.len
  have K0 := Lib.hid (fun w' (hb : Below w.heap.size w w') => k0.kept (Kept.below hb))
  have M0 := Lib.hid (fun w' (hb : Below w.heap.size w w') => m0.kept (Kept.below hb))
  clear k0 m0
  have e_name : (!(x.name.toList == x.name.toList)) = false := by simp
  have e_notNull : (x.notNull != x.notNull) = false := by simp
  go_enter Try.func97, Try.ntmps97
  go_wp2_with fail
  refine (eqTy0 x.ty.kind x.ty.len x.ty.name _).mono ?_
  rintro e wt ⟨rfl, bt⟩
  have Bt := Lib.hid (show Below w.heap.size w wt from Below.call bt (by (repeat (first | exact Below.refl _ _ | exact Below.refl _ _ | refine Below.alloc ?_ (by first | omega | (simp; done) | (simp; omega)) _ | refine Below.setCell ?_ (by first | omega | (simp; done) | (simp; omega)) _))))
  have At := Lib.hid (show Blk wt w.heap.size [.string x.name, .int .i64 x.ty.kind, .int .i64 x.ty.len, .string x.ty.name, .bool x.notNull, .slice a0 x.dflt.length c0] from Blk.call bt ((blk_new w _ [.string x.name, .int .i64 x.ty.kind, .int .i64 x.ty.len, .string x.ty.name, .bool x.notNull, .slice a0 x.dflt.length c0]).alloc _))
  have Yt := Lib.hid (show Blk wt (w.heap.size + 1) [.string x.name, .int .i64 x.ty.kind, .int .i64 x.ty.len, .string x.ty.name, .bool x.notNull, .slice p0 x.dflt.length q0] from Blk.call bt (blk_new' (w := w.alloc _) (b := w.heap.size + 1) (by simp) _ [.string x.name, .int .i64 x.ty.kind, .int .i64 x.ty.len, .string x.ty.name, .bool x.notNull, .slice p0 x.dflt.length q0]))
  clear bt
  have gt_0 : wt.cell? ⟨w.heap.size, 0, none⟩ = some (.string x.name) := (At.out.2 0 (by simp)).1
  have yt_0 : wt.cell? ⟨w.heap.size + 1, 0, none⟩ = some (.string x.name) := (Yt.out.2 0 (by simp)).1
  have gt_1 : wt.cell? ⟨w.heap.size, 1, none⟩ = some (.int .i64 x.ty.kind) := (At.out.2 1 (by simp)).1
  have yt_1 : wt.cell? ⟨w.heap.size + 1, 1, none⟩ = some (.int .i64 x.ty.kind) := (Yt.out.2 1 (by simp)).1
  have gt_2 : wt.cell? ⟨w.heap.size, 2, none⟩ = some (.int .i64 x.ty.len) := (At.out.2 2 (by simp)).1
  have yt_2 : wt.cell? ⟨w.heap.size + 1, 2, none⟩ = some (.int .i64 x.ty.len) := (Yt.out.2 2 (by simp)).1
  have gt_3 : wt.cell? ⟨w.heap.size, 3, none⟩ = some (.string x.ty.name) := (At.out.2 3 (by simp)).1
  have yt_3 : wt.cell? ⟨w.heap.size + 1, 3, none⟩ = some (.string x.ty.name) := (Yt.out.2 3 (by simp)).1
  have gt_4 : wt.cell? ⟨w.heap.size, 4, none⟩ = some (.bool x.notNull) := (At.out.2 4 (by simp)).1
  have yt_4 : wt.cell? ⟨w.heap.size + 1, 4, none⟩ = some (.bool x.notNull) := (Yt.out.2 4 (by simp)).1
  have gt_5 : wt.cell? ⟨w.heap.size, 5, none⟩ = some (.slice a0 x.dflt.length c0) := (At.out.2 5 (by simp)).1
  have yt_5 : wt.cell? ⟨w.heap.size + 1, 5, none⟩ = some (.slice p0 x.dflt.length q0) := (Yt.out.2 5 (by simp)).1
  go_wp2_with fail
  refine (eqKs a0 p0 c0 q0 x.dflt _ (K0.out _ Bt.out) (M0.out _ Bt.out)).mono ?_
  rintro e w0 ⟨rfl, b0⟩
  have B0 := Lib.hid (Below.call b0 Bt.out)
  have A0 := Lib.hid (show Blk w0 w.heap.size [.string x.name, .int .i64 x.ty.kind, .int .i64 x.ty.len, .string x.ty.name, .bool x.notNull, .slice a0 x.dflt.length c0] from Blk.call b0 (At.out))
  have Y0 := Lib.hid (show Blk w0 (w.heap.size + 1) [.string x.name, .int .i64 x.ty.kind, .int .i64 x.ty.len, .string x.ty.name, .bool x.notNull, .slice p0 x.dflt.length q0] from Blk.call b0 (Yt.out))
  clear b0
  clear gt_0 gt_1 gt_2 gt_3 gt_4 gt_5 yt_0 yt_1 yt_2 yt_3 yt_4 yt_5
  have g0_0 : w0.cell? ⟨w.heap.size, 0, none⟩ = some (.string x.name) := (A0.out.2 0 (by simp)).1
  have y0_0 : w0.cell? ⟨w.heap.size + 1, 0, none⟩ = some (.string x.name) := (Y0.out.2 0 (by simp)).1
  have g0_1 : w0.cell? ⟨w.heap.size, 1, none⟩ = some (.int .i64 x.ty.kind) := (A0.out.2 1 (by simp)).1
  have y0_1 : w0.cell? ⟨w.heap.size + 1, 1, none⟩ = some (.int .i64 x.ty.kind) := (Y0.out.2 1 (by simp)).1
  have g0_2 : w0.cell? ⟨w.heap.size, 2, none⟩ = some (.int .i64 x.ty.len) := (A0.out.2 2 (by simp)).1
  have y0_2 : w0.cell? ⟨w.heap.size + 1, 2, none⟩ = some (.int .i64 x.ty.len) := (Y0.out.2 2 (by simp)).1
  have g0_3 : w0.cell? ⟨w.heap.size, 3, none⟩ = some (.string x.ty.name) := (A0.out.2 3 (by simp)).1
  have y0_3 : w0.cell? ⟨w.heap.size + 1, 3, none⟩ = some (.string x.ty.name) := (Y0.out.2 3 (by simp)).1
  have g0_4 : w0.cell? ⟨w.heap.size, 4, none⟩ = some (.bool x.notNull) := (A0.out.2 4 (by simp)).1
  have y0_4 : w0.cell? ⟨w.heap.size + 1, 4, none⟩ = some (.bool x.notNull) := (Y0.out.2 4 (by simp)).1
  have g0_5 : w0.cell? ⟨w.heap.size, 5, none⟩ = some (.slice a0 x.dflt.length c0) := (A0.out.2 5 (by simp)).1
  have y0_5 : w0.cell? ⟨w.heap.size + 1, 5, none⟩ = some (.slice p0 x.dflt.length q0) := (Y0.out.2 5 (by simp)).1
  go_wp2_with fail
  go_ret
  exact ⟨rfl, B0.out⟩

set_option maxHeartbeats 2000000 in
theorem eqCoS (a a' : Option Addr) (c c' : Nat) (xs : List Co) (w : World) (hx : Sl 6 RCo 0 w a c xs) (hy : Sl 6 RCo 0 w a' c' xs) :
    Calls Try.prog 59 #[.slice a xs.length c, .slice a' xs.length c'] w fun e w' => e = .returned (.bool true) ∧ Below w.heap.size w w' := by
  have hl := hx.len
  have hne : (((xs.length : Int)) != (xs.length : Int)) = false := by simp
  have HX := Lib.hid (fun w' (hb : Below w.heap.size w w') => hx.kept goodCo (Kept.below hb))
  have HY := Lib.hid (fun w' (hb : Below w.heap.size w w') => hy.kept goodCo (Kept.below hb))
  clear hx hy
  go_enter Try.func59, Try.ntmps59
  go_wp2
  go_loopw [5] (fun i wr => ∃ k : Nat, k ≤ xs.length ∧ i = .int .i64 k ∧ Below w.heap.size w wr) (fun i _ => xs.length - (intOf i).toNat)
  case atStart => exact ⟨0, Nat.zero_le _, rfl, Below.refl _ _⟩
  case round =>
    obtain ⟨k, hk, rfl, hbw⟩ := hrel
    by_cases hlt : k < xs.length
    · obtain ⟨b, off, vs, rfl, hbl, hcs, hR⟩ := (HX.out _ hbw).spot hlt
      obtain ⟨b', off', us, rfl, hbl', hds, hU⟩ := (HY.out _ hbw).spot hlt
      have HR := hR
      have HU := hU
      obtain ⟨a0, c0, rfl, _⟩ := hR
      obtain ⟨p0, q0, rfl, _⟩ := hU
      have hc0 : wr.cell? ⟨b, off + k * 6, none⟩ = some (.string xs[k].name) := hcs 0 (by simp)
      have hc1 : wr.cell? ⟨b, off + k * 6 + 1, none⟩ = some (.int .i64 xs[k].ty.kind) := hcs 1 (by simp)
      have hc2 : wr.cell? ⟨b, off + k * 6 + 2, none⟩ = some (.int .i64 xs[k].ty.len) := hcs 2 (by simp)
      have hc3 : wr.cell? ⟨b, off + k * 6 + 3, none⟩ = some (.string xs[k].ty.name) := hcs 3 (by simp)
      have hc4 : wr.cell? ⟨b, off + k * 6 + 4, none⟩ = some (.bool xs[k].notNull) := hcs 4 (by simp)
      have hc5 : wr.cell? ⟨b, off + k * 6 + 5, none⟩ = some (.slice a0 xs[k].dflt.length c0) := hcs 5 (by simp)
      have hd0 : wr.cell? ⟨b', off' + k * 6, none⟩ = some (.string xs[k].name) := hds 0 (by simp)
      have hd1 : wr.cell? ⟨b', off' + k * 6 + 1, none⟩ = some (.int .i64 xs[k].ty.kind) := hds 1 (by simp)
      have hd2 : wr.cell? ⟨b', off' + k * 6 + 2, none⟩ = some (.int .i64 xs[k].ty.len) := hds 2 (by simp)
      have hd3 : wr.cell? ⟨b', off' + k * 6 + 3, none⟩ = some (.string xs[k].ty.name) := hds 3 (by simp)
      have hd4 : wr.cell? ⟨b', off' + k * 6 + 4, none⟩ = some (.bool xs[k].notNull) := hds 4 (by simp)
      have hd5 : wr.cell? ⟨b', off' + k * 6 + 5, none⟩ = some (.slice p0 xs[k].dflt.length q0) := hds 5 (by simp)
      have h0k : (0 : Int) ≤ (k : Int) := by omega
      have hkl : (k : Int) < (xs.length : Int) := by omega
      have HA := Lib.hid (fun w' (hb : Below wr.heap.size wr w') => goodCo.kept HR (Kept.below hb))
      have HB := Lib.hid (fun w' (hb : Below wr.heap.size wr w') => goodCo.kept HU (Kept.below hb))
      clear HR HU hcs hds
      go_wp2_with fail
      go_region_held3 (fun w' => w'.cell? ⟨b, off + k * 6, none⟩ = some (.string xs[k].name) ∧ w'.cell? ⟨b, off + k * 6 + 1, none⟩ = some (.int .i64 xs[k].ty.kind) ∧ w'.cell? ⟨b, off + k * 6 + 2, none⟩ = some (.int .i64 xs[k].ty.len) ∧ w'.cell? ⟨b, off + k * 6 + 3, none⟩ = some (.string xs[k].ty.name) ∧ w'.cell? ⟨b, off + k * 6 + 4, none⟩ = some (.bool xs[k].notNull) ∧ w'.cell? ⟨b, off + k * 6 + 5, none⟩ = some (.slice a0 xs[k].dflt.length c0) ∧ w'.cell? ⟨b', off' + k * 6, none⟩ = some (.string xs[k].name) ∧ w'.cell? ⟨b', off' + k * 6 + 1, none⟩ = some (.int .i64 xs[k].ty.kind) ∧ w'.cell? ⟨b', off' + k * 6 + 2, none⟩ = some (.int .i64 xs[k].ty.len) ∧ w'.cell? ⟨b', off' + k * 6 + 3, none⟩ = some (.string xs[k].ty.name) ∧ w'.cell? ⟨b', off' + k * 6 + 4, none⟩ = some (.bool xs[k].notNull) ∧ w'.cell? ⟨b', off' + k * 6 + 5, none⟩ = some (.slice p0 xs[k].dflt.length q0)) (first | go_keep | exact ⟨(hcw _ _ hbl).trans hc0, (hcw _ _ hbl).trans hc1, (hcw _ _ hbl).trans hc2, (hcw _ _ hbl).trans hc3, (hcw _ _ hbl).trans hc4, (hcw _ _ hbl).trans hc5, (hcw _ _ hbl').trans hd0, (hcw _ _ hbl').trans hd1, (hcw _ _ hbl').trans hd2, (hcw _ _ hbl').trans hd3, (hcw _ _ hbl').trans hd4, (hcw _ _ hbl').trans hd5⟩)
        ((go_at_call 97; refine (eqCo _ _ xs[k] _ (HA.out _ (below_drewE (Below.refl _ _))) (HB.out _ (below_drewE (Below.refl _ _)))).mono ?_; rintro e w2 ⟨rfl, hb2⟩; obtain ⟨hcw, _⟩ := bcellE hb2))
      go_wp2_with fail
      go_roundw
      case rel => exact ⟨k + 1, by omega, by go_num, (below_drewE hbw).trans (hb2.mono hbw.size)⟩
      case measure => simp [intOf]; omega
    · go_wp2
      go_ret
      exact ⟨rfl, hbw⟩

end Go.Proofs.Ytefjjcoaeanagaa
