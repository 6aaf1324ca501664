/- The laws' own helpers over schemas (the equality): Table. Written by tools/gen_plan.py. -/
import Derived.Test.YtefjjcoaeanagaaDat2
import Derived.Test.YtefjjcoaeanagaaPl
import Derived.Test.YtefjjcoaeanagaaPlEqB
import Derived.Test.YtefjjcoaeanagaaPlEqC
namespace Go.Proofs.Ytefjjcoaeanagaa
open Go.RowKit

set_option maxHeartbeats 2000000 in
theorem eqTb (vs us : List Value) (x : Tb) (w : World) (hR : RTb 0 w vs x) (hU : RTb 0 w us x) :
    Calls Try.prog 26 #[.agg vs.toArray, .agg us.toArray] w fun e w' => e = .returned (.bool true) ∧ Below w.heap.size w w' := by
  obtain ⟨a0, c0, a1, c1, rfl, hfit, k0, k1⟩ := hR
  obtain ⟨p0, q0, p1, q1, rfl, _, m0, m1⟩ := hU
  have N0 := k0.len
  have K0 := Lib.hid (fun w' (hb : Below w.heap.size w w') => k0.kept goodCo (Kept.below hb))
  have M0 := Lib.hid (fun w' (hb : Below w.heap.size w w') => m0.kept goodCo (Kept.below hb))
  clear k0 m0
  have N1 := k1.len
  have K1 := Lib.hid (fun w' (hb : Below w.heap.size w w') => k1.kept goodRu (Kept.below hb))
  have M1 := Lib.hid (fun w' (hb : Below w.heap.size w w') => m1.kept goodRu (Kept.below hb))
  clear k1 m1
  have e_name : (!(x.name.toList == x.name.toList)) = false := by simp
  have e_token : (x.token != x.token) = false := by simp
  go_enter Try.func26, Try.ntmps26
  go_wp2_with fail
  refine (eqCoS a0 p0 c0 q0 x.cols _ (K0.out _ (by (repeat (first | exact Below.refl _ _ | exact Below.refl _ _ | refine Below.alloc ?_ (by first | omega | (simp; done) | (simp; omega)) _ | refine Below.setCell ?_ (by first | omega | (simp; done) | (simp; omega)) _)))) (M0.out _ (by (repeat (first | exact Below.refl _ _ | exact Below.refl _ _ | refine Below.alloc ?_ (by first | omega | (simp; done) | (simp; omega)) _ | refine Below.setCell ?_ (by first | omega | (simp; done) | (simp; omega)) _))))).mono ?_
  rintro e w0 ⟨rfl, b0⟩
  have B0 := Lib.hid (show Below w.heap.size w w0 from Below.call b0 (by (repeat (first | exact Below.refl _ _ | exact Below.refl _ _ | refine Below.alloc ?_ (by first | omega | (simp; done) | (simp; omega)) _ | refine Below.setCell ?_ (by first | omega | (simp; done) | (simp; omega)) _))))
  have A0 := Lib.hid (show Blk w0 w.heap.size [.string x.name, .slice a0 x.cols.length c0, .slice a1 x.rules.length c1, .int .i64 x.token] from Blk.call b0 ((blk_new w _ [.string x.name, .slice a0 x.cols.length c0, .slice a1 x.rules.length c1, .int .i64 x.token]).alloc _))
  have Y0 := Lib.hid (show Blk w0 (w.heap.size + 1) [.string x.name, .slice p0 x.cols.length q0, .slice p1 x.rules.length q1, .int .i64 x.token] from Blk.call b0 (blk_new' (w := w.alloc _) (b := w.heap.size + 1) (by simp) _ [.string x.name, .slice p0 x.cols.length q0, .slice p1 x.rules.length q1, .int .i64 x.token]))
  clear b0
  have g0_0 : w0.cell? ⟨w.heap.size, 0, none⟩ = some (.string x.name) := (A0.out.2 0 (by simp)).1
  have y0_0 : w0.cell? ⟨w.heap.size + 1, 0, none⟩ = some (.string x.name) := (Y0.out.2 0 (by simp)).1
  have g0_1 : w0.cell? ⟨w.heap.size, 1, none⟩ = some (.slice a0 x.cols.length c0) := (A0.out.2 1 (by simp)).1
  have y0_1 : w0.cell? ⟨w.heap.size + 1, 1, none⟩ = some (.slice p0 x.cols.length q0) := (Y0.out.2 1 (by simp)).1
  have g0_2 : w0.cell? ⟨w.heap.size, 2, none⟩ = some (.slice a1 x.rules.length c1) := (A0.out.2 2 (by simp)).1
  have y0_2 : w0.cell? ⟨w.heap.size + 1, 2, none⟩ = some (.slice p1 x.rules.length q1) := (Y0.out.2 2 (by simp)).1
  have g0_3 : w0.cell? ⟨w.heap.size, 3, none⟩ = some (.int .i64 x.token) := (A0.out.2 3 (by simp)).1
  have y0_3 : w0.cell? ⟨w.heap.size + 1, 3, none⟩ = some (.int .i64 x.token) := (Y0.out.2 3 (by simp)).1
  go_wp2_with fail
  refine (eqRuS a1 p1 c1 q1 x.rules _ (K1.out _ B0.out) (M1.out _ B0.out)).mono ?_
  rintro e w1 ⟨rfl, b1⟩
  have B1 := Lib.hid (Below.call b1 B0.out)
  have A1 := Lib.hid (show Blk w1 w.heap.size [.string x.name, .slice a0 x.cols.length c0, .slice a1 x.rules.length c1, .int .i64 x.token] from Blk.call b1 (A0.out))
  have Y1 := Lib.hid (show Blk w1 (w.heap.size + 1) [.string x.name, .slice p0 x.cols.length q0, .slice p1 x.rules.length q1, .int .i64 x.token] from Blk.call b1 (Y0.out))
  clear b1
  clear g0_0 g0_1 g0_2 g0_3 y0_0 y0_1 y0_2 y0_3
  have g1_0 : w1.cell? ⟨w.heap.size, 0, none⟩ = some (.string x.name) := (A1.out.2 0 (by simp)).1
  have y1_0 : w1.cell? ⟨w.heap.size + 1, 0, none⟩ = some (.string x.name) := (Y1.out.2 0 (by simp)).1
  have g1_1 : w1.cell? ⟨w.heap.size, 1, none⟩ = some (.slice a0 x.cols.length c0) := (A1.out.2 1 (by simp)).1
  have y1_1 : w1.cell? ⟨w.heap.size + 1, 1, none⟩ = some (.slice p0 x.cols.length q0) := (Y1.out.2 1 (by simp)).1
  have g1_2 : w1.cell? ⟨w.heap.size, 2, none⟩ = some (.slice a1 x.rules.length c1) := (A1.out.2 2 (by simp)).1
  have y1_2 : w1.cell? ⟨w.heap.size + 1, 2, none⟩ = some (.slice p1 x.rules.length q1) := (Y1.out.2 2 (by simp)).1
  have g1_3 : w1.cell? ⟨w.heap.size, 3, none⟩ = some (.int .i64 x.token) := (A1.out.2 3 (by simp)).1
  have y1_3 : w1.cell? ⟨w.heap.size + 1, 3, none⟩ = some (.int .i64 x.token) := (Y1.out.2 3 (by simp)).1
  go_wp2_with fail
  go_ret
  exact ⟨rfl, B1.out⟩

set_option maxHeartbeats 2000000 in
theorem eqTbS (a a' : Option Addr) (c c' : Nat) (xs : List Tb) (w : World) (hx : Sl 4 RTb 0 w a c xs) (hy : Sl 4 RTb 0 w a' c' xs) :
    Calls Try.prog 52 #[.slice a xs.length c, .slice a' xs.length c'] w fun e w' => e = .returned (.bool true) ∧ Below w.heap.size w w' := by
  have hl := hx.len
  have hne : (((xs.length : Int)) != (xs.length : Int)) = false := by simp
  have HX := Lib.hid (fun w' (hb : Below w.heap.size w w') => hx.kept goodTb (Kept.below hb))
  have HY := Lib.hid (fun w' (hb : Below w.heap.size w w') => hy.kept goodTb (Kept.below hb))
  clear hx hy
  go_enter Try.func52, Try.ntmps52
  go_wp2
  go_loopw [5] (fun i wr => ∃ k : Nat, k ≤ xs.length ∧ i = .int .i64 k ∧ Below w.heap.size w wr) (fun i _ => xs.length - (intOf i).toNat)
  case atStart => exact ⟨0, Nat.zero_le _, rfl, Below.refl _ _⟩
  case round =>
    obtain ⟨k, hk, rfl, hbw⟩ := hrel
    by_cases hlt : k < xs.length
    · obtain ⟨b, off, vs, rfl, hbl, hcs, hR⟩ := (HX.out _ hbw).spot hlt
      obtain ⟨b', off', us, rfl, hbl', hds, hU⟩ := (HY.out _ hbw).spot hlt
      have HR := hR
      have HU := hU
      obtain ⟨a0, c0, a1, c1, rfl, _⟩ := hR
      obtain ⟨p0, q0, p1, q1, rfl, _⟩ := hU
      have hc0 : wr.cell? ⟨b, off + k * 4, none⟩ = some (.string xs[k].name) := hcs 0 (by simp)
      have hc1 : wr.cell? ⟨b, off + k * 4 + 1, none⟩ = some (.slice a0 xs[k].cols.length c0) := hcs 1 (by simp)
      have hc2 : wr.cell? ⟨b, off + k * 4 + 2, none⟩ = some (.slice a1 xs[k].rules.length c1) := hcs 2 (by simp)
      have hc3 : wr.cell? ⟨b, off + k * 4 + 3, none⟩ = some (.int .i64 xs[k].token) := hcs 3 (by simp)
      have hd0 : wr.cell? ⟨b', off' + k * 4, none⟩ = some (.string xs[k].name) := hds 0 (by simp)
      have hd1 : wr.cell? ⟨b', off' + k * 4 + 1, none⟩ = some (.slice p0 xs[k].cols.length q0) := hds 1 (by simp)
      have hd2 : wr.cell? ⟨b', off' + k * 4 + 2, none⟩ = some (.slice p1 xs[k].rules.length q1) := hds 2 (by simp)
      have hd3 : wr.cell? ⟨b', off' + k * 4 + 3, none⟩ = some (.int .i64 xs[k].token) := hds 3 (by simp)
      have h0k : (0 : Int) ≤ (k : Int) := by omega
      have hkl : (k : Int) < (xs.length : Int) := by omega
      have HA := Lib.hid (fun w' (hb : Below wr.heap.size wr w') => goodTb.kept HR (Kept.below hb))
      have HB := Lib.hid (fun w' (hb : Below wr.heap.size wr w') => goodTb.kept HU (Kept.below hb))
      clear HR HU hcs hds
      go_wp2_with fail
      go_region_held3 (fun w' => w'.cell? ⟨b, off + k * 4, none⟩ = some (.string xs[k].name) ∧ w'.cell? ⟨b, off + k * 4 + 1, none⟩ = some (.slice a0 xs[k].cols.length c0) ∧ w'.cell? ⟨b, off + k * 4 + 2, none⟩ = some (.slice a1 xs[k].rules.length c1) ∧ w'.cell? ⟨b, off + k * 4 + 3, none⟩ = some (.int .i64 xs[k].token) ∧ w'.cell? ⟨b', off' + k * 4, none⟩ = some (.string xs[k].name) ∧ w'.cell? ⟨b', off' + k * 4 + 1, none⟩ = some (.slice p0 xs[k].cols.length q0) ∧ w'.cell? ⟨b', off' + k * 4 + 2, none⟩ = some (.slice p1 xs[k].rules.length q1) ∧ w'.cell? ⟨b', off' + k * 4 + 3, none⟩ = some (.int .i64 xs[k].token)) (first | go_keep | exact ⟨(hcw _ _ hbl).trans hc0, (hcw _ _ hbl).trans hc1, (hcw _ _ hbl).trans hc2, (hcw _ _ hbl).trans hc3, (hcw _ _ hbl').trans hd0, (hcw _ _ hbl').trans hd1, (hcw _ _ hbl').trans hd2, (hcw _ _ hbl').trans hd3⟩)
        ((go_at_call 26; refine (eqTb _ _ xs[k] _ (HA.out _ (below_drewE (Below.refl _ _))) (HB.out _ (below_drewE (Below.refl _ _)))).mono ?_; rintro e w2 ⟨rfl, hb2⟩; obtain ⟨hcw, _⟩ := bcellE hb2))
      go_wp2_with fail
      go_roundw
      case rel => exact ⟨k + 1, by omega, by go_num, (below_drewE hbw).trans (hb2.mono hbw.size)⟩
      case measure => simp [intOf]; omega
    · go_wp2
      go_ret
      exact ⟨rfl, hbw⟩

end Go.Proofs.Ytefjjcoaeanagaa
