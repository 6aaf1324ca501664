/- The laws' own helpers over schemas (the equality): Table. Written by tools/gen_plan.py. -/
/- The laws' own helpers over schemas (the equality): Index, View. Written by tools/gen_plan.py. -/
/- The laws' own helpers over schemas (the equality): Plan. Written by tools/gen_plan.py. -/
/- The laws' marks: markText answers by its number alone; markStringS writes the marks into its list, heldStringS finds them there. -/
/- The marks at 1; what is made stays where it lies while others are marked. -/
/- Plain facts on lists of bytes and of strings; nothing of the program. -/
/- spec.Before and impl.Before both answer by the byte order of the two texts, and leave memory alone. -/
import Derived.Test.YtjjdcdnaonfnmaaGreatMTyp2
import Derived.Test.YtjjdcdnaonfnmaaGreatMDatU
import Derived.Test.YtjjdcdnaonfnmaaGreatMPlToF
import Derived.Test.YtjjdcdnaonfnmaaGreatMMem
import Derived.Deep.RegionHeld3
import Derived.WalkKit
import Derived.Lib.Hide
import Derived.Test.YtjjdcdnaonfnmaaGreatRows
import Derived.WalkLawsBesides
import Derived.WalkSpells
import Derived.Deep.QuietTactic
import Derived.BigQuiet
import Derived.Deep.LoopGhost
import Derived.Outline
import Derived.Lib.Strings
namespace Go.Proofs.YtjjdcdnaonfnmaaGreat
open Go.RowKit

set_option maxHeartbeats 2000000 in
theorem eqTb (vs us : List Value) (x : Tb) (w : World) (hR : RTb 0 w vs x) (hU : RTb 0 w us x) :
    Calls Tryz.prog 82 #[.agg vs.toArray, .agg us.toArray] w fun e w' => e = .returned (.bool true) ∧ Below w.heap.size w w' := by
  obtain ⟨a0, c0, a1, c1, rfl, hfit, k0, k1⟩ := hR
  obtain ⟨p0, q0, p1, q1, rfl, _, m0, m1⟩ := hU
  have N0 := k0.len
  have K0 := Lib.hid (fun w' (hb : Below w.heap.size w w') => k0.kept goodCo (Kept.below hb))
  have M0 := Lib.hid (fun w' (hb : Below w.heap.size w w') => m0.kept goodCo (Kept.below hb))
  clear k0 m0
  have N1 := k1.len
  have K1 := Lib.hid (fun w' (hb : Below w.heap.size w w') => k1.kept goodRu (Kept.below hb))
  have M1 := Lib.hid (fun w' (hb : Below w.heap.size w w') => m1.kept goodRu (Kept.below hb))
  clear k1 m1
  have e_name : (!(x.name.toList == x.name.toList)) = false := by simp
  have e_token : (x.token != x.token) = false := by simp
  go_enter Tryz.func82, Tryz.ntmps82
  go_wp2_with fail
  refine (eqCoS a0 p0 c0 q0 x.cols _ (K0.out _ (by ((repeat (first | refine Below.alloc ?_ (by first | omega | (simp; done) | (simp; omega)) _ | refine Below.setCell ?_ (by first | omega | (simp; done) | (simp; omega)) _)); first | exact Below.refl _ _ | exact Below.refl _ _))) (M0.out _ (by ((repeat (first | refine Below.alloc ?_ (by first | omega | (simp; done) | (simp; omega)) _ | refine Below.setCell ?_ (by first | omega | (simp; done) | (simp; omega)) _)); first | exact Below.refl _ _ | exact Below.refl _ _)))).mono ?_
  rintro e w0 ⟨rfl, b0⟩
  have B0 := Lib.hid (show Below w.heap.size w w0 from Below.call b0 (by ((repeat (first | refine Below.alloc ?_ (by first | omega | (simp; done) | (simp; omega)) _ | refine Below.setCell ?_ (by first | omega | (simp; done) | (simp; omega)) _)); first | exact Below.refl _ _ | exact Below.refl _ _)))
  have A0 := Lib.hid (show Blk w0 w.heap.size [.string x.name, .slice a0 x.cols.length c0, .slice a1 x.rules.length c1, .int .i64 x.token] from Blk.call b0 ((blk_new w _ [.string x.name, .slice a0 x.cols.length c0, .slice a1 x.rules.length c1, .int .i64 x.token]).alloc _))
  have Y0 := Lib.hid (show Blk w0 (w.heap.size + 1) [.string x.name, .slice p0 x.cols.length q0, .slice p1 x.rules.length q1, .int .i64 x.token] from Blk.call b0 (blk_new' (w := w.alloc _) (b := w.heap.size + 1) (by simp) _ [.string x.name, .slice p0 x.cols.length q0, .slice p1 x.rules.length q1, .int .i64 x.token]))
  clear b0
  have g0_0 : w0.cell? ⟨w.heap.size, 0, none⟩ = some (.string x.name) := (A0.out.2 0 (by simp)).1
  have y0_0 : w0.cell? ⟨w.heap.size + 1, 0, none⟩ = some (.string x.name) := (Y0.out.2 0 (by simp)).1
  have g0_1 : w0.cell? ⟨w.heap.size, 1, none⟩ = some (.slice a0 x.cols.length c0) := (A0.out.2 1 (by simp)).1
  have y0_1 : w0.cell? ⟨w.heap.size + 1, 1, none⟩ = some (.slice p0 x.cols.length q0) := (Y0.out.2 1 (by simp)).1
  have g0_2 : w0.cell? ⟨w.heap.size, 2, none⟩ = some (.slice a1 x.rules.length c1) := (A0.out.2 2 (by simp)).1
  have y0_2 : w0.cell? ⟨w.heap.size + 1, 2, none⟩ = some (.slice p1 x.rules.length q1) := (Y0.out.2 2 (by simp)).1
  have g0_3 : w0.cell? ⟨w.heap.size, 3, none⟩ = some (.int .i64 x.token) := (A0.out.2 3 (by simp)).1
  have y0_3 : w0.cell? ⟨w.heap.size + 1, 3, none⟩ = some (.int .i64 x.token) := (Y0.out.2 3 (by simp)).1
  go_wp2_with fail
  refine (eqRuS a1 p1 c1 q1 x.rules _ (K1.out _ B0.out) (M1.out _ B0.out)).mono ?_
  rintro e w1 ⟨rfl, b1⟩
  have B1 := Lib.hid (Below.call b1 B0.out)
  have A1 := Lib.hid (show Blk w1 w.heap.size [.string x.name, .slice a0 x.cols.length c0, .slice a1 x.rules.length c1, .int .i64 x.token] from Blk.call b1 (A0.out))
  have Y1 := Lib.hid (show Blk w1 (w.heap.size + 1) [.string x.name, .slice p0 x.cols.length q0, .slice p1 x.rules.length q1, .int .i64 x.token] from Blk.call b1 (Y0.out))
  clear b1
  clear g0_0 g0_1 g0_2 g0_3 y0_0 y0_1 y0_2 y0_3
  have g1_0 : w1.cell? ⟨w.heap.size, 0, none⟩ = some (.string x.name) := (A1.out.2 0 (by simp)).1
  have y1_0 : w1.cell? ⟨w.heap.size + 1, 0, none⟩ = some (.string x.name) := (Y1.out.2 0 (by simp)).1
  have g1_1 : w1.cell? ⟨w.heap.size, 1, none⟩ = some (.slice a0 x.cols.length c0) := (A1.out.2 1 (by simp)).1
  have y1_1 : w1.cell? ⟨w.heap.size + 1, 1, none⟩ = some (.slice p0 x.cols.length q0) := (Y1.out.2 1 (by simp)).1
  have g1_2 : w1.cell? ⟨w.heap.size, 2, none⟩ = some (.slice a1 x.rules.length c1) := (A1.out.2 2 (by simp)).1
  have y1_2 : w1.cell? ⟨w.heap.size + 1, 2, none⟩ = some (.slice p1 x.rules.length q1) := (Y1.out.2 2 (by simp)).1
  have g1_3 : w1.cell? ⟨w.heap.size, 3, none⟩ = some (.int .i64 x.token) := (A1.out.2 3 (by simp)).1
  have y1_3 : w1.cell? ⟨w.heap.size + 1, 3, none⟩ = some (.int .i64 x.token) := (Y1.out.2 3 (by simp)).1
  go_wp2_with fail
  go_ret
  exact ⟨rfl, B1.out⟩

set_option maxHeartbeats 2000000 in
theorem eqTbS (a a' : Option Addr) (c c' : Nat) (xs : List Tb) (w : World) (hx : Sl 4 RTb 0 w a c xs) (hy : Sl 4 RTb 0 w a' c' xs) :
    Calls Tryz.prog 38 #[.slice a xs.length c, .slice a' xs.length c'] w fun e w' => e = .returned (.bool true) ∧ Below w.heap.size w w' := by
  have hl := hx.len
  have hne : (((xs.length : Int)) != (xs.length : Int)) = false := by simp
  have HX := Lib.hid (fun w' (hb : Below w.heap.size w w') => hx.kept goodTb (Kept.below hb))
  have HY := Lib.hid (fun w' (hb : Below w.heap.size w w') => hy.kept goodTb (Kept.below hb))
  clear hx hy
  go_enter Tryz.func38, Tryz.ntmps38
  go_wp2
  go_loopw [5] (fun i wr => ∃ k : Nat, k ≤ xs.length ∧ i = .int .i64 k ∧ Below w.heap.size w wr) (fun i _ => xs.length - (intOf i).toNat)
  case atStart => exact ⟨0, Nat.zero_le _, rfl, Below.refl _ _⟩
  case round =>
    obtain ⟨k, hk, rfl, hbw⟩ := hrel
    by_cases hlt : k < xs.length
    · obtain ⟨b, off, vs, rfl, hbl, hcs, hR⟩ := (HX.out _ hbw).spot hlt
      obtain ⟨b', off', us, rfl, hbl', hds, hU⟩ := (HY.out _ hbw).spot hlt
      have HR := hR
      have HU := hU
      obtain ⟨a0, c0, a1, c1, rfl, _⟩ := hR
      obtain ⟨p0, q0, p1, q1, rfl, _⟩ := hU
      have hc0 : wr.cell? ⟨b, off + k * 4, none⟩ = some (.string xs[k].name) := hcs 0 (by simp)
      have hc1 : wr.cell? ⟨b, off + k * 4 + 1, none⟩ = some (.slice a0 xs[k].cols.length c0) := hcs 1 (by simp)
      have hc2 : wr.cell? ⟨b, off + k * 4 + 2, none⟩ = some (.slice a1 xs[k].rules.length c1) := hcs 2 (by simp)
      have hc3 : wr.cell? ⟨b, off + k * 4 + 3, none⟩ = some (.int .i64 xs[k].token) := hcs 3 (by simp)
      have hd0 : wr.cell? ⟨b', off' + k * 4, none⟩ = some (.string xs[k].name) := hds 0 (by simp)
      have hd1 : wr.cell? ⟨b', off' + k * 4 + 1, none⟩ = some (.slice p0 xs[k].cols.length q0) := hds 1 (by simp)
      have hd2 : wr.cell? ⟨b', off' + k * 4 + 2, none⟩ = some (.slice p1 xs[k].rules.length q1) := hds 2 (by simp)
      have hd3 : wr.cell? ⟨b', off' + k * 4 + 3, none⟩ = some (.int .i64 xs[k].token) := hds 3 (by simp)
      have h0k : (0 : Int) ≤ (k : Int) := by omega
      have hkl : (k : Int) < (xs.length : Int) := by omega
      have HA := Lib.hid (fun w' (hb : Below wr.heap.size wr w') => goodTb.kept HR (Kept.below hb))
      have HB := Lib.hid (fun w' (hb : Below wr.heap.size wr w') => goodTb.kept HU (Kept.below hb))
      clear HR HU hcs hds
      go_wp2_with fail
      go_region_held3 (fun w' => w'.cell? ⟨b, off + k * 4, none⟩ = some (.string xs[k].name) ∧ w'.cell? ⟨b, off + k * 4 + 1, none⟩ = some (.slice a0 xs[k].cols.length c0) ∧ w'.cell? ⟨b, off + k * 4 + 2, none⟩ = some (.slice a1 xs[k].rules.length c1) ∧ w'.cell? ⟨b, off + k * 4 + 3, none⟩ = some (.int .i64 xs[k].token) ∧ w'.cell? ⟨b', off' + k * 4, none⟩ = some (.string xs[k].name) ∧ w'.cell? ⟨b', off' + k * 4 + 1, none⟩ = some (.slice p0 xs[k].cols.length q0) ∧ w'.cell? ⟨b', off' + k * 4 + 2, none⟩ = some (.slice p1 xs[k].rules.length q1) ∧ w'.cell? ⟨b', off' + k * 4 + 3, none⟩ = some (.int .i64 xs[k].token)) (first | go_keep | exact ⟨(hcw _ _ hbl).trans hc0, (hcw _ _ hbl).trans hc1, (hcw _ _ hbl).trans hc2, (hcw _ _ hbl).trans hc3, (hcw _ _ hbl').trans hd0, (hcw _ _ hbl').trans hd1, (hcw _ _ hbl').trans hd2, (hcw _ _ hbl').trans hd3⟩)
        ((go_at_call 82; refine (eqTb _ _ xs[k] _ (HA.out _ (below_drewE (Below.refl _ _))) (HB.out _ (below_drewE (Below.refl _ _)))).mono ?_; rintro e w2 ⟨rfl, hb2⟩; obtain ⟨hcw, _⟩ := bcellE hb2))
      go_wp2_with fail
      go_roundw
      case rel => exact ⟨k + 1, by omega, by go_num, (below_drewE hbw).trans (hb2.mono hbw.size)⟩
      case measure => simp [intOf]; omega
    · go_wp2
      go_ret
      exact ⟨rfl, hbw⟩

end Go.Proofs.YtjjdcdnaonfnmaaGreat

namespace Go.Proofs.YtjjdcdnaonfnmaaGreat
open Go.RowKit

set_option maxHeartbeats 2000000 in
theorem eqIx (vs us : List Value) (x : Ix) (w : World) (hR : RIx 0 w vs x) (hU : RIx 0 w us x) :
    Calls Tryz.prog 83 #[.agg vs.toArray, .agg us.toArray] w fun e w' => e = .returned (.bool true) ∧ Below w.heap.size w w' := by
  obtain ⟨a0, c0, rfl, hfit, k0⟩ := hR
  obtain ⟨p0, q0, rfl, _, m0⟩ := hU
  have N0 := k0.1.len
  have K0 := Lib.hid (fun w' (hb : Below w.heap.size w w') => k0.kept (Kept.below hb))
  have M0 := Lib.hid (fun w' (hb : Below w.heap.size w w') => m0.kept (Kept.below hb))
  clear k0 m0
  have e_name : (!(x.name.toList == x.name.toList)) = false := by simp
  have e_table : (!(x.table.toList == x.table.toList)) = false := by simp
  have e_uniq : (x.uniq != x.uniq) = false := by simp
  go_enter Tryz.func83, Tryz.ntmps83
  go_wp2_with fail
  refine (eqSs a0 p0 c0 q0 x.cols _ (K0.out _ (by ((repeat (first | refine Below.alloc ?_ (by first | omega | (simp; done) | (simp; omega)) _ | refine Below.setCell ?_ (by first | omega | (simp; done) | (simp; omega)) _)); first | exact Below.refl _ _ | exact Below.refl _ _))) (M0.out _ (by ((repeat (first | refine Below.alloc ?_ (by first | omega | (simp; done) | (simp; omega)) _ | refine Below.setCell ?_ (by first | omega | (simp; done) | (simp; omega)) _)); first | exact Below.refl _ _ | exact Below.refl _ _)))).mono ?_
  rintro e w0 ⟨rfl, b0⟩
  have B0 := Lib.hid (show Below w.heap.size w w0 from Below.call b0 (by ((repeat (first | refine Below.alloc ?_ (by first | omega | (simp; done) | (simp; omega)) _ | refine Below.setCell ?_ (by first | omega | (simp; done) | (simp; omega)) _)); first | exact Below.refl _ _ | exact Below.refl _ _)))
  have A0 := Lib.hid (show Blk w0 w.heap.size [.string x.name, .string x.table, .slice a0 x.cols.length c0, .bool x.uniq] from Blk.call b0 ((blk_new w _ [.string x.name, .string x.table, .slice a0 x.cols.length c0, .bool x.uniq]).alloc _))
  have Y0 := Lib.hid (show Blk w0 (w.heap.size + 1) [.string x.name, .string x.table, .slice p0 x.cols.length q0, .bool x.uniq] from Blk.call b0 (blk_new' (w := w.alloc _) (b := w.heap.size + 1) (by simp) _ [.string x.name, .string x.table, .slice p0 x.cols.length q0, .bool x.uniq]))
  clear b0
  have g0_0 : w0.cell? ⟨w.heap.size, 0, none⟩ = some (.string x.name) := (A0.out.2 0 (by simp)).1
  have y0_0 : w0.cell? ⟨w.heap.size + 1, 0, none⟩ = some (.string x.name) := (Y0.out.2 0 (by simp)).1
  have g0_1 : w0.cell? ⟨w.heap.size, 1, none⟩ = some (.string x.table) := (A0.out.2 1 (by simp)).1
  have y0_1 : w0.cell? ⟨w.heap.size + 1, 1, none⟩ = some (.string x.table) := (Y0.out.2 1 (by simp)).1
  have g0_2 : w0.cell? ⟨w.heap.size, 2, none⟩ = some (.slice a0 x.cols.length c0) := (A0.out.2 2 (by simp)).1
  have y0_2 : w0.cell? ⟨w.heap.size + 1, 2, none⟩ = some (.slice p0 x.cols.length q0) := (Y0.out.2 2 (by simp)).1
  have g0_3 : w0.cell? ⟨w.heap.size, 3, none⟩ = some (.bool x.uniq) := (A0.out.2 3 (by simp)).1
  have y0_3 : w0.cell? ⟨w.heap.size + 1, 3, none⟩ = some (.bool x.uniq) := (Y0.out.2 3 (by simp)).1
  go_wp2_with fail
  go_ret
  exact ⟨rfl, B0.out⟩

set_option maxHeartbeats 2000000 in
theorem eqIxS (a a' : Option Addr) (c c' : Nat) (xs : List Ix) (w : World) (hx : Sl 4 RIx 0 w a c xs) (hy : Sl 4 RIx 0 w a' c' xs) :
    Calls Tryz.prog 39 #[.slice a xs.length c, .slice a' xs.length c'] w fun e w' => e = .returned (.bool true) ∧ Below w.heap.size w w' := by
  have hl := hx.len
  have hne : (((xs.length : Int)) != (xs.length : Int)) = false := by simp
  have HX := Lib.hid (fun w' (hb : Below w.heap.size w w') => hx.kept goodIx (Kept.below hb))
  have HY := Lib.hid (fun w' (hb : Below w.heap.size w w') => hy.kept goodIx (Kept.below hb))
  clear hx hy
  go_enter Tryz.func39, Tryz.ntmps39
  go_wp2
  go_loopw [5] (fun i wr => ∃ k : Nat, k ≤ xs.length ∧ i = .int .i64 k ∧ Below w.heap.size w wr) (fun i _ => xs.length - (intOf i).toNat)
  case atStart => exact ⟨0, Nat.zero_le _, rfl, Below.refl _ _⟩
  case round =>
    obtain ⟨k, hk, rfl, hbw⟩ := hrel
    by_cases hlt : k < xs.length
    · obtain ⟨b, off, vs, rfl, hbl, hcs, hR⟩ := (HX.out _ hbw).spot hlt
      obtain ⟨b', off', us, rfl, hbl', hds, hU⟩ := (HY.out _ hbw).spot hlt
      have HR := hR
      have HU := hU
      obtain ⟨a0, c0, rfl, _⟩ := hR
      obtain ⟨p0, q0, rfl, _⟩ := hU
      have hc0 : wr.cell? ⟨b, off + k * 4, none⟩ = some (.string xs[k].name) := hcs 0 (by simp)
      have hc1 : wr.cell? ⟨b, off + k * 4 + 1, none⟩ = some (.string xs[k].table) := hcs 1 (by simp)
      have hc2 : wr.cell? ⟨b, off + k * 4 + 2, none⟩ = some (.slice a0 xs[k].cols.length c0) := hcs 2 (by simp)
      have hc3 : wr.cell? ⟨b, off + k * 4 + 3, none⟩ = some (.bool xs[k].uniq) := hcs 3 (by simp)
      have hd0 : wr.cell? ⟨b', off' + k * 4, none⟩ = some (.string xs[k].name) := hds 0 (by simp)
      have hd1 : wr.cell? ⟨b', off' + k * 4 + 1, none⟩ = some (.string xs[k].table) := hds 1 (by simp)
      have hd2 : wr.cell? ⟨b', off' + k * 4 + 2, none⟩ = some (.slice p0 xs[k].cols.length q0) := hds 2 (by simp)
      have hd3 : wr.cell? ⟨b', off' + k * 4 + 3, none⟩ = some (.bool xs[k].uniq) := hds 3 (by simp)
      have h0k : (0 : Int) ≤ (k : Int) := by omega
      have hkl : (k : Int) < (xs.length : Int) := by omega
      have HA := Lib.hid (fun w' (hb : Below wr.heap.size wr w') => goodIx.kept HR (Kept.below hb))
      have HB := Lib.hid (fun w' (hb : Below wr.heap.size wr w') => goodIx.kept HU (Kept.below hb))
      clear HR HU hcs hds
      go_wp2_with fail
      go_region_held3 (fun w' => w'.cell? ⟨b, off + k * 4, none⟩ = some (.string xs[k].name) ∧ w'.cell? ⟨b, off + k * 4 + 1, none⟩ = some (.string xs[k].table) ∧ w'.cell? ⟨b, off + k * 4 + 2, none⟩ = some (.slice a0 xs[k].cols.length c0) ∧ w'.cell? ⟨b, off + k * 4 + 3, none⟩ = some (.bool xs[k].uniq) ∧ w'.cell? ⟨b', off' + k * 4, none⟩ = some (.string xs[k].name) ∧ w'.cell? ⟨b', off' + k * 4 + 1, none⟩ = some (.string xs[k].table) ∧ w'.cell? ⟨b', off' + k * 4 + 2, none⟩ = some (.slice p0 xs[k].cols.length q0) ∧ w'.cell? ⟨b', off' + k * 4 + 3, none⟩ = some (.bool xs[k].uniq)) (first | go_keep | exact ⟨(hcw _ _ hbl).trans hc0, (hcw _ _ hbl).trans hc1, (hcw _ _ hbl).trans hc2, (hcw _ _ hbl).trans hc3, (hcw _ _ hbl').trans hd0, (hcw _ _ hbl').trans hd1, (hcw _ _ hbl').trans hd2, (hcw _ _ hbl').trans hd3⟩)
        ((go_at_call 83; refine (eqIx _ _ xs[k] _ (HA.out _ (below_drewE (Below.refl _ _))) (HB.out _ (below_drewE (Below.refl _ _)))).mono ?_; rintro e w2 ⟨rfl, hb2⟩; obtain ⟨hcw, _⟩ := bcellE hb2))
      go_wp2_with fail
      go_roundw
      case rel => exact ⟨k + 1, by omega, by go_num, (below_drewE hbw).trans (hb2.mono hbw.size)⟩
      case measure => simp [intOf]; omega
    · go_wp2
      go_ret
      exact ⟨rfl, hbw⟩

set_option maxHeartbeats 2000000 in
theorem eqVw (vs us : List Value) (x : Vw) (w : World) (hR : RVw 0 w vs x) (hU : RVw 0 w us x) :
    Calls Tryz.prog 84 #[.agg vs.toArray, .agg us.toArray] w fun e w' => e = .returned (.bool true) ∧ Below w.heap.size w w' := by
  obtain ⟨a0, c0, a1, c1, rfl, hfit, k0, k1⟩ := hR
  obtain ⟨p0, q0, p1, q1, rfl, _, m0, m1⟩ := hU
  have N0 := k0.1.len
  have K0 := Lib.hid (fun w' (hb : Below w.heap.size w w') => k0.kept (Kept.below hb))
  have M0 := Lib.hid (fun w' (hb : Below w.heap.size w w') => m0.kept (Kept.below hb))
  clear k0 m0
  have N1 := k1.len
  have K1 := Lib.hid (fun w' (hb : Below w.heap.size w w') => k1.kept (Kept.below hb))
  have M1 := Lib.hid (fun w' (hb : Below w.heap.size w w') => m1.kept (Kept.below hb))
  clear k1 m1
  have e_name : (!(x.name.toList == x.name.toList)) = false := by simp
  have e_table : (!(x.table.toList == x.table.toList)) = false := by simp
  go_enter Tryz.func84, Tryz.ntmps84
  go_wp2_with fail
  refine (eqSs a0 p0 c0 q0 x.cols _ (K0.out _ (by ((repeat (first | refine Below.alloc ?_ (by first | omega | (simp; done) | (simp; omega)) _ | refine Below.setCell ?_ (by first | omega | (simp; done) | (simp; omega)) _)); first | exact Below.refl _ _ | exact Below.refl _ _))) (M0.out _ (by ((repeat (first | refine Below.alloc ?_ (by first | omega | (simp; done) | (simp; omega)) _ | refine Below.setCell ?_ (by first | omega | (simp; done) | (simp; omega)) _)); first | exact Below.refl _ _ | exact Below.refl _ _)))).mono ?_
  rintro e w0 ⟨rfl, b0⟩
  have B0 := Lib.hid (show Below w.heap.size w w0 from Below.call b0 (by ((repeat (first | refine Below.alloc ?_ (by first | omega | (simp; done) | (simp; omega)) _ | refine Below.setCell ?_ (by first | omega | (simp; done) | (simp; omega)) _)); first | exact Below.refl _ _ | exact Below.refl _ _)))
  have A0 := Lib.hid (show Blk w0 w.heap.size [.string x.name, .string x.table, .slice a0 x.cols.length c0, .slice a1 x.whr.length c1] from Blk.call b0 ((blk_new w _ [.string x.name, .string x.table, .slice a0 x.cols.length c0, .slice a1 x.whr.length c1]).alloc _))
  have Y0 := Lib.hid (show Blk w0 (w.heap.size + 1) [.string x.name, .string x.table, .slice p0 x.cols.length q0, .slice p1 x.whr.length q1] from Blk.call b0 (blk_new' (w := w.alloc _) (b := w.heap.size + 1) (by simp) _ [.string x.name, .string x.table, .slice p0 x.cols.length q0, .slice p1 x.whr.length q1]))
  clear b0
  have g0_0 : w0.cell? ⟨w.heap.size, 0, none⟩ = some (.string x.name) := (A0.out.2 0 (by simp)).1
  have y0_0 : w0.cell? ⟨w.heap.size + 1, 0, none⟩ = some (.string x.name) := (Y0.out.2 0 (by simp)).1
  have g0_1 : w0.cell? ⟨w.heap.size, 1, none⟩ = some (.string x.table) := (A0.out.2 1 (by simp)).1
  have y0_1 : w0.cell? ⟨w.heap.size + 1, 1, none⟩ = some (.string x.table) := (Y0.out.2 1 (by simp)).1
  have g0_2 : w0.cell? ⟨w.heap.size, 2, none⟩ = some (.slice a0 x.cols.length c0) := (A0.out.2 2 (by simp)).1
  have y0_2 : w0.cell? ⟨w.heap.size + 1, 2, none⟩ = some (.slice p0 x.cols.length q0) := (Y0.out.2 2 (by simp)).1
  have g0_3 : w0.cell? ⟨w.heap.size, 3, none⟩ = some (.slice a1 x.whr.length c1) := (A0.out.2 3 (by simp)).1
  have y0_3 : w0.cell? ⟨w.heap.size + 1, 3, none⟩ = some (.slice p1 x.whr.length q1) := (Y0.out.2 3 (by simp)).1
  go_wp2_with fail
  refine (eqKs a1 p1 c1 q1 x.whr _ (K1.out _ B0.out) (M1.out _ B0.out)).mono ?_
  rintro e w1 ⟨rfl, b1⟩
  have B1 := Lib.hid (Below.call b1 B0.out)
  have A1 := Lib.hid (show Blk w1 w.heap.size [.string x.name, .string x.table, .slice a0 x.cols.length c0, .slice a1 x.whr.length c1] from Blk.call b1 (A0.out))
  have Y1 := Lib.hid (show Blk w1 (w.heap.size + 1) [.string x.name, .string x.table, .slice p0 x.cols.length q0, .slice p1 x.whr.length q1] from Blk.call b1 (Y0.out))
  clear b1
  clear g0_0 g0_1 g0_2 g0_3 y0_0 y0_1 y0_2 y0_3
  have g1_0 : w1.cell? ⟨w.heap.size, 0, none⟩ = some (.string x.name) := (A1.out.2 0 (by simp)).1
  have y1_0 : w1.cell? ⟨w.heap.size + 1, 0, none⟩ = some (.string x.name) := (Y1.out.2 0 (by simp)).1
  have g1_1 : w1.cell? ⟨w.heap.size, 1, none⟩ = some (.string x.table) := (A1.out.2 1 (by simp)).1
  have y1_1 : w1.cell? ⟨w.heap.size + 1, 1, none⟩ = some (.string x.table) := (Y1.out.2 1 (by simp)).1
  have g1_2 : w1.cell? ⟨w.heap.size, 2, none⟩ = some (.slice a0 x.cols.length c0) := (A1.out.2 2 (by simp)).1
  have y1_2 : w1.cell? ⟨w.heap.size + 1, 2, none⟩ = some (.slice p0 x.cols.length q0) := (Y1.out.2 2 (by simp)).1
  have g1_3 : w1.cell? ⟨w.heap.size, 3, none⟩ = some (.slice a1 x.whr.length c1) := (A1.out.2 3 (by simp)).1
  have y1_3 : w1.cell? ⟨w.heap.size + 1, 3, none⟩ = some (.slice p1 x.whr.length q1) := (Y1.out.2 3 (by simp)).1
  go_wp2_with fail
  go_ret
  exact ⟨rfl, B1.out⟩

set_option maxHeartbeats 2000000 in
theorem eqVwS (a a' : Option Addr) (c c' : Nat) (xs : List Vw) (w : World) (hx : Sl 4 RVw 0 w a c xs) (hy : Sl 4 RVw 0 w a' c' xs) :
    Calls Tryz.prog 40 #[.slice a xs.length c, .slice a' xs.length c'] w fun e w' => e = .returned (.bool true) ∧ Below w.heap.size w w' := by
  have hl := hx.len
  have hne : (((xs.length : Int)) != (xs.length : Int)) = false := by simp
  have HX := Lib.hid (fun w' (hb : Below w.heap.size w w') => hx.kept goodVw (Kept.below hb))
  have HY := Lib.hid (fun w' (hb : Below w.heap.size w w') => hy.kept goodVw (Kept.below hb))
  clear hx hy
  go_enter Tryz.func40, Tryz.ntmps40
  go_wp2
  go_loopw [5] (fun i wr => ∃ k : Nat, k ≤ xs.length ∧ i = .int .i64 k ∧ Below w.heap.size w wr) (fun i _ => xs.length - (intOf i).toNat)
  case atStart => exact ⟨0, Nat.zero_le _, rfl, Below.refl _ _⟩
  case round =>
    obtain ⟨k, hk, rfl, hbw⟩ := hrel
    by_cases hlt : k < xs.length
    · obtain ⟨b, off, vs, rfl, hbl, hcs, hR⟩ := (HX.out _ hbw).spot hlt
      obtain ⟨b', off', us, rfl, hbl', hds, hU⟩ := (HY.out _ hbw).spot hlt
      have HR := hR
      have HU := hU
      obtain ⟨a0, c0, a1, c1, rfl, _⟩ := hR
      obtain ⟨p0, q0, p1, q1, rfl, _⟩ := hU
      have hc0 : wr.cell? ⟨b, off + k * 4, none⟩ = some (.string xs[k].name) := hcs 0 (by simp)
      have hc1 : wr.cell? ⟨b, off + k * 4 + 1, none⟩ = some (.string xs[k].table) := hcs 1 (by simp)
      have hc2 : wr.cell? ⟨b, off + k * 4 + 2, none⟩ = some (.slice a0 xs[k].cols.length c0) := hcs 2 (by simp)
      have hc3 : wr.cell? ⟨b, off + k * 4 + 3, none⟩ = some (.slice a1 xs[k].whr.length c1) := hcs 3 (by simp)
      have hd0 : wr.cell? ⟨b', off' + k * 4, none⟩ = some (.string xs[k].name) := hds 0 (by simp)
      have hd1 : wr.cell? ⟨b', off' + k * 4 + 1, none⟩ = some (.string xs[k].table) := hds 1 (by simp)
      have hd2 : wr.cell? ⟨b', off' + k * 4 + 2, none⟩ = some (.slice p0 xs[k].cols.length q0) := hds 2 (by simp)
      have hd3 : wr.cell? ⟨b', off' + k * 4 + 3, none⟩ = some (.slice p1 xs[k].whr.length q1) := hds 3 (by simp)
      have h0k : (0 : Int) ≤ (k : Int) := by omega
      have hkl : (k : Int) < (xs.length : Int) := by omega
      have HA := Lib.hid (fun w' (hb : Below wr.heap.size wr w') => goodVw.kept HR (Kept.below hb))
      have HB := Lib.hid (fun w' (hb : Below wr.heap.size wr w') => goodVw.kept HU (Kept.below hb))
      clear HR HU hcs hds
      go_wp2_with fail
      go_region_held3 (fun w' => w'.cell? ⟨b, off + k * 4, none⟩ = some (.string xs[k].name) ∧ w'.cell? ⟨b, off + k * 4 + 1, none⟩ = some (.string xs[k].table) ∧ w'.cell? ⟨b, off + k * 4 + 2, none⟩ = some (.slice a0 xs[k].cols.length c0) ∧ w'.cell? ⟨b, off + k * 4 + 3, none⟩ = some (.slice a1 xs[k].whr.length c1) ∧ w'.cell? ⟨b', off' + k * 4, none⟩ = some (.string xs[k].name) ∧ w'.cell? ⟨b', off' + k * 4 + 1, none⟩ = some (.string xs[k].table) ∧ w'.cell? ⟨b', off' + k * 4 + 2, none⟩ = some (.slice p0 xs[k].cols.length q0) ∧ w'.cell? ⟨b', off' + k * 4 + 3, none⟩ = some (.slice p1 xs[k].whr.length q1)) (first | go_keep | exact ⟨(hcw _ _ hbl).trans hc0, (hcw _ _ hbl).trans hc1, (hcw _ _ hbl).trans hc2, (hcw _ _ hbl).trans hc3, (hcw _ _ hbl').trans hd0, (hcw _ _ hbl').trans hd1, (hcw _ _ hbl').trans hd2, (hcw _ _ hbl').trans hd3⟩)
        ((go_at_call 84; refine (eqVw _ _ xs[k] _ (HA.out _ (below_drewE (Below.refl _ _))) (HB.out _ (below_drewE (Below.refl _ _)))).mono ?_; rintro e w2 ⟨rfl, hb2⟩; obtain ⟨hcw, _⟩ := bcellE hb2))
      go_wp2_with fail
      go_roundw
      case rel => exact ⟨k + 1, by omega, by go_num, (below_drewE hbw).trans (hb2.mono hbw.size)⟩
      case measure => simp [intOf]; omega
    · go_wp2
      go_ret
      exact ⟨rfl, hbw⟩

end Go.Proofs.YtjjdcdnaonfnmaaGreat

namespace Go.Proofs.YtjjdcdnaonfnmaaGreat
open Go.RowKit

set_option maxHeartbeats 2000000 in
theorem eqPl (vs us : List Value) (x : Pl) (w : World) (hR : RPl 0 w vs x) (hU : RPl 0 w us x) :
    Calls Tryz.prog 11 #[.agg vs.toArray, .agg us.toArray] w fun e w' => e = .returned (.bool true) ∧ Below w.heap.size w w' := by
  obtain ⟨a0, c0, a1, c1, a2, c2, a3, c3, a4, c4, rfl, hfit, k0, k1, k2, k3, k4⟩ := hR
  obtain ⟨p0, q0, p1, q1, p2, q2, p3, q3, p4, q4, rfl, _, m0, m1, m2, m3, m4⟩ := hU
  have N0 := k0.len
  have K0 := Lib.hid (fun w' (hb : Below w.heap.size w w') => k0.kept goodLab (Kept.below hb))
  have M0 := Lib.hid (fun w' (hb : Below w.heap.size w w') => m0.kept goodLab (Kept.below hb))
  clear k0 m0
  have N1 := k1.len
  have K1 := Lib.hid (fun w' (hb : Below w.heap.size w w') => k1.kept goodSq (Kept.below hb))
  have M1 := Lib.hid (fun w' (hb : Below w.heap.size w w') => m1.kept goodSq (Kept.below hb))
  clear k1 m1
  have N2 := k2.len
  have K2 := Lib.hid (fun w' (hb : Below w.heap.size w w') => k2.kept goodTb (Kept.below hb))
  have M2 := Lib.hid (fun w' (hb : Below w.heap.size w w') => m2.kept goodTb (Kept.below hb))
  clear k2 m2
  have N3 := k3.len
  have K3 := Lib.hid (fun w' (hb : Below w.heap.size w w') => k3.kept goodIx (Kept.below hb))
  have M3 := Lib.hid (fun w' (hb : Below w.heap.size w w') => m3.kept goodIx (Kept.below hb))
  clear k3 m3
  have N4 := k4.len
  have K4 := Lib.hid (fun w' (hb : Below w.heap.size w w') => k4.kept goodVw (Kept.below hb))
  have M4 := Lib.hid (fun w' (hb : Below w.heap.size w w') => m4.kept goodVw (Kept.below hb))
  clear k4 m4
  have e_next : (x.next != x.next) = false := by simp
  go_enter Tryz.func11, Tryz.ntmps11
  go_wp2_with fail
  refine (eqLabS a0 p0 c0 q0 x.enums _ (K0.out _ (by ((repeat (first | refine Below.alloc ?_ (by first | omega | (simp; done) | (simp; omega)) _ | refine Below.setCell ?_ (by first | omega | (simp; done) | (simp; omega)) _)); first | exact Below.refl _ _ | exact Below.refl _ _))) (M0.out _ (by ((repeat (first | refine Below.alloc ?_ (by first | omega | (simp; done) | (simp; omega)) _ | refine Below.setCell ?_ (by first | omega | (simp; done) | (simp; omega)) _)); first | exact Below.refl _ _ | exact Below.refl _ _)))).mono ?_
  rintro e w0 ⟨rfl, b0⟩
  have B0 := Lib.hid (show Below w.heap.size w w0 from Below.call b0 (by ((repeat (first | refine Below.alloc ?_ (by first | omega | (simp; done) | (simp; omega)) _ | refine Below.setCell ?_ (by first | omega | (simp; done) | (simp; omega)) _)); first | exact Below.refl _ _ | exact Below.refl _ _)))
  have A0 := Lib.hid (show Blk w0 w.heap.size [.slice a0 x.enums.length c0, .slice a1 x.seqs.length c1, .slice a2 x.tables.length c2, .slice a3 x.indexes.length c3, .slice a4 x.views.length c4, .int .i64 x.next] from Blk.call b0 ((blk_new w _ [.slice a0 x.enums.length c0, .slice a1 x.seqs.length c1, .slice a2 x.tables.length c2, .slice a3 x.indexes.length c3, .slice a4 x.views.length c4, .int .i64 x.next]).alloc _))
  have Y0 := Lib.hid (show Blk w0 (w.heap.size + 1) [.slice p0 x.enums.length q0, .slice p1 x.seqs.length q1, .slice p2 x.tables.length q2, .slice p3 x.indexes.length q3, .slice p4 x.views.length q4, .int .i64 x.next] from Blk.call b0 (blk_new' (w := w.alloc _) (b := w.heap.size + 1) (by simp) _ [.slice p0 x.enums.length q0, .slice p1 x.seqs.length q1, .slice p2 x.tables.length q2, .slice p3 x.indexes.length q3, .slice p4 x.views.length q4, .int .i64 x.next]))
  clear b0
  have g0_0 : w0.cell? ⟨w.heap.size, 0, none⟩ = some (.slice a0 x.enums.length c0) := (A0.out.2 0 (by simp)).1
  have y0_0 : w0.cell? ⟨w.heap.size + 1, 0, none⟩ = some (.slice p0 x.enums.length q0) := (Y0.out.2 0 (by simp)).1
  have g0_1 : w0.cell? ⟨w.heap.size, 1, none⟩ = some (.slice a1 x.seqs.length c1) := (A0.out.2 1 (by simp)).1
  have y0_1 : w0.cell? ⟨w.heap.size + 1, 1, none⟩ = some (.slice p1 x.seqs.length q1) := (Y0.out.2 1 (by simp)).1
  have g0_2 : w0.cell? ⟨w.heap.size, 2, none⟩ = some (.slice a2 x.tables.length c2) := (A0.out.2 2 (by simp)).1
  have y0_2 : w0.cell? ⟨w.heap.size + 1, 2, none⟩ = some (.slice p2 x.tables.length q2) := (Y0.out.2 2 (by simp)).1
  have g0_3 : w0.cell? ⟨w.heap.size, 3, none⟩ = some (.slice a3 x.indexes.length c3) := (A0.out.2 3 (by simp)).1
  have y0_3 : w0.cell? ⟨w.heap.size + 1, 3, none⟩ = some (.slice p3 x.indexes.length q3) := (Y0.out.2 3 (by simp)).1
  have g0_4 : w0.cell? ⟨w.heap.size, 4, none⟩ = some (.slice a4 x.views.length c4) := (A0.out.2 4 (by simp)).1
  have y0_4 : w0.cell? ⟨w.heap.size + 1, 4, none⟩ = some (.slice p4 x.views.length q4) := (Y0.out.2 4 (by simp)).1
  have g0_5 : w0.cell? ⟨w.heap.size, 5, none⟩ = some (.int .i64 x.next) := (A0.out.2 5 (by simp)).1
  have y0_5 : w0.cell? ⟨w.heap.size + 1, 5, none⟩ = some (.int .i64 x.next) := (Y0.out.2 5 (by simp)).1
  go_wp2_with fail
  refine (eqSqS a1 p1 c1 q1 x.seqs _ (K1.out _ B0.out) (M1.out _ B0.out)).mono ?_
  rintro e w1 ⟨rfl, b1⟩
  have B1 := Lib.hid (Below.call b1 B0.out)
  have A1 := Lib.hid (show Blk w1 w.heap.size [.slice a0 x.enums.length c0, .slice a1 x.seqs.length c1, .slice a2 x.tables.length c2, .slice a3 x.indexes.length c3, .slice a4 x.views.length c4, .int .i64 x.next] from Blk.call b1 (A0.out))
  have Y1 := Lib.hid (show Blk w1 (w.heap.size + 1) [.slice p0 x.enums.length q0, .slice p1 x.seqs.length q1, .slice p2 x.tables.length q2, .slice p3 x.indexes.length q3, .slice p4 x.views.length q4, .int .i64 x.next] from Blk.call b1 (Y0.out))
  clear b1
  clear g0_0 g0_1 g0_2 g0_3 g0_4 g0_5 y0_0 y0_1 y0_2 y0_3 y0_4 y0_5
  have g1_0 : w1.cell? ⟨w.heap.size, 0, none⟩ = some (.slice a0 x.enums.length c0) := (A1.out.2 0 (by simp)).1
  have y1_0 : w1.cell? ⟨w.heap.size + 1, 0, none⟩ = some (.slice p0 x.enums.length q0) := (Y1.out.2 0 (by simp)).1
  have g1_1 : w1.cell? ⟨w.heap.size, 1, none⟩ = some (.slice a1 x.seqs.length c1) := (A1.out.2 1 (by simp)).1
  have y1_1 : w1.cell? ⟨w.heap.size + 1, 1, none⟩ = some (.slice p1 x.seqs.length q1) := (Y1.out.2 1 (by simp)).1
  have g1_2 : w1.cell? ⟨w.heap.size, 2, none⟩ = some (.slice a2 x.tables.length c2) := (A1.out.2 2 (by simp)).1
  have y1_2 : w1.cell? ⟨w.heap.size + 1, 2, none⟩ = some (.slice p2 x.tables.length q2) := (Y1.out.2 2 (by simp)).1
  have g1_3 : w1.cell? ⟨w.heap.size, 3, none⟩ = some (.slice a3 x.indexes.length c3) := (A1.out.2 3 (by simp)).1
  have y1_3 : w1.cell? ⟨w.heap.size + 1, 3, none⟩ = some (.slice p3 x.indexes.length q3) := (Y1.out.2 3 (by simp)).1
  have g1_4 : w1.cell? ⟨w.heap.size, 4, none⟩ = some (.slice a4 x.views.length c4) := (A1.out.2 4 (by simp)).1
  have y1_4 : w1.cell? ⟨w.heap.size + 1, 4, none⟩ = some (.slice p4 x.views.length q4) := (Y1.out.2 4 (by simp)).1
  have g1_5 : w1.cell? ⟨w.heap.size, 5, none⟩ = some (.int .i64 x.next) := (A1.out.2 5 (by simp)).1
  have y1_5 : w1.cell? ⟨w.heap.size + 1, 5, none⟩ = some (.int .i64 x.next) := (Y1.out.2 5 (by simp)).1
  go_wp2_with fail
  refine (eqTbS a2 p2 c2 q2 x.tables _ (K2.out _ B1.out) (M2.out _ B1.out)).mono ?_
  rintro e w2 ⟨rfl, b2⟩
  have B2 := Lib.hid (Below.call b2 B1.out)
  have A2 := Lib.hid (show Blk w2 w.heap.size [.slice a0 x.enums.length c0, .slice a1 x.seqs.length c1, .slice a2 x.tables.length c2, .slice a3 x.indexes.length c3, .slice a4 x.views.length c4, .int .i64 x.next] from Blk.call b2 (A1.out))
  have Y2 := Lib.hid (show Blk w2 (w.heap.size + 1) [.slice p0 x.enums.length q0, .slice p1 x.seqs.length q1, .slice p2 x.tables.length q2, .slice p3 x.indexes.length q3, .slice p4 x.views.length q4, .int .i64 x.next] from Blk.call b2 (Y1.out))
  clear b2
  clear g1_0 g1_1 g1_2 g1_3 g1_4 g1_5 y1_0 y1_1 y1_2 y1_3 y1_4 y1_5
  have g2_0 : w2.cell? ⟨w.heap.size, 0, none⟩ = some (.slice a0 x.enums.length c0) := (A2.out.2 0 (by simp)).1
  have y2_0 : w2.cell? ⟨w.heap.size + 1, 0, none⟩ = some (.slice p0 x.enums.length q0) := (Y2.out.2 0 (by simp)).1
  have g2_1 : w2.cell? ⟨w.heap.size, 1, none⟩ = some (.slice a1 x.seqs.length c1) := (A2.out.2 1 (by simp)).1
  have y2_1 : w2.cell? ⟨w.heap.size + 1, 1, none⟩ = some (.slice p1 x.seqs.length q1) := (Y2.out.2 1 (by simp)).1
  have g2_2 : w2.cell? ⟨w.heap.size, 2, none⟩ = some (.slice a2 x.tables.length c2) := (A2.out.2 2 (by simp)).1
  have y2_2 : w2.cell? ⟨w.heap.size + 1, 2, none⟩ = some (.slice p2 x.tables.length q2) := (Y2.out.2 2 (by simp)).1
  have g2_3 : w2.cell? ⟨w.heap.size, 3, none⟩ = some (.slice a3 x.indexes.length c3) := (A2.out.2 3 (by simp)).1
  have y2_3 : w2.cell? ⟨w.heap.size + 1, 3, none⟩ = some (.slice p3 x.indexes.length q3) := (Y2.out.2 3 (by simp)).1
  have g2_4 : w2.cell? ⟨w.heap.size, 4, none⟩ = some (.slice a4 x.views.length c4) := (A2.out.2 4 (by simp)).1
  have y2_4 : w2.cell? ⟨w.heap.size + 1, 4, none⟩ = some (.slice p4 x.views.length q4) := (Y2.out.2 4 (by simp)).1
  have g2_5 : w2.cell? ⟨w.heap.size, 5, none⟩ = some (.int .i64 x.next) := (A2.out.2 5 (by simp)).1
  have y2_5 : w2.cell? ⟨w.heap.size + 1, 5, none⟩ = some (.int .i64 x.next) := (Y2.out.2 5 (by simp)).1
  go_wp2_with fail
  refine (eqIxS a3 p3 c3 q3 x.indexes _ (K3.out _ B2.out) (M3.out _ B2.out)).mono ?_
  rintro e w3 ⟨rfl, b3⟩
  have B3 := Lib.hid (Below.call b3 B2.out)
  have A3 := Lib.hid (show Blk w3 w.heap.size [.slice a0 x.enums.length c0, .slice a1 x.seqs.length c1, .slice a2 x.tables.length c2, .slice a3 x.indexes.length c3, .slice a4 x.views.length c4, .int .i64 x.next] from Blk.call b3 (A2.out))
  have Y3 := Lib.hid (show Blk w3 (w.heap.size + 1) [.slice p0 x.enums.length q0, .slice p1 x.seqs.length q1, .slice p2 x.tables.length q2, .slice p3 x.indexes.length q3, .slice p4 x.views.length q4, .int .i64 x.next] from Blk.call b3 (Y2.out))
  clear b3
  clear g2_0 g2_1 g2_2 g2_3 g2_4 g2_5 y2_0 y2_1 y2_2 y2_3 y2_4 y2_5
  have g3_0 : w3.cell? ⟨w.heap.size, 0, none⟩ = some (.slice a0 x.enums.length c0) := (A3.out.2 0 (by simp)).1
  have y3_0 : w3.cell? ⟨w.heap.size + 1, 0, none⟩ = some (.slice p0 x.enums.length q0) := (Y3.out.2 0 (by simp)).1
  have g3_1 : w3.cell? ⟨w.heap.size, 1, none⟩ = some (.slice a1 x.seqs.length c1) := (A3.out.2 1 (by simp)).1
  have y3_1 : w3.cell? ⟨w.heap.size + 1, 1, none⟩ = some (.slice p1 x.seqs.length q1) := (Y3.out.2 1 (by simp)).1
  have g3_2 : w3.cell? ⟨w.heap.size, 2, none⟩ = some (.slice a2 x.tables.length c2) := (A3.out.2 2 (by simp)).1
  have y3_2 : w3.cell? ⟨w.heap.size + 1, 2, none⟩ = some (.slice p2 x.tables.length q2) := (Y3.out.2 2 (by simp)).1
  have g3_3 : w3.cell? ⟨w.heap.size, 3, none⟩ = some (.slice a3 x.indexes.length c3) := (A3.out.2 3 (by simp)).1
  have y3_3 : w3.cell? ⟨w.heap.size + 1, 3, none⟩ = some (.slice p3 x.indexes.length q3) := (Y3.out.2 3 (by simp)).1
  have g3_4 : w3.cell? ⟨w.heap.size, 4, none⟩ = some (.slice a4 x.views.length c4) := (A3.out.2 4 (by simp)).1
  have y3_4 : w3.cell? ⟨w.heap.size + 1, 4, none⟩ = some (.slice p4 x.views.length q4) := (Y3.out.2 4 (by simp)).1
  have g3_5 : w3.cell? ⟨w.heap.size, 5, none⟩ = some (.int .i64 x.next) := (A3.out.2 5 (by simp)).1
  have y3_5 : w3.cell? ⟨w.heap.size + 1, 5, none⟩ = some (.int .i64 x.next) := (Y3.out.2 5 (by simp)).1
  go_wp2_with fail
  refine (eqVwS a4 p4 c4 q4 x.views _ (K4.out _ B3.out) (M4.out _ B3.out)).mono ?_
  rintro e w4 ⟨rfl, b4⟩
  have B4 := Lib.hid (Below.call b4 B3.out)
  have A4 := Lib.hid (show Blk w4 w.heap.size [.slice a0 x.enums.length c0, .slice a1 x.seqs.length c1, .slice a2 x.tables.length c2, .slice a3 x.indexes.length c3, .slice a4 x.views.length c4, .int .i64 x.next] from Blk.call b4 (A3.out))
  have Y4 := Lib.hid (show Blk w4 (w.heap.size + 1) [.slice p0 x.enums.length q0, .slice p1 x.seqs.length q1, .slice p2 x.tables.length q2, .slice p3 x.indexes.length q3, .slice p4 x.views.length q4, .int .i64 x.next] from Blk.call b4 (Y3.out))
  clear b4
  clear g3_0 g3_1 g3_2 g3_3 g3_4 g3_5 y3_0 y3_1 y3_2 y3_3 y3_4 y3_5
  have g4_0 : w4.cell? ⟨w.heap.size, 0, none⟩ = some (.slice a0 x.enums.length c0) := (A4.out.2 0 (by simp)).1
  have y4_0 : w4.cell? ⟨w.heap.size + 1, 0, none⟩ = some (.slice p0 x.enums.length q0) := (Y4.out.2 0 (by simp)).1
  have g4_1 : w4.cell? ⟨w.heap.size, 1, none⟩ = some (.slice a1 x.seqs.length c1) := (A4.out.2 1 (by simp)).1
  have y4_1 : w4.cell? ⟨w.heap.size + 1, 1, none⟩ = some (.slice p1 x.seqs.length q1) := (Y4.out.2 1 (by simp)).1
  have g4_2 : w4.cell? ⟨w.heap.size, 2, none⟩ = some (.slice a2 x.tables.length c2) := (A4.out.2 2 (by simp)).1
  have y4_2 : w4.cell? ⟨w.heap.size + 1, 2, none⟩ = some (.slice p2 x.tables.length q2) := (Y4.out.2 2 (by simp)).1
  have g4_3 : w4.cell? ⟨w.heap.size, 3, none⟩ = some (.slice a3 x.indexes.length c3) := (A4.out.2 3 (by simp)).1
  have y4_3 : w4.cell? ⟨w.heap.size + 1, 3, none⟩ = some (.slice p3 x.indexes.length q3) := (Y4.out.2 3 (by simp)).1
  have g4_4 : w4.cell? ⟨w.heap.size, 4, none⟩ = some (.slice a4 x.views.length c4) := (A4.out.2 4 (by simp)).1
  have y4_4 : w4.cell? ⟨w.heap.size + 1, 4, none⟩ = some (.slice p4 x.views.length q4) := (Y4.out.2 4 (by simp)).1
  have g4_5 : w4.cell? ⟨w.heap.size, 5, none⟩ = some (.int .i64 x.next) := (A4.out.2 5 (by simp)).1
  have y4_5 : w4.cell? ⟨w.heap.size + 1, 5, none⟩ = some (.int .i64 x.next) := (Y4.out.2 5 (by simp)).1
  go_wp2_with fail
  go_ret
  exact ⟨rfl, B4.out⟩

end Go.Proofs.YtjjdcdnaonfnmaaGreat

namespace Go.Proofs.YtjjdcdnaonfnmaaGreat
open Go.RowKit

/-- n marks from k on. -/
def marks (k n : Nat) : List ByteArray := (List.range n).map fun i => markT (k + i)
@[simp] theorem marks_length (k n : Nat) : (marks k n).length = n := by simp [marks]
theorem marks_at (k n i : Nat) (h : i < n) : (marks k n)[i]'(by simpa using h) = markT (k + i) := by simp [marks]
theorem marks_succ (k n : Nat) : marks k (n + 1) = marks k n ++ [markT (k + n)] := by simp [marks, List.range_succ]

theorem marks_sizes (k n : Nat) (h : k + n ≤ 33554432) : ∀ s ∈ marks k n, s.size ≤ maxLen := by
  intro s hs
  obtain ⟨i, hi, rfl⟩ := List.mem_map.1 hs
  have := markT_size (k + i)
  have := List.mem_range.1 hi
  unfold maxLen
  omega

/-- The texts xs, the first i of them marked. -/
def marked (xs : List ByteArray) (k i : Nat) : List Value := (marks k i ++ xs.drop i).map Value.string

theorem marked_set (xs : List ByteArray) (k i : Nat) (h : i < xs.length) : (marked xs k i).set i (.string (markT (k + i))) = marked xs k (i + 1) := by
  unfold marked
  rw [List.map_append, List.set_append_right _ _ (by simp), marks_succ, List.drop_eq_getElem_cons h]
  simp only [List.length_map, marks_length, Nat.sub_self, List.map_cons, List.set_cons_zero, List.map_append, List.map_nil, List.append_assoc, List.singleton_append]

theorem marked_at (xs : List ByteArray) (k i : Nat) (h : i < xs.length) : ∃ s, (marked xs k i)[i]? = some (.string s) := by
  unfold marked
  rw [List.map_append, List.getElem?_append_right (by simp), List.drop_eq_getElem_cons h]
  exact ⟨xs[i], by simp⟩

theorem marked_all (xs : List ByteArray) (k : Nat) : marked xs k xs.length = (marks k xs.length).map Value.string := by simp [marked]
theorem marked_none (xs : List ByteArray) (k : Nat) : marked xs k 0 = xs.map Value.string := by simp [marked, marks]

theorem grown_below_set {w wr w2 : World} {g : Nat} (h : w.grownBy wr (some g)) (hb : Below wr.heap.size wr w2) (i : Nat) (u : Value) : w.grownBy (w2.setCell ⟨g, i, none⟩ u) (some g) :=
  ⟨by rw [← h.os, ← hb.os]; rfl, by rw [← h.tape, ← hb.tape]; rfl, by rw [← h.output, ← hb.output]; rfl, by have h1 := h.size; have h2 := hb.size; simp [World.setCell]; omega,
   fun k hk hne => by rw [Below.heap_setCell _ _ _ _ (fun e => hne (by rw [e])), hb.block k (Nat.lt_of_lt_of_le hk h.size), h.block k hk hne]⟩

/-- The end of a marking. -/
def Marked (w : World) (B : Nat) (a : Option Addr) (c k n : Nat) (e : Ending) (w' : World) : Prop :=
  e = .returned (.int .i64 ((k + n : Nat) : Int)) ∧ Own w' B a c (marks k n) ∧ w.grownBy w' (Value.slice a n c).ownBlock

set_option maxHeartbeats 400000 in
theorem markStrs (a : Option Addr) (c : Nat) (xs : List ByteArray) (k B : Nat) (w : World) (hx : Own w B a c xs) (hk1 : 1 ≤ k) (hk2 : k ≤ 16) (hn : xs.length ≤ 8388608) :
    Calls Tryz.prog 13 #[.slice a xs.length c, .int .i64 (k : Int)] w (Marked w B a c k xs.length) := by
  go_enter Tryz.func13, Tryz.ntmps13
  go_wp2
  go_loopw [1, 5] (fun q i wr => ∃ j : Nat, j ≤ xs.length ∧ i = .int .i64 j ∧ q = .int .i64 ((k + j : Nat) : Int) ∧ wr.ownsRow B 9 1 (.slice a xs.length c) xs.length (marked xs k j) ∧ w.grownBy wr (Value.slice a xs.length c).ownBlock) (fun _ i _ => xs.length - (intOf i).toNat)
  case atStart => exact ⟨0, Nat.zero_le _, rfl, rfl, by rw [marked_none]; exact hx, World.grownBy.refl _ _⟩
  case round =>
    obtain ⟨j, hj, rfl, rfl, hown, hg⟩ := hrel
    by_cases hlt : j < xs.length
    · rcases hx.form with ⟨_, _, h0⟩ | ⟨g, rfl, hBg, hgl⟩
      · subst h0; simp at hlt
      obtain ⟨s0, hs0⟩ := marked_at xs k j hlt
      have hcell : wr.cell? ⟨g, j, none⟩ = some (.string s0) := (hown.cellAt j (by omega)).trans hs0
      have hfz : wr.frozen? ⟨g, j, none⟩ = false := hown.frozenAt j
      have hglr : g < wr.heap.size := Nat.lt_of_lt_of_le hgl hg.size
      clear hs0
      have HX := Lib.hid hx
      clear hx
      go_wp2_with (go_at_call 46; refine (markText (k + j) _ (by omega) (by omega)).mono ?_; rintro e w2 ⟨rfl, hb2⟩; have hc2 : w2.cell? ⟨g, j, none⟩ = some (.string s0) := (hb2.cell (p := ⟨g, j, none⟩) hglr).trans hcell; have hf2 : w2.frozen? ⟨g, j, none⟩ = false := (hb2.frozen (p := ⟨g, j, none⟩) hglr).trans hfz)
      go_roundw
      case rel =>
        have hown2 : w2.ownsRow B 9 1 (.slice (some ⟨g, 0, none⟩) xs.length c) xs.length (marked xs k j) := hown.kept (row := none) ⟨hb2.os, hb2.tape, hb2.output, hb2.size, fun i hi _ => hb2.block i hi⟩ (.inr (by simp [Value.ownBlock]))
        have R := (hown2.stored j (.string (markT (k + j)))).1
        rw [marked_set xs k j hlt] at R
        exact ⟨j + 1, by omega, by go_num, by go_num, R, grown_below_set hg hb2 j _⟩
      case measure => simp [intOf]; omega
    · obtain rfl : j = xs.length := by omega
      rw [marked_all] at hown
      go_wp2
      go_ret
      exact ⟨rfl, by unfold Own; simpa using hown, hg⟩

set_option maxHeartbeats 400000 in
theorem heldStrs (a : Option Addr) (c k n : Nat) (w : World) (hx : Strs w a c (marks k n)) (hk1 : 1 ≤ k) (hk2 : k ≤ 16) (hn : n ≤ 8388608) :
    Calls Tryz.prog 14 #[.slice a n c, .int .i64 (k : Int)] w fun e w' => e = .returned (.int .i64 ((k + n : Nat) : Int)) ∧ Below w.heap.size w w' := by
  go_enter Tryz.func14, Tryz.ntmps14
  go_wp2
  go_loopw [1, 5] (fun q i wr => ∃ j : Nat, j ≤ n ∧ i = .int .i64 j ∧ q = .int .i64 ((k + j : Nat) : Int) ∧ Below w.heap.size w wr) (fun _ i _ => n - (intOf i).toNat)
  case atStart => exact ⟨0, Nat.zero_le _, rfl, rfl, Below.refl _ _⟩
  case round =>
    obtain ⟨j, hj, rfl, rfl, hb⟩ := hrel
    by_cases hlt : j < n
    · obtain ⟨b, off, rfl, hbl, hc⟩ := (hx.below hb).spot (k := j) (by simpa using hlt)
      rw [marks_at k n j hlt] at hc
      have hs : (!((markT (k + j)).toList == (markT (k + j)).toList)) = false := by simp
      go_wp2_with fail
      go_region_held3 (fun w' => w'.cell? ⟨b, off + j, none⟩ = some (.string (markT (k + j)))) (first | exact hc | exact (hb2.cell (p := ⟨b, off + j, none⟩) hbl).trans hc)
        (first | (go_at_call 46; refine (markText (k + j) _ (by omega) (by omega)).mono ?_; rintro e w2 ⟨rfl, hb2⟩))
      have hbb : Below w.heap.size w w2 := hb.drew.trans (hb2.mono hb.size)
      clear hb2
      go_wp2
      go_roundw
      case rel => exact ⟨j + 1, by omega, by go_num, by go_num, hbb⟩
      case measure => simp [intOf]; omega
    · go_wp2
      go_ret
      obtain rfl : j = n := by omega
      exact ⟨rfl, hb⟩

end Go.Proofs.YtjjdcdnaonfnmaaGreat

namespace Go.Proofs.YtjjdcdnaonfnmaaGreat
open Go.RowKit

def Marked1 (w : World) (B : Nat) (a : Option Addr) (c n : Nat) (e : Ending) (w' : World) : Prop :=
  e = .returned (.int .i64 (1 + (n : Int))) ∧ Own w' B a c (marks 1 n) ∧ w.grownBy w' (Value.slice a n c).ownBlock

theorem markStrs1 (a : Option Addr) (c : Nat) (xs : List ByteArray) (B : Nat) (w : World) (hx : Own w B a c xs) (hn : xs.length ≤ 8388608) :
    Calls Tryz.prog 13 #[.slice a xs.length c, .int .i64 1] w (Marked1 w B a c xs.length) := by
  refine (markStrs a c xs 1 B w hx (by omega) (by omega) hn).mono ?_
  rintro e w' ⟨rfl, h⟩
  exact ⟨congrArg (fun z => Ending.returned (Value.int .i64 z)) (by omega), h⟩

theorem heldStrs1 (a : Option Addr) (c n : Nat) (w : World) (hx : Strs w a c (marks 1 n)) (hn : n ≤ 8388608) :
    Calls Tryz.prog 14 #[.slice a n c, .int .i64 1] w fun e w' => e = .returned (.int .i64 (1 + (n : Int))) ∧ Below w.heap.size w w' := by
  refine (heldStrs a c 1 n w hx (by omega) (by omega) hn).mono ?_
  rintro e w' ⟨rfl, h⟩
  exact ⟨congrArg (fun z => Ending.returned (Value.int .i64 z)) (by omega), h⟩

/-- A slice of the call's own in blocks from lo to hi. -/
def OwnAt (w : World) (lo hi : Nat) (a : Option Addr) (c : Nat) (xs : List ByteArray) : Prop :=
  Own w lo a c xs ∧ ∀ g, (Value.slice a xs.length c).ownBlock = some g → g < hi

theorem Own.at_ {w : World} {lo : Nat} {a : Option Addr} {c : Nat} {xs : List ByteArray} (h : Own w lo a c xs) : OwnAt w lo w.heap.size a c xs :=
  ⟨h, fun _ hg => (h.lt hg).2⟩

theorem OwnAt.below {w w' : World} {lo hi : Nat} {a : Option Addr} {c : Nat} {xs : List ByteArray} (h : OwnAt w lo hi a c xs) (hb : Below w.heap.size w w') : OwnAt w' lo hi a c xs :=
  ⟨h.1.below hb, h.2⟩

theorem OwnAt.grown {w w' : World} {lo hi : Nat} {a : Option Addr} {c : Nat} {xs : List ByteArray} {row : Option Nat} (h : OwnAt w lo hi a c xs) (hg : w.grownBy w' row)
    (hr : ∀ g, row = some g → g < lo ∨ hi ≤ g) : OwnAt w' lo hi a c xs :=
  ⟨h.1.kept hg (fun g hg' e => by have h1 := (h.1.lt hg').1; have h2 := h.2 g hg'; have h3 := hr g e; omega), h.2⟩

theorem leftOf_le {xs : List ByteArray} {left : Int} (h : ¬ leftOf xs left < 0) : (xs.length : Int) + lets xs ≤ left := by
  unfold leftOf at h
  split at h <;> omega

end Go.Proofs.YtjjdcdnaonfnmaaGreat

namespace Go.Proofs.YtjjdcdnaonfnmaaGreat.Plain

theorem less_drop : ∀ (k : Nat) (a b : List UInt8), k ≤ a.length → k ≤ b.length → a.take k = b.take k →
    Op.bytesLess a b = Op.bytesLess (a.drop k) (b.drop k)
  | 0, _, _, _, _, _ => rfl
  | k + 1, [], _, h, _, _ => absurd h (by simp)
  | k + 1, _ :: _, [], _, h, _ => absurd h (by simp)
  | k + 1, x :: a, y :: b, ha, hb, h => by
    simp only [List.take_succ_cons, List.cons.injEq] at h
    obtain ⟨rfl, h⟩ := h
    have ih := less_drop k a b (by simpa using ha) (by simpa using hb) h
    simp only [List.drop_succ_cons, ← ih]
    simp [Op.bytesLess]

theorem less_at (k : Nat) (a b : List UInt8) (ha : k < a.length) (hb : k < b.length) (h : a.take k = b.take k) (hne : a[k] ≠ b[k]) :
    Op.bytesLess a b = decide (a[k] < b[k]) := by
  rw [less_drop k a b (by omega) (by omega) h, List.drop_eq_getElem_cons ha, List.drop_eq_getElem_cons hb]
  simp [Op.bytesLess, hne]

theorem less_end (k : Nat) (a b : List UInt8) (ha : k ≤ a.length) (hb : k ≤ b.length) (h : a.take k = b.take k) (he : k = a.length ∨ k = b.length) :
    Op.bytesLess a b = decide (a.length < b.length) := by
  rw [less_drop k a b ha hb h]
  rcases he with he | he
  · subst he
    rw [List.drop_length]
    rcases hd : b.drop a.length with _ | ⟨y, r⟩
    · have := congrArg List.length hd
      simp at this
      simp [Op.bytesLess]; omega
    · have := congrArg List.length hd
      simp at this
      simp [Op.bytesLess]; omega
  · subst he
    rw [List.drop_length]
    rcases hd : a.drop b.length with _ | ⟨y, r⟩ <;> simp [Op.bytesLess] <;> omega

theorem take_more (k : Nat) (a b : List UInt8) (ha : k < a.length) (hb : k < b.length) (h : a.take k = b.take k) (he : a[k] = b[k]) :
    a.take (k + 1) = b.take (k + 1) := by
  rw [List.take_succ_eq_append_getElem ha, List.take_succ_eq_append_getElem hb, h, he]

end Go.Proofs.YtjjdcdnaonfnmaaGreat.Plain

namespace Go.Proofs.YtjjdcdnaonfnmaaGreat
open Go.RowKit

set_option maxHeartbeats 400000 in
theorem specBefore (a b : ByteArray) (w : World) (ha : a.size ≤ maxLen) (_hb : b.size ≤ maxLen) :
    Calls Tryz.prog 70 #[.string a, .string b] w fun e w' => e = .returned (.bool (Op.bytesLess a.toList b.toList)) ∧ ∃ n, w' = w.drewN n := by
  unfold maxLen at ha _hb
  go_enter Tryz.func70, Tryz.ntmps70
  go_wp2
  go_loopw [5] (fun i wr => ∃ (k n : Nat), k ≤ a.size ∧ k ≤ b.size ∧ i = .int .i64 k ∧ Hid (a.data.toList.take k = b.data.toList.take k) ∧ wr = w.drewN n) (fun i _ => a.size - (intOf i).toNat)
  case atStart => exact ⟨0, 0, Nat.zero_le _, Nat.zero_le _, rfl, rfl, rfl⟩
  case round =>
    obtain ⟨k, n, hka, hkb, rfl, heq, rfl⟩ := hrel
    by_cases hk1 : k < a.size
    · by_cases hk2 : k < b.size
      · have hla : k < a.data.toList.length := by simpa using hk1
        have hlb : k < b.data.toList.length := by simpa using hk2
        by_cases hc : a[k] = b[k]
        · have ht : ((a[k].toNat : Int) != (b[k].toNat : Int)) = false := by simp [hc]
          have H := Lib.hid (Plain.take_more k _ _ hla hlb heq.out (by exact hc))
          have Hc := Lib.hid hc
          clear hc
          go_wp2
          go_quiet (fail)
          go_wp2
          go_roundw
          case rel => exact ⟨k + 1, n + nq, by omega, by omega, by go_num, H, rfl⟩
          case measure => simp [intOf]; omega
        · have ht : ((a[k].toNat : Int) != (b[k].toNat : Int)) = true := by
            rw [bne_iff_ne]; intro h; exact hc (UInt8.toNat_inj.1 (by exact_mod_cast h))
          have H := Lib.hid (Plain.less_at k _ _ hla hlb heq.out (by exact hc))
          clear hc
          go_wp2
          go_quiet (fail)
          go_wp2
          go_quiet (fail)
          go_wp2
          go_ret
          refine ⟨?_, _, by rw [World.drewN_drewN, World.drewN_drewN]⟩
          rw [Lib.toList_data, Lib.toList_data, H.out]
          simp [UInt8.lt_iff_toNat_lt]
          exact Iff.rfl
      · have H := Lib.hid (Plain.less_end k a.data.toList b.data.toList (by simpa using hka) (by simpa using hkb) heq.out (.inr (by simp; omega)))
        go_wp2
        go_ret
        refine ⟨?_, _, rfl⟩
        rw [Lib.toList_data, Lib.toList_data, H.out]
        simp
    · have H := Lib.hid (Plain.less_end k a.data.toList b.data.toList (by simpa using hka) (by simpa using hkb) heq.out (.inl (by simp; omega)))
      go_wp2
      go_ret
      refine ⟨?_, _, rfl⟩
      rw [Lib.toList_data, Lib.toList_data, H.out]
      simp

end Go.Proofs.YtjjdcdnaonfnmaaGreat
