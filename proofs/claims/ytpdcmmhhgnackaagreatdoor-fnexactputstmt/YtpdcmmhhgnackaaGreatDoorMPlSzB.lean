/- The laws' own helpers over schemas (the size that is left): Col. Written by tools/gen_plan.py. -/
/- The laws' own helpers over schemas (the size that is left): Rule. Written by tools/gen_plan.py. -/
/- The laws' own helpers over statements (the size that is left). Written by tools/gen_stmt.py. -/
/- The laws' own helpers over schemas (the copy): Col. Written by tools/gen_plan.py. -/
import Derived.Test.YtpdcmmhhgnackaaGreatDoorMExSz
import Derived.Test.YtpdcmmhhgnackaaGreatDoorMPl
namespace Go.Proofs.YtpdcmmhhgnackaaGreatDoor
open Go.RowKit

set_option maxHeartbeats 2000000 in
theorem szCo (vs : List Value) (x : Co) (left : Int) (w : World) (hR : RCo 0 w vs x) (h0 : 0 ≤ left) (h1 : left ≤ 1048576) :
    Calls Tryz.prog 6 #[.agg vs.toArray, .int .i64 left] w fun e w' => e = .returned (.int .i64 (leftN x.wt left)) ∧ Below w.heap.size w w' := by
  obtain ⟨a0, c0, rfl, hfit, k0⟩ := hR
  have t_name : x.name.size ≤ 9223372036854775807 := by have : x.name.size ≤ maxLen := hfit.1; unfold maxLen at this; omega
  have t_ty : x.ty.name.size ≤ 9223372036854775807 := by have : x.ty.name.size ≤ maxLen := hfit.2.1; unfold maxLen at this; omega
  have K0 := Lib.hid (fun w' (hb : Below w.heap.size w w') => k0.kept (Kept.below hb))
  clear k0
  have HW := Lib.hid (show x.wt = x.name.size + x.ty.name.size + (x.dflt.length + wtL x.dflt) from rfl)
  go_enter Tryz.func6, Tryz.ntmps6
  by_cases q0 : left < ((x.name.size : Nat) : Int)
  · have H : Hid (leftN x.wt left = -1) := by unfold Hid leftN; rw [if_pos (by have := HW.out; omega)]
    have d0 : decide (left - ((x.name.size : Nat) : Int) < 0) = true := by simp; omega
    go_wp2_with fail
    go_ret
    exact ⟨by rw [H.out]; rfl, (Below.refl _ _).alloc (Nat.le_refl _) _⟩
  · have d0 : decide (left - ((x.name.size : Nat) : Int) < 0) = false := by simp; omega
    go_wp2_with fail
    refine (szTy0 x.ty.kind x.ty.len x.ty.name (left - ((x.name.size : Nat) : Int)) _ hfit.2.1 (by omega) (by omega)).mono ?_
    by_cases q1 : left - ((x.name.size : Nat) : Int) < ((x.ty.name.size : Nat) : Int)
    · have H : Hid (leftN x.wt left = -1) := by unfold Hid leftN; rw [if_pos (by have := HW.out; omega)]
      rw [show leftN x.ty.name.size (left - ((x.name.size : Nat) : Int)) = -1 from if_pos q1]
      rintro e w1 ⟨rfl, b1⟩
      have B1 := Lib.hid (Below.call b1 ((Below.refl _ _).alloc (Nat.le_refl _) _))
      clear b1
      go_wp2_with fail
      go_ret
      exact ⟨by rw [H.out]; rfl, B1.out⟩
    · have d1 : decide (left - ((x.name.size : Nat) : Int) - ((x.ty.name.size : Nat) : Int) < 0) = false := by simp; omega
      rw [show leftN x.ty.name.size (left - ((x.name.size : Nat) : Int)) = left - ((x.name.size : Nat) : Int) - ((x.ty.name.size : Nat) : Int) from if_neg q1]
      rintro e w1 ⟨rfl, b1⟩
      have B1 := Lib.hid (Below.call b1 ((Below.refl _ _).alloc (Nat.le_refl _) _))
      have A1 := Lib.hid (Blk.call b1 (blk_new w _ [.string x.name, .int .i64 x.ty.kind, .int .i64 x.ty.len, .string x.ty.name, .bool x.notNull, .slice a0 x.dflt.length c0]))
      clear b1
      have g1_0 : w1.cell? ⟨w.heap.size, 0, none⟩ = some (.string x.name) := (A1.out.2 0 (by simp)).1
      have g1_1 : w1.cell? ⟨w.heap.size, 1, none⟩ = some (.int .i64 x.ty.kind) := (A1.out.2 1 (by simp)).1
      have g1_2 : w1.cell? ⟨w.heap.size, 2, none⟩ = some (.int .i64 x.ty.len) := (A1.out.2 2 (by simp)).1
      have g1_3 : w1.cell? ⟨w.heap.size, 3, none⟩ = some (.string x.ty.name) := (A1.out.2 3 (by simp)).1
      have g1_4 : w1.cell? ⟨w.heap.size, 4, none⟩ = some (.bool x.notNull) := (A1.out.2 4 (by simp)).1
      have g1_5 : w1.cell? ⟨w.heap.size, 5, none⟩ = some (.slice a0 x.dflt.length c0) := (A1.out.2 5 (by simp)).1
      go_wp2_with fail
      refine (szKs a0 c0 x.dflt (left - ((x.name.size : Nat) : Int) - ((x.ty.name.size : Nat) : Int)) _ (K0.out _ ?_) (by omega) (by omega)).mono ?_
      · exact B1.out
      by_cases q2 : left - ((x.name.size : Nat) : Int) - ((x.ty.name.size : Nat) : Int) < (((x.dflt.length + wtL x.dflt) : Nat) : Int)
      · have H : Hid (leftN x.wt left = -1) := by unfold Hid leftN; rw [if_pos (by have := HW.out; omega)]
        rw [show leftN (x.dflt.length + wtL x.dflt) (left - ((x.name.size : Nat) : Int) - ((x.ty.name.size : Nat) : Int)) = -1 from if_pos q2]
        rintro e w2 ⟨rfl, b2⟩
        have B2 := Lib.hid (Below.call b2 B1.out)
        clear b2
        go_wp2_with fail
        go_ret
        exact ⟨by rw [H.out]; rfl, B2.out⟩
      · have d2 : decide (left - ((x.name.size : Nat) : Int) - ((x.ty.name.size : Nat) : Int) - (((x.dflt.length + wtL x.dflt) : Nat) : Int) < 0) = false := by simp; omega
        rw [show leftN (x.dflt.length + wtL x.dflt) (left - ((x.name.size : Nat) : Int) - ((x.ty.name.size : Nat) : Int)) = left - ((x.name.size : Nat) : Int) - ((x.ty.name.size : Nat) : Int) - (((x.dflt.length + wtL x.dflt) : Nat) : Int) from if_neg q2]
        rintro e w2 ⟨rfl, b2⟩
        have B2 := Lib.hid (Below.call b2 B1.out)
        have A2 := Lib.hid (Blk.call b2 A1.out)
        clear b2
        clear g1_0 g1_1 g1_2 g1_3 g1_4 g1_5
        have g2_0 : w2.cell? ⟨w.heap.size, 0, none⟩ = some (.string x.name) := (A2.out.2 0 (by simp)).1
        have g2_1 : w2.cell? ⟨w.heap.size, 1, none⟩ = some (.int .i64 x.ty.kind) := (A2.out.2 1 (by simp)).1
        have g2_2 : w2.cell? ⟨w.heap.size, 2, none⟩ = some (.int .i64 x.ty.len) := (A2.out.2 2 (by simp)).1
        have g2_3 : w2.cell? ⟨w.heap.size, 3, none⟩ = some (.string x.ty.name) := (A2.out.2 3 (by simp)).1
        have g2_4 : w2.cell? ⟨w.heap.size, 4, none⟩ = some (.bool x.notNull) := (A2.out.2 4 (by simp)).1
        have g2_5 : w2.cell? ⟨w.heap.size, 5, none⟩ = some (.slice a0 x.dflt.length c0) := (A2.out.2 5 (by simp)).1
        have H : Hid (leftN x.wt left = left - ((x.name.size : Nat) : Int) - ((x.ty.name.size : Nat) : Int) - (((x.dflt.length + wtL x.dflt) : Nat) : Int)) := by unfold Hid leftN; rw [if_neg (by have := HW.out; omega)]; have := HW.out; omega
        go_wp2_with fail
        go_ret
        exact ⟨by rw [H.out]; rfl, B2.out⟩

set_option maxHeartbeats 2000000 in
theorem szCoS (a : Option Addr) (c : Nat) (xs : List Co) (left : Int) (w : World) (hx : Sl 6 RCo 0 w a c xs) (h0 : 0 ≤ left) (h1 : left ≤ 1048576) :
    Calls Tryz.prog 47 #[.slice a xs.length c, .int .i64 left] w fun e w' => e = .returned (.int .i64 (leftN (xs.length + wtS Co.wt xs) left)) ∧ Below w.heap.size w w' := by
  have hl := hx.len
  by_cases hs : left < xs.length
  · have H : Hid (leftN (xs.length + wtS Co.wt xs) left = -1) := by unfold Hid leftN; rw [if_pos (by omega)]
    go_enter Tryz.func47, Tryz.ntmps47
    go_wp2
    go_ret
    exact ⟨by rw [H.out]; rfl, Below.refl _ _⟩
  · have hs' : (xs.length : Int) ≤ left := by omega
    have HX := Lib.hid (fun w' (hb : Below w.heap.size w w') => hx.kept goodCo (Kept.below hb))
    clear hx
    go_enter Tryz.func47, Tryz.ntmps47
    go_wp2
    go_loopw [1, 5] (fun l i wr => ∃ k : Nat, k ≤ xs.length ∧ i = .int .i64 k ∧ wtS Co.wt (xs.take k) ≤ left - xs.length ∧ l = .int .i64 (left - xs.length - wtS Co.wt (xs.take k)) ∧ Below w.heap.size w wr) (fun _ i _ => xs.length - (intOf i).toNat)
    case atStart => exact ⟨0, Nat.zero_le _, rfl, by simp [wtS]; omega, by simp [wtS], Below.refl _ _⟩
    case round =>
      obtain ⟨k, hk, rfl, hsm, rfl, hb⟩ := hrel
      by_cases hlt : k < xs.length
      · obtain ⟨b, off, vs, rfl, hbl, hcs, hR⟩ := (HX.out _ hb).spot hlt
        have HR := hR
        obtain ⟨a0, c0, rfl, _⟩ := hR
        have hc0 : wr.cell? ⟨b, off + k * 6, none⟩ = some (.string xs[k].name) := hcs 0 (by simp)
        have hc1 : wr.cell? ⟨b, off + k * 6 + 1, none⟩ = some (.int .i64 xs[k].ty.kind) := hcs 1 (by simp)
        have hc2 : wr.cell? ⟨b, off + k * 6 + 2, none⟩ = some (.int .i64 xs[k].ty.len) := hcs 2 (by simp)
        have hc3 : wr.cell? ⟨b, off + k * 6 + 3, none⟩ = some (.string xs[k].ty.name) := hcs 3 (by simp)
        have hc4 : wr.cell? ⟨b, off + k * 6 + 4, none⟩ = some (.bool xs[k].notNull) := hcs 4 (by simp)
        have hc5 : wr.cell? ⟨b, off + k * 6 + 5, none⟩ = some (.slice a0 xs[k].dflt.length c0) := hcs 5 (by simp)
        have HT := Lib.hid (wtS_take Co.wt xs k hlt)
        have HL := Lib.hid (wtS_le Co.wt xs (k + 1))
        have HK := Lib.hid HR
        clear HR hcs
        go_wp2_with fail
        refine (szCo _ xs[k] (left - xs.length - wtS Co.wt (xs.take k)) _ HK.out (by omega) (by omega)).mono ?_
        by_cases hle : left - xs.length - wtS Co.wt (xs.take k) < xs[k].wt
        · rw [show leftN xs[k].wt (left - xs.length - wtS Co.wt (xs.take k)) = -1 from if_pos hle]
          rintro e w2 ⟨rfl, hb2⟩
          have H : Hid (leftN (xs.length + wtS Co.wt xs) left = -1) := by unfold Hid leftN; rw [if_pos (by have := HT.out; have := HL.out; omega)]
          go_wp2_with fail
          go_ret
          exact ⟨by rw [H.out]; rfl, hb.trans (hb2.mono hb.size)⟩
        · rw [show leftN xs[k].wt (left - xs.length - wtS Co.wt (xs.take k)) = left - xs.length - wtS Co.wt (xs.take k) - xs[k].wt from if_neg hle]
          rintro e w2 ⟨rfl, hb2⟩
          go_wp2_with fail
          go_roundw
          case rel => exact ⟨k + 1, by omega, by go_num, by have := HT.out; omega, by rw [HT.out]; go_num, hb.trans (hb2.mono hb.size)⟩
          case measure => simp [intOf]; omega
      · obtain rfl : k = xs.length := by omega
        have H : Hid (leftN (xs.length + wtS Co.wt xs) left = left - xs.length - wtS Co.wt xs) := by
          unfold Hid leftN; rw [List.take_length] at hsm; rw [if_neg (by omega)]; omega
        go_wp2_with fail
        go_ret
        exact ⟨by rw [H.out, List.take_length]; rfl, hb⟩

end Go.Proofs.YtpdcmmhhgnackaaGreatDoor

namespace Go.Proofs.YtpdcmmhhgnackaaGreatDoor
open Go.RowKit

set_option maxHeartbeats 2000000 in
theorem szRu (vs : List Value) (x : Ru) (left : Int) (w : World) (hR : RRu 0 w vs x) (h0 : 0 ≤ left) (h1 : left ≤ 1048576) :
    Calls Tryz.prog 11 #[.agg vs.toArray, .int .i64 left] w fun e w' => e = .returned (.int .i64 (leftN x.wt left)) ∧ Below w.heap.size w w' := by
  obtain ⟨a0, c0, a1, c1, a2, c2, rfl, hfit, k0, k1, k2⟩ := hR
  have t_name : x.name.size ≤ 9223372036854775807 := by have : x.name.size ≤ maxLen := hfit.1; unfold maxLen at this; omega
  have t_table : x.table.size ≤ 9223372036854775807 := by have : x.table.size ≤ maxLen := hfit.2.2; unfold maxLen at this; omega
  have K0 := Lib.hid (fun w' (hb : Below w.heap.size w w') => k0.kept (Kept.below hb))
  clear k0
  have K1 := Lib.hid (fun w' (hb : Below w.heap.size w w') => k1.kept (Kept.below hb))
  clear k1
  have K2 := Lib.hid (fun w' (hb : Below w.heap.size w w') => k2.kept (Kept.below hb))
  clear k2
  have HW := Lib.hid (show x.wt = x.name.size + (x.cols.length + lets x.cols) + (x.expr.length + wtL x.expr) + x.table.size + (x.to.length + lets x.to) from rfl)
  go_enter Tryz.func11, Tryz.ntmps11
  by_cases q0 : left < ((x.name.size : Nat) : Int)
  · have H : Hid (leftN x.wt left = -1) := by unfold Hid leftN; rw [if_pos (by have := HW.out; omega)]
    have d0 : decide (left - ((x.name.size : Nat) : Int) < 0) = true := by simp; omega
    go_wp2_with fail
    go_ret
    exact ⟨by rw [H.out]; rfl, (Below.refl _ _).alloc (Nat.le_refl _) _⟩
  · have d0 : decide (left - ((x.name.size : Nat) : Int) < 0) = false := by simp; omega
    go_wp2_with fail
    refine (szSs a0 c0 x.cols (left - ((x.name.size : Nat) : Int)) _ (K0.out _ ?_) (by omega) (by omega)).mono ?_
    · exact (Below.refl _ _).alloc (Nat.le_refl _) _
    by_cases q1 : left - ((x.name.size : Nat) : Int) < (((x.cols.length + lets x.cols) : Nat) : Int)
    · have H : Hid (leftN x.wt left = -1) := by unfold Hid leftN; rw [if_pos (by have := HW.out; omega)]
      rw [show leftN (x.cols.length + lets x.cols) (left - ((x.name.size : Nat) : Int)) = -1 from if_pos q1]
      rintro e w1 ⟨rfl, b1⟩
      have B1 := Lib.hid (Below.call b1 ((Below.refl _ _).alloc (Nat.le_refl _) _))
      clear b1
      go_wp2_with fail
      go_ret
      exact ⟨by rw [H.out]; rfl, B1.out⟩
    · have d1 : decide (left - ((x.name.size : Nat) : Int) - (((x.cols.length + lets x.cols) : Nat) : Int) < 0) = false := by simp; omega
      rw [show leftN (x.cols.length + lets x.cols) (left - ((x.name.size : Nat) : Int)) = left - ((x.name.size : Nat) : Int) - (((x.cols.length + lets x.cols) : Nat) : Int) from if_neg q1]
      rintro e w1 ⟨rfl, b1⟩
      have B1 := Lib.hid (Below.call b1 ((Below.refl _ _).alloc (Nat.le_refl _) _))
      have A1 := Lib.hid (Blk.call b1 (blk_new w _ [.string x.name, .int .i64 x.kind, .slice a0 x.cols.length c0, .slice a1 x.expr.length c1, .string x.table, .slice a2 x.to.length c2]))
      clear b1
      have g1_0 : w1.cell? ⟨w.heap.size, 0, none⟩ = some (.string x.name) := (A1.out.2 0 (by simp)).1
      have g1_1 : w1.cell? ⟨w.heap.size, 1, none⟩ = some (.int .i64 x.kind) := (A1.out.2 1 (by simp)).1
      have g1_2 : w1.cell? ⟨w.heap.size, 2, none⟩ = some (.slice a0 x.cols.length c0) := (A1.out.2 2 (by simp)).1
      have g1_3 : w1.cell? ⟨w.heap.size, 3, none⟩ = some (.slice a1 x.expr.length c1) := (A1.out.2 3 (by simp)).1
      have g1_4 : w1.cell? ⟨w.heap.size, 4, none⟩ = some (.string x.table) := (A1.out.2 4 (by simp)).1
      have g1_5 : w1.cell? ⟨w.heap.size, 5, none⟩ = some (.slice a2 x.to.length c2) := (A1.out.2 5 (by simp)).1
      go_wp2_with fail
      refine (szKs a1 c1 x.expr (left - ((x.name.size : Nat) : Int) - (((x.cols.length + lets x.cols) : Nat) : Int)) _ (K1.out _ ?_) (by omega) (by omega)).mono ?_
      · exact B1.out
      by_cases q2 : left - ((x.name.size : Nat) : Int) - (((x.cols.length + lets x.cols) : Nat) : Int) < (((x.expr.length + wtL x.expr) : Nat) : Int)
      · have H : Hid (leftN x.wt left = -1) := by unfold Hid leftN; rw [if_pos (by have := HW.out; omega)]
        rw [show leftN (x.expr.length + wtL x.expr) (left - ((x.name.size : Nat) : Int) - (((x.cols.length + lets x.cols) : Nat) : Int)) = -1 from if_pos q2]
        rintro e w2 ⟨rfl, b2⟩
        have B2 := Lib.hid (Below.call b2 B1.out)
        clear b2
        go_wp2_with fail
        go_ret
        exact ⟨by rw [H.out]; rfl, B2.out⟩
      · have d2 : decide (left - ((x.name.size : Nat) : Int) - (((x.cols.length + lets x.cols) : Nat) : Int) - (((x.expr.length + wtL x.expr) : Nat) : Int) < 0) = false := by simp; omega
        rw [show leftN (x.expr.length + wtL x.expr) (left - ((x.name.size : Nat) : Int) - (((x.cols.length + lets x.cols) : Nat) : Int)) = left - ((x.name.size : Nat) : Int) - (((x.cols.length + lets x.cols) : Nat) : Int) - (((x.expr.length + wtL x.expr) : Nat) : Int) from if_neg q2]
        rintro e w2 ⟨rfl, b2⟩
        have B2 := Lib.hid (Below.call b2 B1.out)
        have A2 := Lib.hid (Blk.call b2 A1.out)
        clear b2
        clear g1_0 g1_1 g1_2 g1_3 g1_4 g1_5
        have g2_0 : w2.cell? ⟨w.heap.size, 0, none⟩ = some (.string x.name) := (A2.out.2 0 (by simp)).1
        have g2_1 : w2.cell? ⟨w.heap.size, 1, none⟩ = some (.int .i64 x.kind) := (A2.out.2 1 (by simp)).1
        have g2_2 : w2.cell? ⟨w.heap.size, 2, none⟩ = some (.slice a0 x.cols.length c0) := (A2.out.2 2 (by simp)).1
        have g2_3 : w2.cell? ⟨w.heap.size, 3, none⟩ = some (.slice a1 x.expr.length c1) := (A2.out.2 3 (by simp)).1
        have g2_4 : w2.cell? ⟨w.heap.size, 4, none⟩ = some (.string x.table) := (A2.out.2 4 (by simp)).1
        have g2_5 : w2.cell? ⟨w.heap.size, 5, none⟩ = some (.slice a2 x.to.length c2) := (A2.out.2 5 (by simp)).1
        by_cases q3 : left - ((x.name.size : Nat) : Int) - (((x.cols.length + lets x.cols) : Nat) : Int) - (((x.expr.length + wtL x.expr) : Nat) : Int) < ((x.table.size : Nat) : Int)
        · have H : Hid (leftN x.wt left = -1) := by unfold Hid leftN; rw [if_pos (by have := HW.out; omega)]
          have d3 : decide (left - ((x.name.size : Nat) : Int) - (((x.cols.length + lets x.cols) : Nat) : Int) - (((x.expr.length + wtL x.expr) : Nat) : Int) - ((x.table.size : Nat) : Int) < 0) = true := by simp; omega
          go_wp2_with fail
          go_ret
          exact ⟨by rw [H.out]; rfl, B2.out⟩
        · have d3 : decide (left - ((x.name.size : Nat) : Int) - (((x.cols.length + lets x.cols) : Nat) : Int) - (((x.expr.length + wtL x.expr) : Nat) : Int) - ((x.table.size : Nat) : Int) < 0) = false := by simp; omega
          go_wp2_with fail
          refine (szSs a2 c2 x.to (left - ((x.name.size : Nat) : Int) - (((x.cols.length + lets x.cols) : Nat) : Int) - (((x.expr.length + wtL x.expr) : Nat) : Int) - ((x.table.size : Nat) : Int)) _ (K2.out _ ?_) (by omega) (by omega)).mono ?_
          · exact B2.out
          by_cases q4 : left - ((x.name.size : Nat) : Int) - (((x.cols.length + lets x.cols) : Nat) : Int) - (((x.expr.length + wtL x.expr) : Nat) : Int) - ((x.table.size : Nat) : Int) < (((x.to.length + lets x.to) : Nat) : Int)
          · have H : Hid (leftN x.wt left = -1) := by unfold Hid leftN; rw [if_pos (by have := HW.out; omega)]
            rw [show leftN (x.to.length + lets x.to) (left - ((x.name.size : Nat) : Int) - (((x.cols.length + lets x.cols) : Nat) : Int) - (((x.expr.length + wtL x.expr) : Nat) : Int) - ((x.table.size : Nat) : Int)) = -1 from if_pos q4]
            rintro e w4 ⟨rfl, b4⟩
            have B4 := Lib.hid (Below.call b4 B2.out)
            clear b4
            go_wp2_with fail
            go_ret
            exact ⟨by rw [H.out]; rfl, B4.out⟩
          · have d4 : decide (left - ((x.name.size : Nat) : Int) - (((x.cols.length + lets x.cols) : Nat) : Int) - (((x.expr.length + wtL x.expr) : Nat) : Int) - ((x.table.size : Nat) : Int) - (((x.to.length + lets x.to) : Nat) : Int) < 0) = false := by simp; omega
            rw [show leftN (x.to.length + lets x.to) (left - ((x.name.size : Nat) : Int) - (((x.cols.length + lets x.cols) : Nat) : Int) - (((x.expr.length + wtL x.expr) : Nat) : Int) - ((x.table.size : Nat) : Int)) = left - ((x.name.size : Nat) : Int) - (((x.cols.length + lets x.cols) : Nat) : Int) - (((x.expr.length + wtL x.expr) : Nat) : Int) - ((x.table.size : Nat) : Int) - (((x.to.length + lets x.to) : Nat) : Int) from if_neg q4]
            rintro e w4 ⟨rfl, b4⟩
            have B4 := Lib.hid (Below.call b4 B2.out)
            have A4 := Lib.hid (Blk.call b4 A2.out)
            clear b4
            clear g2_0 g2_1 g2_2 g2_3 g2_4 g2_5
            have g4_0 : w4.cell? ⟨w.heap.size, 0, none⟩ = some (.string x.name) := (A4.out.2 0 (by simp)).1
            have g4_1 : w4.cell? ⟨w.heap.size, 1, none⟩ = some (.int .i64 x.kind) := (A4.out.2 1 (by simp)).1
            have g4_2 : w4.cell? ⟨w.heap.size, 2, none⟩ = some (.slice a0 x.cols.length c0) := (A4.out.2 2 (by simp)).1
            have g4_3 : w4.cell? ⟨w.heap.size, 3, none⟩ = some (.slice a1 x.expr.length c1) := (A4.out.2 3 (by simp)).1
            have g4_4 : w4.cell? ⟨w.heap.size, 4, none⟩ = some (.string x.table) := (A4.out.2 4 (by simp)).1
            have g4_5 : w4.cell? ⟨w.heap.size, 5, none⟩ = some (.slice a2 x.to.length c2) := (A4.out.2 5 (by simp)).1
            have H : Hid (leftN x.wt left = left - ((x.name.size : Nat) : Int) - (((x.cols.length + lets x.cols) : Nat) : Int) - (((x.expr.length + wtL x.expr) : Nat) : Int) - ((x.table.size : Nat) : Int) - (((x.to.length + lets x.to) : Nat) : Int)) := by unfold Hid leftN; rw [if_neg (by have := HW.out; omega)]; have := HW.out; omega
            go_wp2_with fail
            go_ret
            exact ⟨by rw [H.out]; rfl, B4.out⟩

set_option maxHeartbeats 2000000 in
theorem szRuS (a : Option Addr) (c : Nat) (xs : List Ru) (left : Int) (w : World) (hx : Sl 6 RRu 0 w a c xs) (h0 : 0 ≤ left) (h1 : left ≤ 1048576) :
    Calls Tryz.prog 48 #[.slice a xs.length c, .int .i64 left] w fun e w' => e = .returned (.int .i64 (leftN (xs.length + wtS Ru.wt xs) left)) ∧ Below w.heap.size w w' := by
  have hl := hx.len
  by_cases hs : left < xs.length
  · have H : Hid (leftN (xs.length + wtS Ru.wt xs) left = -1) := by unfold Hid leftN; rw [if_pos (by omega)]
    go_enter Tryz.func48, Tryz.ntmps48
    go_wp2
    go_ret
    exact ⟨by rw [H.out]; rfl, Below.refl _ _⟩
  · have hs' : (xs.length : Int) ≤ left := by omega
    have HX := Lib.hid (fun w' (hb : Below w.heap.size w w') => hx.kept goodRu (Kept.below hb))
    clear hx
    go_enter Tryz.func48, Tryz.ntmps48
    go_wp2
    go_loopw [1, 5] (fun l i wr => ∃ k : Nat, k ≤ xs.length ∧ i = .int .i64 k ∧ wtS Ru.wt (xs.take k) ≤ left - xs.length ∧ l = .int .i64 (left - xs.length - wtS Ru.wt (xs.take k)) ∧ Below w.heap.size w wr) (fun _ i _ => xs.length - (intOf i).toNat)
    case atStart => exact ⟨0, Nat.zero_le _, rfl, by simp [wtS]; omega, by simp [wtS], Below.refl _ _⟩
    case round =>
      obtain ⟨k, hk, rfl, hsm, rfl, hb⟩ := hrel
      by_cases hlt : k < xs.length
      · obtain ⟨b, off, vs, rfl, hbl, hcs, hR⟩ := (HX.out _ hb).spot hlt
        have HR := hR
        obtain ⟨a0, c0, a1, c1, a2, c2, rfl, _⟩ := hR
        have hc0 : wr.cell? ⟨b, off + k * 6, none⟩ = some (.string xs[k].name) := hcs 0 (by simp)
        have hc1 : wr.cell? ⟨b, off + k * 6 + 1, none⟩ = some (.int .i64 xs[k].kind) := hcs 1 (by simp)
        have hc2 : wr.cell? ⟨b, off + k * 6 + 2, none⟩ = some (.slice a0 xs[k].cols.length c0) := hcs 2 (by simp)
        have hc3 : wr.cell? ⟨b, off + k * 6 + 3, none⟩ = some (.slice a1 xs[k].expr.length c1) := hcs 3 (by simp)
        have hc4 : wr.cell? ⟨b, off + k * 6 + 4, none⟩ = some (.string xs[k].table) := hcs 4 (by simp)
        have hc5 : wr.cell? ⟨b, off + k * 6 + 5, none⟩ = some (.slice a2 xs[k].to.length c2) := hcs 5 (by simp)
        have HT := Lib.hid (wtS_take Ru.wt xs k hlt)
        have HL := Lib.hid (wtS_le Ru.wt xs (k + 1))
        have HK := Lib.hid HR
        clear HR hcs
        go_wp2_with fail
        refine (szRu _ xs[k] (left - xs.length - wtS Ru.wt (xs.take k)) _ HK.out (by omega) (by omega)).mono ?_
        by_cases hle : left - xs.length - wtS Ru.wt (xs.take k) < xs[k].wt
        · rw [show leftN xs[k].wt (left - xs.length - wtS Ru.wt (xs.take k)) = -1 from if_pos hle]
          rintro e w2 ⟨rfl, hb2⟩
          have H : Hid (leftN (xs.length + wtS Ru.wt xs) left = -1) := by unfold Hid leftN; rw [if_pos (by have := HT.out; have := HL.out; omega)]
          go_wp2_with fail
          go_ret
          exact ⟨by rw [H.out]; rfl, hb.trans (hb2.mono hb.size)⟩
        · rw [show leftN xs[k].wt (left - xs.length - wtS Ru.wt (xs.take k)) = left - xs.length - wtS Ru.wt (xs.take k) - xs[k].wt from if_neg hle]
          rintro e w2 ⟨rfl, hb2⟩
          go_wp2_with fail
          go_roundw
          case rel => exact ⟨k + 1, by omega, by go_num, by have := HT.out; omega, by rw [HT.out]; go_num, hb.trans (hb2.mono hb.size)⟩
          case measure => simp [intOf]; omega
      · obtain rfl : k = xs.length := by omega
        have H : Hid (leftN (xs.length + wtS Ru.wt xs) left = left - xs.length - wtS Ru.wt xs) := by
          unfold Hid leftN; rw [List.take_length] at hsm; rw [if_neg (by omega)]; omega
        go_wp2_with fail
        go_ret
        exact ⟨by rw [H.out, List.take_length]; rfl, hb⟩

end Go.Proofs.YtpdcmmhhgnackaaGreatDoor

namespace Go.Proofs.YtpdcmmhhgnackaaGreatDoor
open Go.RowKit

set_option maxHeartbeats 2000000 in
theorem szSt (vs : List Value) (x : St) (left : Int) (w : World) (hR : RSt 0 w vs x) (h0 : 0 ≤ left) (h1 : left ≤ 1048576) :
    Calls Tryz.prog 16 #[.agg vs.toArray, .int .i64 left] w fun e w' => e = .returned (.int .i64 (leftN x.wt left)) ∧ Below w.heap.size w w' := by
  obtain ⟨a0, c0, a1, c1, a2, c2, a3, c3, rfl, hfit, k0, k1, k2, k3⟩ := hR
  have t_name : x.name.size ≤ 9223372036854775807 := by have : x.name.size ≤ maxLen := hfit.2.1; unfold maxLen at this; omega
  have t_on : x.on.size ≤ 9223372036854775807 := by have : x.on.size ≤ maxLen := hfit.2.2.1; unfold maxLen at this; omega
  have t_ty : x.ty.name.size ≤ 9223372036854775807 := by have : x.ty.name.size ≤ maxLen := hfit.2.2.2.2.1; unfold maxLen at this; omega
  have K0 := Lib.hid (fun w' (hb : Below w.heap.size w w') => k0.kept (Kept.below hb))
  clear k0
  have K1 := Lib.hid (fun w' (hb : Below w.heap.size w w') => k1.kept goodCo (Kept.below hb))
  clear k1
  have K2 := Lib.hid (fun w' (hb : Below w.heap.size w w') => k2.kept goodRu (Kept.below hb))
  clear k2
  have K3 := Lib.hid (fun w' (hb : Below w.heap.size w w') => k3.kept (Kept.below hb))
  clear k3
  have HW := Lib.hid (show x.wt = x.name.size + x.on.size + (x.list.length + lets x.list) + x.ty.name.size + (x.cols.length + wtS Co.wt x.cols) + (x.rules.length + wtS Ru.wt x.rules) + (x.exprs.length + wtL x.exprs) from rfl)
  go_enter Tryz.func16, Tryz.ntmps16
  by_cases q0 : left < ((x.name.size : Nat) : Int)
  · have H : Hid (leftN x.wt left = -1) := by unfold Hid leftN; rw [if_pos (by have := HW.out; omega)]
    have d0 : decide (left - ((x.name.size : Nat) : Int) < 0) = true := by simp; omega
    go_wp2_with fail
    go_ret
    exact ⟨by rw [H.out]; rfl, (Below.refl _ _).alloc (Nat.le_refl _) _⟩
  · have d0 : decide (left - ((x.name.size : Nat) : Int) < 0) = false := by simp; omega
    by_cases q1 : left - ((x.name.size : Nat) : Int) < ((x.on.size : Nat) : Int)
    · have H : Hid (leftN x.wt left = -1) := by unfold Hid leftN; rw [if_pos (by have := HW.out; omega)]
      have d1 : decide (left - ((x.name.size : Nat) : Int) - ((x.on.size : Nat) : Int) < 0) = true := by simp; omega
      go_wp2_with fail
      go_ret
      exact ⟨by rw [H.out]; rfl, (Below.refl _ _).alloc (Nat.le_refl _) _⟩
    · have d1 : decide (left - ((x.name.size : Nat) : Int) - ((x.on.size : Nat) : Int) < 0) = false := by simp; omega
      go_wp2_with fail
      refine (szSs a0 c0 x.list (left - ((x.name.size : Nat) : Int) - ((x.on.size : Nat) : Int)) _ (K0.out _ ?_) (by omega) (by omega)).mono ?_
      · exact (Below.refl _ _).alloc (Nat.le_refl _) _
      by_cases q2 : left - ((x.name.size : Nat) : Int) - ((x.on.size : Nat) : Int) < (((x.list.length + lets x.list) : Nat) : Int)
      · have H : Hid (leftN x.wt left = -1) := by unfold Hid leftN; rw [if_pos (by have := HW.out; omega)]
        rw [show leftN (x.list.length + lets x.list) (left - ((x.name.size : Nat) : Int) - ((x.on.size : Nat) : Int)) = -1 from if_pos q2]
        rintro e w2 ⟨rfl, b2⟩
        have B2 := Lib.hid (Below.call b2 ((Below.refl _ _).alloc (Nat.le_refl _) _))
        clear b2
        go_wp2_with fail
        go_ret
        exact ⟨by rw [H.out]; rfl, B2.out⟩
      · have d2 : decide (left - ((x.name.size : Nat) : Int) - ((x.on.size : Nat) : Int) - (((x.list.length + lets x.list) : Nat) : Int) < 0) = false := by simp; omega
        rw [show leftN (x.list.length + lets x.list) (left - ((x.name.size : Nat) : Int) - ((x.on.size : Nat) : Int)) = left - ((x.name.size : Nat) : Int) - ((x.on.size : Nat) : Int) - (((x.list.length + lets x.list) : Nat) : Int) from if_neg q2]
        rintro e w2 ⟨rfl, b2⟩
        have B2 := Lib.hid (Below.call b2 ((Below.refl _ _).alloc (Nat.le_refl _) _))
        have A2 := Lib.hid (Blk.call b2 (blk_new w _ [.int .i64 x.kind, .string x.name, .string x.on, .slice a0 x.list.length c0, .int .i64 x.num, .bool x.flag, .int .i64 x.ty.kind, .int .i64 x.ty.len, .string x.ty.name, .slice a1 x.cols.length c1, .slice a2 x.rules.length c2, .slice a3 x.exprs.length c3]))
        clear b2
        have g2_0 : w2.cell? ⟨w.heap.size, 0, none⟩ = some (.int .i64 x.kind) := (A2.out.2 0 (by simp)).1
        have g2_1 : w2.cell? ⟨w.heap.size, 1, none⟩ = some (.string x.name) := (A2.out.2 1 (by simp)).1
        have g2_2 : w2.cell? ⟨w.heap.size, 2, none⟩ = some (.string x.on) := (A2.out.2 2 (by simp)).1
        have g2_3 : w2.cell? ⟨w.heap.size, 3, none⟩ = some (.slice a0 x.list.length c0) := (A2.out.2 3 (by simp)).1
        have g2_4 : w2.cell? ⟨w.heap.size, 4, none⟩ = some (.int .i64 x.num) := (A2.out.2 4 (by simp)).1
        have g2_5 : w2.cell? ⟨w.heap.size, 5, none⟩ = some (.bool x.flag) := (A2.out.2 5 (by simp)).1
        have g2_6 : w2.cell? ⟨w.heap.size, 6, none⟩ = some (.int .i64 x.ty.kind) := (A2.out.2 6 (by simp)).1
        have g2_7 : w2.cell? ⟨w.heap.size, 7, none⟩ = some (.int .i64 x.ty.len) := (A2.out.2 7 (by simp)).1
        have g2_8 : w2.cell? ⟨w.heap.size, 8, none⟩ = some (.string x.ty.name) := (A2.out.2 8 (by simp)).1
        have g2_9 : w2.cell? ⟨w.heap.size, 9, none⟩ = some (.slice a1 x.cols.length c1) := (A2.out.2 9 (by simp)).1
        have g2_10 : w2.cell? ⟨w.heap.size, 10, none⟩ = some (.slice a2 x.rules.length c2) := (A2.out.2 10 (by simp)).1
        have g2_11 : w2.cell? ⟨w.heap.size, 11, none⟩ = some (.slice a3 x.exprs.length c3) := (A2.out.2 11 (by simp)).1
        go_wp2_with fail
        refine (szTy0 x.ty.kind x.ty.len x.ty.name (left - ((x.name.size : Nat) : Int) - ((x.on.size : Nat) : Int) - (((x.list.length + lets x.list) : Nat) : Int)) _ hfit.2.2.2.2.1 (by omega) (by omega)).mono ?_
        by_cases q3 : left - ((x.name.size : Nat) : Int) - ((x.on.size : Nat) : Int) - (((x.list.length + lets x.list) : Nat) : Int) < ((x.ty.name.size : Nat) : Int)
        · have H : Hid (leftN x.wt left = -1) := by unfold Hid leftN; rw [if_pos (by have := HW.out; omega)]
          rw [show leftN x.ty.name.size (left - ((x.name.size : Nat) : Int) - ((x.on.size : Nat) : Int) - (((x.list.length + lets x.list) : Nat) : Int)) = -1 from if_pos q3]
          rintro e w3 ⟨rfl, b3⟩
          have B3 := Lib.hid (Below.call b3 B2.out)
          clear b3
          go_wp2_with fail
          go_ret
          exact ⟨by rw [H.out]; rfl, B3.out⟩
        · have d3 : decide (left - ((x.name.size : Nat) : Int) - ((x.on.size : Nat) : Int) - (((x.list.length + lets x.list) : Nat) : Int) - ((x.ty.name.size : Nat) : Int) < 0) = false := by simp; omega
          rw [show leftN x.ty.name.size (left - ((x.name.size : Nat) : Int) - ((x.on.size : Nat) : Int) - (((x.list.length + lets x.list) : Nat) : Int)) = left - ((x.name.size : Nat) : Int) - ((x.on.size : Nat) : Int) - (((x.list.length + lets x.list) : Nat) : Int) - ((x.ty.name.size : Nat) : Int) from if_neg q3]
          rintro e w3 ⟨rfl, b3⟩
          have B3 := Lib.hid (Below.call b3 B2.out)
          have A3 := Lib.hid (Blk.call b3 A2.out)
          clear b3
          clear g2_0 g2_1 g2_2 g2_3 g2_4 g2_5 g2_6 g2_7 g2_8 g2_9 g2_10 g2_11
          have g3_0 : w3.cell? ⟨w.heap.size, 0, none⟩ = some (.int .i64 x.kind) := (A3.out.2 0 (by simp)).1
          have g3_1 : w3.cell? ⟨w.heap.size, 1, none⟩ = some (.string x.name) := (A3.out.2 1 (by simp)).1
          have g3_2 : w3.cell? ⟨w.heap.size, 2, none⟩ = some (.string x.on) := (A3.out.2 2 (by simp)).1
          have g3_3 : w3.cell? ⟨w.heap.size, 3, none⟩ = some (.slice a0 x.list.length c0) := (A3.out.2 3 (by simp)).1
          have g3_4 : w3.cell? ⟨w.heap.size, 4, none⟩ = some (.int .i64 x.num) := (A3.out.2 4 (by simp)).1
          have g3_5 : w3.cell? ⟨w.heap.size, 5, none⟩ = some (.bool x.flag) := (A3.out.2 5 (by simp)).1
          have g3_6 : w3.cell? ⟨w.heap.size, 6, none⟩ = some (.int .i64 x.ty.kind) := (A3.out.2 6 (by simp)).1
          have g3_7 : w3.cell? ⟨w.heap.size, 7, none⟩ = some (.int .i64 x.ty.len) := (A3.out.2 7 (by simp)).1
          have g3_8 : w3.cell? ⟨w.heap.size, 8, none⟩ = some (.string x.ty.name) := (A3.out.2 8 (by simp)).1
          have g3_9 : w3.cell? ⟨w.heap.size, 9, none⟩ = some (.slice a1 x.cols.length c1) := (A3.out.2 9 (by simp)).1
          have g3_10 : w3.cell? ⟨w.heap.size, 10, none⟩ = some (.slice a2 x.rules.length c2) := (A3.out.2 10 (by simp)).1
          have g3_11 : w3.cell? ⟨w.heap.size, 11, none⟩ = some (.slice a3 x.exprs.length c3) := (A3.out.2 11 (by simp)).1
          go_wp2_with fail
          refine (szCoS a1 c1 x.cols (left - ((x.name.size : Nat) : Int) - ((x.on.size : Nat) : Int) - (((x.list.length + lets x.list) : Nat) : Int) - ((x.ty.name.size : Nat) : Int)) _ (K1.out _ ?_) (by omega) (by omega)).mono ?_
          · exact B3.out
          by_cases q4 : left - ((x.name.size : Nat) : Int) - ((x.on.size : Nat) : Int) - (((x.list.length + lets x.list) : Nat) : Int) - ((x.ty.name.size : Nat) : Int) < (((x.cols.length + wtS Co.wt x.cols) : Nat) : Int)
          · have H : Hid (leftN x.wt left = -1) := by unfold Hid leftN; rw [if_pos (by have := HW.out; omega)]
            rw [show leftN (x.cols.length + wtS Co.wt x.cols) (left - ((x.name.size : Nat) : Int) - ((x.on.size : Nat) : Int) - (((x.list.length + lets x.list) : Nat) : Int) - ((x.ty.name.size : Nat) : Int)) = -1 from if_pos q4]
            rintro e w4 ⟨rfl, b4⟩
            have B4 := Lib.hid (Below.call b4 B3.out)
            clear b4
            go_wp2_with fail
            go_ret
            exact ⟨by rw [H.out]; rfl, B4.out⟩
          · have d4 : decide (left - ((x.name.size : Nat) : Int) - ((x.on.size : Nat) : Int) - (((x.list.length + lets x.list) : Nat) : Int) - ((x.ty.name.size : Nat) : Int) - (((x.cols.length + wtS Co.wt x.cols) : Nat) : Int) < 0) = false := by simp; omega
            rw [show leftN (x.cols.length + wtS Co.wt x.cols) (left - ((x.name.size : Nat) : Int) - ((x.on.size : Nat) : Int) - (((x.list.length + lets x.list) : Nat) : Int) - ((x.ty.name.size : Nat) : Int)) = left - ((x.name.size : Nat) : Int) - ((x.on.size : Nat) : Int) - (((x.list.length + lets x.list) : Nat) : Int) - ((x.ty.name.size : Nat) : Int) - (((x.cols.length + wtS Co.wt x.cols) : Nat) : Int) from if_neg q4]
            rintro e w4 ⟨rfl, b4⟩
            have B4 := Lib.hid (Below.call b4 B3.out)
            have A4 := Lib.hid (Blk.call b4 A3.out)
            clear b4
            clear g3_0 g3_1 g3_2 g3_3 g3_4 g3_5 g3_6 g3_7 g3_8 g3_9 g3_10 g3_11
            have g4_0 : w4.cell? ⟨w.heap.size, 0, none⟩ = some (.int .i64 x.kind) := (A4.out.2 0 (by simp)).1
            have g4_1 : w4.cell? ⟨w.heap.size, 1, none⟩ = some (.string x.name) := (A4.out.2 1 (by simp)).1
            have g4_2 : w4.cell? ⟨w.heap.size, 2, none⟩ = some (.string x.on) := (A4.out.2 2 (by simp)).1
            have g4_3 : w4.cell? ⟨w.heap.size, 3, none⟩ = some (.slice a0 x.list.length c0) := (A4.out.2 3 (by simp)).1
            have g4_4 : w4.cell? ⟨w.heap.size, 4, none⟩ = some (.int .i64 x.num) := (A4.out.2 4 (by simp)).1
            have g4_5 : w4.cell? ⟨w.heap.size, 5, none⟩ = some (.bool x.flag) := (A4.out.2 5 (by simp)).1
            have g4_6 : w4.cell? ⟨w.heap.size, 6, none⟩ = some (.int .i64 x.ty.kind) := (A4.out.2 6 (by simp)).1
            have g4_7 : w4.cell? ⟨w.heap.size, 7, none⟩ = some (.int .i64 x.ty.len) := (A4.out.2 7 (by simp)).1
            have g4_8 : w4.cell? ⟨w.heap.size, 8, none⟩ = some (.string x.ty.name) := (A4.out.2 8 (by simp)).1
            have g4_9 : w4.cell? ⟨w.heap.size, 9, none⟩ = some (.slice a1 x.cols.length c1) := (A4.out.2 9 (by simp)).1
            have g4_10 : w4.cell? ⟨w.heap.size, 10, none⟩ = some (.slice a2 x.rules.length c2) := (A4.out.2 10 (by simp)).1
            have g4_11 : w4.cell? ⟨w.heap.size, 11, none⟩ = some (.slice a3 x.exprs.length c3) := (A4.out.2 11 (by simp)).1
            go_wp2_with fail
            refine (szRuS a2 c2 x.rules (left - ((x.name.size : Nat) : Int) - ((x.on.size : Nat) : Int) - (((x.list.length + lets x.list) : Nat) : Int) - ((x.ty.name.size : Nat) : Int) - (((x.cols.length + wtS Co.wt x.cols) : Nat) : Int)) _ (K2.out _ ?_) (by omega) (by omega)).mono ?_
            · exact B4.out
            by_cases q5 : left - ((x.name.size : Nat) : Int) - ((x.on.size : Nat) : Int) - (((x.list.length + lets x.list) : Nat) : Int) - ((x.ty.name.size : Nat) : Int) - (((x.cols.length + wtS Co.wt x.cols) : Nat) : Int) < (((x.rules.length + wtS Ru.wt x.rules) : Nat) : Int)
            · have H : Hid (leftN x.wt left = -1) := by unfold Hid leftN; rw [if_pos (by have := HW.out; omega)]
              rw [show leftN (x.rules.length + wtS Ru.wt x.rules) (left - ((x.name.size : Nat) : Int) - ((x.on.size : Nat) : Int) - (((x.list.length + lets x.list) : Nat) : Int) - ((x.ty.name.size : Nat) : Int) - (((x.cols.length + wtS Co.wt x.cols) : Nat) : Int)) = -1 from if_pos q5]
              rintro e w5 ⟨rfl, b5⟩
              have B5 := Lib.hid (Below.call b5 B4.out)
              clear b5
              go_wp2_with fail
              go_ret
              exact ⟨by rw [H.out]; rfl, B5.out⟩
            · have d5 : decide (left - ((x.name.size : Nat) : Int) - ((x.on.size : Nat) : Int) - (((x.list.length + lets x.list) : Nat) : Int) - ((x.ty.name.size : Nat) : Int) - (((x.cols.length + wtS Co.wt x.cols) : Nat) : Int) - (((x.rules.length + wtS Ru.wt x.rules) : Nat) : Int) < 0) = false := by simp; omega
              rw [show leftN (x.rules.length + wtS Ru.wt x.rules) (left - ((x.name.size : Nat) : Int) - ((x.on.size : Nat) : Int) - (((x.list.length + lets x.list) : Nat) : Int) - ((x.ty.name.size : Nat) : Int) - (((x.cols.length + wtS Co.wt x.cols) : Nat) : Int)) = left - ((x.name.size : Nat) : Int) - ((x.on.size : Nat) : Int) - (((x.list.length + lets x.list) : Nat) : Int) - ((x.ty.name.size : Nat) : Int) - (((x.cols.length + wtS Co.wt x.cols) : Nat) : Int) - (((x.rules.length + wtS Ru.wt x.rules) : Nat) : Int) from if_neg q5]
              rintro e w5 ⟨rfl, b5⟩
              have B5 := Lib.hid (Below.call b5 B4.out)
              have A5 := Lib.hid (Blk.call b5 A4.out)
              clear b5
              clear g4_0 g4_1 g4_2 g4_3 g4_4 g4_5 g4_6 g4_7 g4_8 g4_9 g4_10 g4_11
              have g5_0 : w5.cell? ⟨w.heap.size, 0, none⟩ = some (.int .i64 x.kind) := (A5.out.2 0 (by simp)).1
              have g5_1 : w5.cell? ⟨w.heap.size, 1, none⟩ = some (.string x.name) := (A5.out.2 1 (by simp)).1
              have g5_2 : w5.cell? ⟨w.heap.size, 2, none⟩ = some (.string x.on) := (A5.out.2 2 (by simp)).1
              have g5_3 : w5.cell? ⟨w.heap.size, 3, none⟩ = some (.slice a0 x.list.length c0) := (A5.out.2 3 (by simp)).1
              have g5_4 : w5.cell? ⟨w.heap.size, 4, none⟩ = some (.int .i64 x.num) := (A5.out.2 4 (by simp)).1
              have g5_5 : w5.cell? ⟨w.heap.size, 5, none⟩ = some (.bool x.flag) := (A5.out.2 5 (by simp)).1
              have g5_6 : w5.cell? ⟨w.heap.size, 6, none⟩ = some (.int .i64 x.ty.kind) := (A5.out.2 6 (by simp)).1
              have g5_7 : w5.cell? ⟨w.heap.size, 7, none⟩ = some (.int .i64 x.ty.len) := (A5.out.2 7 (by simp)).1
              have g5_8 : w5.cell? ⟨w.heap.size, 8, none⟩ = some (.string x.ty.name) := (A5.out.2 8 (by simp)).1
              have g5_9 : w5.cell? ⟨w.heap.size, 9, none⟩ = some (.slice a1 x.cols.length c1) := (A5.out.2 9 (by simp)).1
              have g5_10 : w5.cell? ⟨w.heap.size, 10, none⟩ = some (.slice a2 x.rules.length c2) := (A5.out.2 10 (by simp)).1
              have g5_11 : w5.cell? ⟨w.heap.size, 11, none⟩ = some (.slice a3 x.exprs.length c3) := (A5.out.2 11 (by simp)).1
              go_wp2_with fail
              refine (szKs a3 c3 x.exprs (left - ((x.name.size : Nat) : Int) - ((x.on.size : Nat) : Int) - (((x.list.length + lets x.list) : Nat) : Int) - ((x.ty.name.size : Nat) : Int) - (((x.cols.length + wtS Co.wt x.cols) : Nat) : Int) - (((x.rules.length + wtS Ru.wt x.rules) : Nat) : Int)) _ (K3.out _ ?_) (by omega) (by omega)).mono ?_
              · exact B5.out
              by_cases q6 : left - ((x.name.size : Nat) : Int) - ((x.on.size : Nat) : Int) - (((x.list.length + lets x.list) : Nat) : Int) - ((x.ty.name.size : Nat) : Int) - (((x.cols.length + wtS Co.wt x.cols) : Nat) : Int) - (((x.rules.length + wtS Ru.wt x.rules) : Nat) : Int) < (((x.exprs.length + wtL x.exprs) : Nat) : Int)
              · have H : Hid (leftN x.wt left = -1) := by unfold Hid leftN; rw [if_pos (by have := HW.out; omega)]
                rw [show leftN (x.exprs.length + wtL x.exprs) (left - ((x.name.size : Nat) : Int) - ((x.on.size : Nat) : Int) - (((x.list.length + lets x.list) : Nat) : Int) - ((x.ty.name.size : Nat) : Int) - (((x.cols.length + wtS Co.wt x.cols) : Nat) : Int) - (((x.rules.length + wtS Ru.wt x.rules) : Nat) : Int)) = -1 from if_pos q6]
                rintro e w6 ⟨rfl, b6⟩
                have B6 := Lib.hid (Below.call b6 B5.out)
                clear b6
                go_wp2_with fail
                go_ret
                exact ⟨by rw [H.out]; rfl, B6.out⟩
              · have d6 : decide (left - ((x.name.size : Nat) : Int) - ((x.on.size : Nat) : Int) - (((x.list.length + lets x.list) : Nat) : Int) - ((x.ty.name.size : Nat) : Int) - (((x.cols.length + wtS Co.wt x.cols) : Nat) : Int) - (((x.rules.length + wtS Ru.wt x.rules) : Nat) : Int) - (((x.exprs.length + wtL x.exprs) : Nat) : Int) < 0) = false := by simp; omega
                rw [show leftN (x.exprs.length + wtL x.exprs) (left - ((x.name.size : Nat) : Int) - ((x.on.size : Nat) : Int) - (((x.list.length + lets x.list) : Nat) : Int) - ((x.ty.name.size : Nat) : Int) - (((x.cols.length + wtS Co.wt x.cols) : Nat) : Int) - (((x.rules.length + wtS Ru.wt x.rules) : Nat) : Int)) = left - ((x.name.size : Nat) : Int) - ((x.on.size : Nat) : Int) - (((x.list.length + lets x.list) : Nat) : Int) - ((x.ty.name.size : Nat) : Int) - (((x.cols.length + wtS Co.wt x.cols) : Nat) : Int) - (((x.rules.length + wtS Ru.wt x.rules) : Nat) : Int) - (((x.exprs.length + wtL x.exprs) : Nat) : Int) from if_neg q6]
                rintro e w6 ⟨rfl, b6⟩
                have B6 := Lib.hid (Below.call b6 B5.out)
                have A6 := Lib.hid (Blk.call b6 A5.out)
                clear b6
                clear g5_0 g5_1 g5_2 g5_3 g5_4 g5_5 g5_6 g5_7 g5_8 g5_9 g5_10 g5_11
                have g6_0 : w6.cell? ⟨w.heap.size, 0, none⟩ = some (.int .i64 x.kind) := (A6.out.2 0 (by simp)).1
                have g6_1 : w6.cell? ⟨w.heap.size, 1, none⟩ = some (.string x.name) := (A6.out.2 1 (by simp)).1
                have g6_2 : w6.cell? ⟨w.heap.size, 2, none⟩ = some (.string x.on) := (A6.out.2 2 (by simp)).1
                have g6_3 : w6.cell? ⟨w.heap.size, 3, none⟩ = some (.slice a0 x.list.length c0) := (A6.out.2 3 (by simp)).1
                have g6_4 : w6.cell? ⟨w.heap.size, 4, none⟩ = some (.int .i64 x.num) := (A6.out.2 4 (by simp)).1
                have g6_5 : w6.cell? ⟨w.heap.size, 5, none⟩ = some (.bool x.flag) := (A6.out.2 5 (by simp)).1
                have g6_6 : w6.cell? ⟨w.heap.size, 6, none⟩ = some (.int .i64 x.ty.kind) := (A6.out.2 6 (by simp)).1
                have g6_7 : w6.cell? ⟨w.heap.size, 7, none⟩ = some (.int .i64 x.ty.len) := (A6.out.2 7 (by simp)).1
                have g6_8 : w6.cell? ⟨w.heap.size, 8, none⟩ = some (.string x.ty.name) := (A6.out.2 8 (by simp)).1
                have g6_9 : w6.cell? ⟨w.heap.size, 9, none⟩ = some (.slice a1 x.cols.length c1) := (A6.out.2 9 (by simp)).1
                have g6_10 : w6.cell? ⟨w.heap.size, 10, none⟩ = some (.slice a2 x.rules.length c2) := (A6.out.2 10 (by simp)).1
                have g6_11 : w6.cell? ⟨w.heap.size, 11, none⟩ = some (.slice a3 x.exprs.length c3) := (A6.out.2 11 (by simp)).1
                have H : Hid (leftN x.wt left = left - ((x.name.size : Nat) : Int) - ((x.on.size : Nat) : Int) - (((x.list.length + lets x.list) : Nat) : Int) - ((x.ty.name.size : Nat) : Int) - (((x.cols.length + wtS Co.wt x.cols) : Nat) : Int) - (((x.rules.length + wtS Ru.wt x.rules) : Nat) : Int) - (((x.exprs.length + wtL x.exprs) : Nat) : Int)) := by unfold Hid leftN; rw [if_neg (by have := HW.out; omega)]; have := HW.out; omega
                go_wp2_with fail
                go_ret
                exact ⟨by rw [H.out]; rfl, B6.out⟩

end Go.Proofs.YtpdcmmhhgnackaaGreatDoor

namespace Go.Proofs.YtpdcmmhhgnackaaGreatDoor
open Go.RowKit

set_option maxHeartbeats 2000000 in
theorem toCo (vs : List Value) (x : Co) (w : World) (hR : RCo 0 w vs x) (hn : x.wt ≤ 1048576) :
    Calls Tryz.prog 8 #[.agg vs.toArray] w fun e w' => ∃ vs' : List Value, vs'.length = 6 ∧ e = .returned (.agg vs'.toArray) ∧ RCo w.heap.size w' vs' x ∧ Below w.heap.size w w' := by
  obtain ⟨a0, c0, rfl, hfit, k0⟩ := hR
  have K0 := Lib.hid (fun w' (hb : Below w.heap.size w w') => k0.kept (Kept.below hb))
  clear k0
  have HW : x.wt = x.name.size + x.ty.name.size + (x.dflt.length + wtL x.dflt) := rfl
  go_enter Tryz.func8, Tryz.ntmps8
  go_wp2_with fail
  refine (toTy x.ty.kind x.ty.len x.ty.name _).mono ?_
  rintro e wt ⟨rfl, bt⟩
  have Bt := Lib.hid (show Below w.heap.size w wt from Below.call bt (by ((repeat (first | refine Below.alloc ?_ (by first | omega | (simp; done) | (simp; omega)) _ | refine Below.setCell ?_ (by first | omega | (simp; done) | (simp; omega)) _)); first | exact Below.refl _ _ | exact Below.refl _ _)))
  have At := Lib.hid (show Blk wt w.heap.size [.string x.name, .int .i64 x.ty.kind, .int .i64 x.ty.len, .string x.ty.name, .bool x.notNull, .slice a0 x.dflt.length c0] from Blk.call bt (((blk_new w _ [.string x.name, .int .i64 x.ty.kind, .int .i64 x.ty.len, .string x.ty.name, .bool x.notNull, .slice a0 x.dflt.length c0]).alloc _).alloc _))
  have Yt := Lib.hid (show Blk wt (w.heap.size + 1) [.string ByteArray.empty, .int .i64 0, .int .i64 0, .string ByteArray.empty, .bool false, .slice none 0 0] from Blk.call bt ((blk_new' (w := w.alloc _) (b := w.heap.size + 1) (by simp) _ [.string ByteArray.empty, .int .i64 0, .int .i64 0, .string ByteArray.empty, .bool false, .slice none 0 0]).alloc _))
  have Gt := Lib.hid (show Blk wt (w.heap.size + 1 + 1) [.string x.name, .int .i64 0, .int .i64 0, .string ByteArray.empty, .bool false, .slice none 0 0] from Blk.call bt (blk_new' (w := (w.alloc _).alloc _) (b := w.heap.size + 1 + 1) (by simp) _ [.string x.name, .int .i64 0, .int .i64 0, .string ByteArray.empty, .bool false, .slice none 0 0]))
  clear bt
  have gt_4 : wt.cell? ⟨w.heap.size, 4, none⟩ = some (.bool x.notNull) := (At.out.2 4 (by simp)).1
  have gt_5 : wt.cell? ⟨w.heap.size, 5, none⟩ = some (.slice a0 x.dflt.length c0) := (At.out.2 5 (by simp)).1
  have ht_1 : wt.cell? ⟨w.heap.size + 1 + 1, 1, none⟩ = some (.int .i64 0) := (Gt.out.2 1 (by simp)).1
  have zt_1 : wt.frozen? ⟨w.heap.size + 1 + 1, 1, none⟩ = false := (Gt.out.2 1 (by simp)).2
  have ht_2 : wt.cell? ⟨w.heap.size + 1 + 1, 2, none⟩ = some (.int .i64 0) := (Gt.out.2 2 (by simp)).1
  have zt_2 : wt.frozen? ⟨w.heap.size + 1 + 1, 2, none⟩ = false := (Gt.out.2 2 (by simp)).2
  have ht_3 : wt.cell? ⟨w.heap.size + 1 + 1, 3, none⟩ = some (.string ByteArray.empty) := (Gt.out.2 3 (by simp)).1
  have zt_3 : wt.frozen? ⟨w.heap.size + 1 + 1, 3, none⟩ = false := (Gt.out.2 3 (by simp)).2
  have ht_4 : wt.cell? ⟨w.heap.size + 1 + 1, 4, none⟩ = some (.bool false) := (Gt.out.2 4 (by simp)).1
  have zt_4 : wt.frozen? ⟨w.heap.size + 1 + 1, 4, none⟩ = false := (Gt.out.2 4 (by simp)).2
  go_wp2_with fail
  refine (toKs a0 c0 x.dflt _ (K0.out _ ?_) (by omega)).mono ?_
  · (refine Below.setCell ?_ (by first | omega | (simp; done) | (simp; omega)) _; refine Below.setCell ?_ (by first | omega | (simp; done) | (simp; omega)) _; refine Below.setCell ?_ (by first | omega | (simp; done) | (simp; omega)) _; refine Below.setCell ?_ (by first | omega | (simp; done) | (simp; omega)) _; exact Bt.out)
  rintro e w0 ⟨p0, q0, rfl, s0, b0⟩
  have B0 := Lib.hid (show Below w.heap.size w w0 from Below.call b0 (by (refine Below.setCell ?_ (by first | omega | (simp; done) | (simp; omega)) _; refine Below.setCell ?_ (by first | omega | (simp; done) | (simp; omega)) _; refine Below.setCell ?_ (by first | omega | (simp; done) | (simp; omega)) _; refine Below.setCell ?_ (by first | omega | (simp; done) | (simp; omega)) _; exact Bt.out)))
  have A0 := Lib.hid (show Blk w0 w.heap.size [.string x.name, .int .i64 x.ty.kind, .int .i64 x.ty.len, .string x.ty.name, .bool x.notNull, .slice a0 x.dflt.length c0] from Blk.call b0 (((((At.out).other (b' := w.heap.size + 1 + 1) (by omega) 1 (.int .i64 x.ty.kind)).other (b' := w.heap.size + 1 + 1) (by omega) 2 (.int .i64 x.ty.len)).other (b' := w.heap.size + 1 + 1) (by omega) 3 (.string x.ty.name)).other (b' := w.heap.size + 1 + 1) (by omega) 4 (.bool x.notNull)))
  have Y0 := Lib.hid (show Blk w0 (w.heap.size + 1) [.string ByteArray.empty, .int .i64 0, .int .i64 0, .string ByteArray.empty, .bool false, .slice none 0 0] from Blk.call b0 (((((Yt.out).other (b' := w.heap.size + 1 + 1) (by omega) 1 (.int .i64 x.ty.kind)).other (b' := w.heap.size + 1 + 1) (by omega) 2 (.int .i64 x.ty.len)).other (b' := w.heap.size + 1 + 1) (by omega) 3 (.string x.ty.name)).other (b' := w.heap.size + 1 + 1) (by omega) 4 (.bool x.notNull)))
  have G0 := Lib.hid (show Blk w0 (w.heap.size + 1 + 1) [.string x.name, .int .i64 x.ty.kind, .int .i64 x.ty.len, .string x.ty.name, .bool x.notNull, .slice none 0 0] from Blk.call b0 (((((Gt.out).set 1 (.int .i64 x.ty.kind)).set 2 (.int .i64 x.ty.len)).set 3 (.string x.ty.name)).set 4 (.bool x.notNull)))
  have S0 := Lib.hid (s0.lower (show w.heap.size + 3 ≤ _ by (have h3 := Gt.out.1; first | omega | (simp; done) | (simp; omega) | (simp [World.setCell]; done) | (simp [World.setCell]; omega))))
  clear s0 b0
  clear gt_4 gt_5 ht_1 zt_1 ht_2 zt_2 ht_3 zt_3 ht_4 zt_4
  have h0_0 : w0.cell? ⟨w.heap.size + 1 + 1, 0, none⟩ = some (.string x.name) := (G0.out.2 0 (by simp)).1
  have y0_0 : w0.cell? ⟨w.heap.size + 1, 0, none⟩ = some (.string ByteArray.empty) := (Y0.out.2 0 (by simp)).1
  have r0_0 : w0.frozen? ⟨w.heap.size + 1, 0, none⟩ = false := (Y0.out.2 0 (by simp)).2
  have h0_1 : w0.cell? ⟨w.heap.size + 1 + 1, 1, none⟩ = some (.int .i64 x.ty.kind) := (G0.out.2 1 (by simp)).1
  have y0_1 : w0.cell? ⟨w.heap.size + 1, 1, none⟩ = some (.int .i64 0) := (Y0.out.2 1 (by simp)).1
  have r0_1 : w0.frozen? ⟨w.heap.size + 1, 1, none⟩ = false := (Y0.out.2 1 (by simp)).2
  have h0_2 : w0.cell? ⟨w.heap.size + 1 + 1, 2, none⟩ = some (.int .i64 x.ty.len) := (G0.out.2 2 (by simp)).1
  have y0_2 : w0.cell? ⟨w.heap.size + 1, 2, none⟩ = some (.int .i64 0) := (Y0.out.2 2 (by simp)).1
  have r0_2 : w0.frozen? ⟨w.heap.size + 1, 2, none⟩ = false := (Y0.out.2 2 (by simp)).2
  have h0_3 : w0.cell? ⟨w.heap.size + 1 + 1, 3, none⟩ = some (.string x.ty.name) := (G0.out.2 3 (by simp)).1
  have y0_3 : w0.cell? ⟨w.heap.size + 1, 3, none⟩ = some (.string ByteArray.empty) := (Y0.out.2 3 (by simp)).1
  have r0_3 : w0.frozen? ⟨w.heap.size + 1, 3, none⟩ = false := (Y0.out.2 3 (by simp)).2
  have h0_4 : w0.cell? ⟨w.heap.size + 1 + 1, 4, none⟩ = some (.bool x.notNull) := (G0.out.2 4 (by simp)).1
  have y0_4 : w0.cell? ⟨w.heap.size + 1, 4, none⟩ = some (.bool false) := (Y0.out.2 4 (by simp)).1
  have r0_4 : w0.frozen? ⟨w.heap.size + 1, 4, none⟩ = false := (Y0.out.2 4 (by simp)).2
  have h0_5 : w0.cell? ⟨w.heap.size + 1 + 1, 5, none⟩ = some (.slice none 0 0) := (G0.out.2 5 (by simp)).1
  have z0_5 : w0.frozen? ⟨w.heap.size + 1 + 1, 5, none⟩ = false := (G0.out.2 5 (by simp)).2
  have y0_5 : w0.cell? ⟨w.heap.size + 1, 5, none⟩ = some (.slice none 0 0) := (Y0.out.2 5 (by simp)).1
  have r0_5 : w0.frozen? ⟨w.heap.size + 1, 5, none⟩ = false := (Y0.out.2 5 (by simp)).2
  go_wp2_with fail
  refine bodyPost_ret (v := .agg #[.string x.name, .int .i64 x.ty.kind, .int .i64 x.ty.len, .string x.ty.name, .bool x.notNull, .slice p0 x.dflt.length q0]) (by simp [results, Tryz.results8, go_sem, *]) rfl ⟨[.string x.name, .int .i64 x.ty.kind, .int .i64 x.ty.len, .string x.ty.name, .bool x.notNull, .slice p0 x.dflt.length q0], rfl, rfl, ⟨p0, q0, rfl, hfit, ?_⟩, ?_⟩
  · exact (S0.out.kept (by (refine Kept.set ?_ (by first | omega | (simp; done) | (simp; omega)) _; refine Kept.set ?_ (by first | omega | (simp; done) | (simp; omega)) _; refine Kept.set ?_ (by first | omega | (simp; done) | (simp; omega)) _; refine Kept.set ?_ (by first | omega | (simp; done) | (simp; omega)) _; refine Kept.set ?_ (by first | omega | (simp; done) | (simp; omega)) _; refine Kept.set ?_ (by first | omega | (simp; done) | (simp; omega)) _; refine Kept.set ?_ (by first | omega | (simp; done) | (simp; omega)) _; exact Kept.refl _ _))).lower (by omega)
  · (refine Below.setCell ?_ (by first | omega | (simp; done) | (simp; omega)) _; refine Below.setCell ?_ (by first | omega | (simp; done) | (simp; omega)) _; refine Below.setCell ?_ (by first | omega | (simp; done) | (simp; omega)) _; refine Below.setCell ?_ (by first | omega | (simp; done) | (simp; omega)) _; refine Below.setCell ?_ (by first | omega | (simp; done) | (simp; omega)) _; refine Below.setCell ?_ (by first | omega | (simp; done) | (simp; omega)) _; refine Below.setCell ?_ (by first | omega | (simp; done) | (simp; omega)) _; exact B0.out)

theorem Tryz.infoCol : (Tryz.prog.info? 32).map (fun i => (i.zero, i.size, i.bytes)) = some (some (.agg #[.string ByteArray.empty, .int .i64 0, .int .i64 0, .string ByteArray.empty, .bool false, .slice none 0 0]), 6, 80) := by kernel_rfl

set_option maxHeartbeats 2000000 in
theorem toCoS (a : Option Addr) (c : Nat) (xs : List Co) (w : World) (hx : Sl 6 RCo 0 w a c xs) (hn : xs.length + wtS Co.wt xs ≤ 1048576) :
    Calls Tryz.prog 52 #[.slice a xs.length c] w fun e w' => ∃ a' c', e = .returned (.slice a' xs.length c') ∧ Sl 6 RCo w.heap.size w' a' c' xs ∧ Below w.heap.size w w' := by
  obtain ⟨i0, hi0, hz0, hz1, hz2⟩ := info_parts Tryz.infoCol
  have hb16 : i0.bytes * xs.length ≤ 281474976710656 := by rw [hz2]; omega
  have hl := hx.len
  have HX := Lib.hid (fun w' (hb : Below w.heap.size w w') => hx.kept goodCo (Kept.below hb))
  clear hx
  go_enter Tryz.func52, Tryz.ntmps52
  go_wp2_with (at_make; refine wpList_make_full _ rfl _ _ 52 rfl w.heap.size 32 i0 (.agg #[.string ByteArray.empty, .int .i64 0, .int .i64 0, .string ByteArray.empty, .bool false, .slice none 0 0]) 6 Tryz.underlying52 hi0 hz0 hz1 .i64 .i64 _ _ xs.length rfl rfl rfl rfl hb16 (by unfold maxLen; omega) (Nat.le_refl _) ?_; intro w1 hown hg)
  have HD0 : DoneR 32 6 RCo [.string ByteArray.empty, .int .i64 0, .int .i64 0, .string ByteArray.empty, .bool false, .slice none 0 0] w xs 0 w1 := DoneR.new (z := [.string ByteArray.empty, .int .i64 0, .int .i64 0, .string ByteArray.empty, .bool false, .slice none 0 0]) (by simp) hown hg
  clear hown hg
  go_loopw [4] (fun i wr => ∃ k : Nat, i = .int .i64 k ∧ DoneR 32 6 RCo [.string ByteArray.empty, .int .i64 0, .int .i64 0, .string ByteArray.empty, .bool false, .slice none 0 0] w xs k wr) (fun i _ => xs.length - (intOf i).toNat)
  case atStart => exact ⟨0, rfl, HD0⟩
  case round =>
    obtain ⟨k, rfl, hd⟩ := hrel
    by_cases hlt : k < xs.length
    · obtain ⟨b, off, vs, rfl, hbl, hcs, hR⟩ := (HX.out _ hd.2.2.2).spot hlt
      have HR := hR
      obtain ⟨a0, c0, rfl, _⟩ := hR
      have hc0 : wr.cell? ⟨b, off + k * 6, none⟩ = some (.string xs[k].name) := hcs 0 (by simp)
      have hc1 : wr.cell? ⟨b, off + k * 6 + 1, none⟩ = some (.int .i64 xs[k].ty.kind) := hcs 1 (by simp)
      have hc2 : wr.cell? ⟨b, off + k * 6 + 2, none⟩ = some (.int .i64 xs[k].ty.len) := hcs 2 (by simp)
      have hc3 : wr.cell? ⟨b, off + k * 6 + 3, none⟩ = some (.string xs[k].ty.name) := hcs 3 (by simp)
      have hc4 : wr.cell? ⟨b, off + k * 6 + 4, none⟩ = some (.bool xs[k].notNull) := hcs 4 (by simp)
      have hc5 : wr.cell? ⟨b, off + k * 6 + 5, none⟩ = some (.slice a0 xs[k].dflt.length c0) := hcs 5 (by simp)
      have HK := Lib.hid HR
      have HD := Lib.hid hd
      have HWt := wtS_get Co.wt hlt
      clear HR hd hcs HD0
      go_wp2_with fail
      refine (toCo _ xs[k] _ HK.out (by omega)).mono ?_
      rintro e w2 ⟨vs2, hvl, rfl, hk2, hb2⟩
      have HR2 := hk2
      obtain ⟨p0, q0, rfl, _⟩ := hk2
      have DC := HD.out.cells rfl hlt hb2
      have hd0 : w2.cell? ⟨w.heap.size, k * 6, none⟩ = some (.string ByteArray.empty) := DC.1 0 (by simp)
      have hf0 : w2.frozen? ⟨w.heap.size, k * 6, none⟩ = false := DC.2 _
      have hd1 : w2.cell? ⟨w.heap.size, k * 6 + 1, none⟩ = some (.int .i64 0) := DC.1 1 (by simp)
      have hf1 : w2.frozen? ⟨w.heap.size, k * 6 + 1, none⟩ = false := DC.2 _
      have hd2 : w2.cell? ⟨w.heap.size, k * 6 + 2, none⟩ = some (.int .i64 0) := DC.1 2 (by simp)
      have hf2 : w2.frozen? ⟨w.heap.size, k * 6 + 2, none⟩ = false := DC.2 _
      have hd3 : w2.cell? ⟨w.heap.size, k * 6 + 3, none⟩ = some (.string ByteArray.empty) := DC.1 3 (by simp)
      have hf3 : w2.frozen? ⟨w.heap.size, k * 6 + 3, none⟩ = false := DC.2 _
      have hd4 : w2.cell? ⟨w.heap.size, k * 6 + 4, none⟩ = some (.bool false) := DC.1 4 (by simp)
      have hf4 : w2.frozen? ⟨w.heap.size, k * 6 + 4, none⟩ = false := DC.2 _
      have hd5 : w2.cell? ⟨w.heap.size, k * 6 + 5, none⟩ = some (.slice none 0 0) := DC.1 5 (by simp)
      have hf5 : w2.frozen? ⟨w.heap.size, k * 6 + 5, none⟩ = false := DC.2 _
      have HS := Lib.hid (HD.out.step goodCo rfl hlt hvl HR2 hb2 rfl)
      clear DC HR2 hb2 HD HK hc0 hc1 hc2 hc3 hc4 hc5 hbl hvl
      go_wp2_with fail
      go_roundw
      case rel => exact ⟨k + 1, by go_num, HS.out⟩
      case measure => simp [intOf]; omega
    · have hle := hd.1
      obtain rfl : k = xs.length := by omega
      have HE := Lib.hid (hd.end goodCo (by unfold maxLen; omega))
      have hbl := hd.2.2.2
      clear hd
      go_wp2_with fail
      go_ret
      exact ⟨_, _, rfl, HE.out, hbl⟩

end Go.Proofs.YtpdcmmhhgnackaaGreatDoor
