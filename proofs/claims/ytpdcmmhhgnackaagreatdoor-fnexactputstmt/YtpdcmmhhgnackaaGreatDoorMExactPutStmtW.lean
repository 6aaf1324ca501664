/- The walk of FnExactPutStmt. Written by tools/gen_exact1.py. -/
import Derived.Test.YtpdcmmhhgnackaaGreatDoorTie
import Derived.Test.YtpdcmmhhgnackaaGreatDoorMPutSc
import Derived.Test.YtpdcmmhhgnackaaGreatDoorMPutStI
import Derived.Test.YtpdcmmhhgnackaaGreatDoorMPlSzB
import Derived.Test.YtpdcmmhhgnackaaGreatDoorMPlToC
import Derived.Test.YtpdcmmhhgnackaaGreatDoorMPlEqC
import Derived.ProofKit
import Derived.OpenShut
import Derived.ShutString
import Derived.ChangeOld
import Derived.Below
import Derived.LaidMore
import Derived.Lay
import Derived.Lib.LaidTab
import Derived.Stop.LaidErr
import Derived.SevenTiedAt
import Derived.Stop.Joined
import Derived.OpenVars
namespace Go.Proofs.YtpdcmmhhgnackaaGreatDoor
open Go.ChangeShapes Go.WideShapes Go.ChangeAt Go.RowKit

set_option maxRecDepth 100000 in
set_option maxHeartbeats 4000000 in
theorem walkFnExactPutStmt (us : List Value) (x : St) (w : World) (hR : RSt 0 w us x) (hL : laidMetH Tryz.prog Rows.fnExactPutStmtRow.laid w) :
    Calls Tryz.prog 5 #[.agg us.toArray] w fun e w' => e = .returned (.bool true) ∧ Below w.heap.size w w' := by
  have HR := Lib.hid (fun w' (hb : Below w.heap.size w w') => goodSt.kept hR (Kept.below hb))
  have hB := fun o => (Below.refl w.heap.size w).alloc (Nat.le_refl _) o
  have HB0 := Lib.hid hB
  have hT : TabR w := ⟨tabs_of (laidDrop 2 hL) (laidDrop 3 hL), rules_of (laidDrop 4 hL)⟩
  have HT := Lib.hid (fun w' (hb : Below w.heap.size w w') => hT.call hb)
  obtain ⟨r, hr⟩ : ∃ r, stT x = r := ⟨_, rfl⟩
  have HA := Lib.hid hr
  have hne : (!(r.toList == r.toList)) = false := by simp
  obtain ⟨a0, c0, a1, c1, a2, c2, a3, c3, rfl, _⟩ := hR
  clear hB hL hT hr
  go_enter Tryz.func5, Tryz.ntmps5
  go_wp2_with fail
  refine (szSt _ x 1048576 _ (HR.out _ (HB0.out _)) (by omega) (by omega)).mono ?_
  by_cases h1 : (1048576 : Int) < x.wt
  · rw [show leftN x.wt 1048576 = -1 from if_pos h1]
    rintro e w1 ⟨rfl, b1⟩
    go_wp2_with fail
    go_ret
    exact ⟨rfl, Below.call b1 (HB0.out _)⟩
  · rw [show leftN x.wt 1048576 = 1048576 - x.wt from if_neg h1]
    have hwt : x.wt ≤ 1048576 := by omega
    have hd : decide ((1048576 : Int) - x.wt < 0) = false := by simp; omega
    rintro e w1 ⟨rfl, b1⟩
    have B1 := Lib.hid (Below.call b1 (HB0.out _))
    have X1 := Lib.hid (Blk.call b1 (blk_new w _ [.int .i64 x.kind, .string x.name, .string x.on, .slice a0 x.list.length c0, .int .i64 x.num, .bool x.flag, .int .i64 x.ty.kind, .int .i64 x.ty.len, .string x.ty.name, .slice a1 x.cols.length c1, .slice a2 x.rules.length c2, .slice a3 x.exprs.length c3]))
    clear b1
    have c1_0 : w1.cell? ⟨w.heap.size, 0, none⟩ = some (.int .i64 x.kind) := (X1.out.2 0 (by simp)).1
    have c1_1 : w1.cell? ⟨w.heap.size, 1, none⟩ = some (.string x.name) := (X1.out.2 1 (by simp)).1
    have c1_2 : w1.cell? ⟨w.heap.size, 2, none⟩ = some (.string x.on) := (X1.out.2 2 (by simp)).1
    have c1_3 : w1.cell? ⟨w.heap.size, 3, none⟩ = some (.slice a0 x.list.length c0) := (X1.out.2 3 (by simp)).1
    have c1_4 : w1.cell? ⟨w.heap.size, 4, none⟩ = some (.int .i64 x.num) := (X1.out.2 4 (by simp)).1
    have c1_5 : w1.cell? ⟨w.heap.size, 5, none⟩ = some (.bool x.flag) := (X1.out.2 5 (by simp)).1
    have c1_6 : w1.cell? ⟨w.heap.size, 6, none⟩ = some (.int .i64 x.ty.kind) := (X1.out.2 6 (by simp)).1
    have c1_7 : w1.cell? ⟨w.heap.size, 7, none⟩ = some (.int .i64 x.ty.len) := (X1.out.2 7 (by simp)).1
    have c1_8 : w1.cell? ⟨w.heap.size, 8, none⟩ = some (.string x.ty.name) := (X1.out.2 8 (by simp)).1
    have c1_9 : w1.cell? ⟨w.heap.size, 9, none⟩ = some (.slice a1 x.cols.length c1) := (X1.out.2 9 (by simp)).1
    have c1_10 : w1.cell? ⟨w.heap.size, 10, none⟩ = some (.slice a2 x.rules.length c2) := (X1.out.2 10 (by simp)).1
    have c1_11 : w1.cell? ⟨w.heap.size, 11, none⟩ = some (.slice a3 x.exprs.length c3) := (X1.out.2 11 (by simp)).1
    go_wp2_with fail
    refine (toSt _ x _ (HR.out _ B1.out) hwt).mono ?_
    rintro e w2 ⟨vs2, hvl2, rfl, k2, b2⟩
    have K2 := Lib.hid (goodSt.lower k2 (Nat.zero_le _))
    obtain ⟨p0, q0, p1, q1, p2, q2, p3, q3, rfl, _⟩ := k2
    have B2 := Lib.hid (Below.call b2 B1.out)
    have X2 := Lib.hid (Blk.call b2 X1.out)
    clear b2 hvl2
    clear c1_0 c1_1 c1_2 c1_3 c1_4 c1_5 c1_6 c1_7 c1_8 c1_9 c1_10 c1_11
    go_wp2_with fail
    refine (specPutStmt _ x _ K2.out hwt r HA.out).mono ?_
    rintro e w3 ⟨rfl, b3⟩
    have B3 := Lib.hid (Below.call b3 B2.out)
    have X3 := Lib.hid (Blk.call b3 X2.out)
    clear b3
    have c3_0 : w3.cell? ⟨w.heap.size, 0, none⟩ = some (.int .i64 x.kind) := (X3.out.2 0 (by simp)).1
    have c3_1 : w3.cell? ⟨w.heap.size, 1, none⟩ = some (.string x.name) := (X3.out.2 1 (by simp)).1
    have c3_2 : w3.cell? ⟨w.heap.size, 2, none⟩ = some (.string x.on) := (X3.out.2 2 (by simp)).1
    have c3_3 : w3.cell? ⟨w.heap.size, 3, none⟩ = some (.slice a0 x.list.length c0) := (X3.out.2 3 (by simp)).1
    have c3_4 : w3.cell? ⟨w.heap.size, 4, none⟩ = some (.int .i64 x.num) := (X3.out.2 4 (by simp)).1
    have c3_5 : w3.cell? ⟨w.heap.size, 5, none⟩ = some (.bool x.flag) := (X3.out.2 5 (by simp)).1
    have c3_6 : w3.cell? ⟨w.heap.size, 6, none⟩ = some (.int .i64 x.ty.kind) := (X3.out.2 6 (by simp)).1
    have c3_7 : w3.cell? ⟨w.heap.size, 7, none⟩ = some (.int .i64 x.ty.len) := (X3.out.2 7 (by simp)).1
    have c3_8 : w3.cell? ⟨w.heap.size, 8, none⟩ = some (.string x.ty.name) := (X3.out.2 8 (by simp)).1
    have c3_9 : w3.cell? ⟨w.heap.size, 9, none⟩ = some (.slice a1 x.cols.length c1) := (X3.out.2 9 (by simp)).1
    have c3_10 : w3.cell? ⟨w.heap.size, 10, none⟩ = some (.slice a2 x.rules.length c2) := (X3.out.2 10 (by simp)).1
    have c3_11 : w3.cell? ⟨w.heap.size, 11, none⟩ = some (.slice a3 x.exprs.length c3) := (X3.out.2 11 (by simp)).1
    go_wp2_with fail
    refine (toSt _ x _ (HR.out _ B3.out) hwt).mono ?_
    rintro e w4 ⟨vs4, hvl4, rfl, k4, b4⟩
    have K4 := Lib.hid (goodSt.lower k4 (Nat.zero_le _))
    obtain ⟨r0, t0, r1, t1, r2, t2, r3, t3, rfl, _⟩ := k4
    have B4 := Lib.hid (Below.call b4 B3.out)
    have X4 := Lib.hid (Blk.call b4 X3.out)
    clear b4 hvl4
    clear c3_0 c3_1 c3_2 c3_3 c3_4 c3_5 c3_6 c3_7 c3_8 c3_9 c3_10 c3_11
    go_wp2_with fail
    have T4 := Lib.hid (Two2.new goodSt X4.out K4.out B4.out 55)
    refine (implPutStmt _ x _ (HT.out _ T4.out.2.2.2) T4.out.2.2.1 hwt r HA.out).mono ?_
    rintro e w5 ⟨rfl, b5⟩
    have T5 := Lib.hid (T4.out.below goodSt b5)
    clear b5
    have hst : Hid (∀ p q : World, (((p.cell? ⟨w.heap.size, 0, none⟩ = some (.int .i64 x.kind) ∧ p.cell? ⟨w.heap.size, 1, none⟩ = some (.string x.name) ∧ p.cell? ⟨w.heap.size, 2, none⟩ = some (.string x.on) ∧ p.cell? ⟨w.heap.size, 3, none⟩ = some (.slice a0 x.list.length c0) ∧ p.cell? ⟨w.heap.size, 4, none⟩ = some (.int .i64 x.num) ∧ p.cell? ⟨w.heap.size, 5, none⟩ = some (.bool x.flag) ∧ p.cell? ⟨w.heap.size, 6, none⟩ = some (.int .i64 x.ty.kind) ∧ p.cell? ⟨w.heap.size, 7, none⟩ = some (.int .i64 x.ty.len) ∧ p.cell? ⟨w.heap.size, 8, none⟩ = some (.string x.ty.name) ∧ p.cell? ⟨w.heap.size, 9, none⟩ = some (.slice a1 x.cols.length c1) ∧ p.cell? ⟨w.heap.size, 10, none⟩ = some (.slice a2 x.rules.length c2) ∧ p.cell? ⟨w.heap.size, 11, none⟩ = some (.slice a3 x.exprs.length c3)) ∧ (p.cell? ⟨w4.heap.size, 0, none⟩ = some (.int .i64 x.kind) ∧ p.cell? ⟨w4.heap.size, 1, none⟩ = some (.string x.name) ∧ p.cell? ⟨w4.heap.size, 2, none⟩ = some (.string x.on) ∧ p.cell? ⟨w4.heap.size, 3, none⟩ = some (.slice r0 x.list.length t0) ∧ p.cell? ⟨w4.heap.size, 4, none⟩ = some (.int .i64 x.num) ∧ p.cell? ⟨w4.heap.size, 5, none⟩ = some (.bool x.flag) ∧ p.cell? ⟨w4.heap.size, 6, none⟩ = some (.int .i64 x.ty.kind) ∧ p.cell? ⟨w4.heap.size, 7, none⟩ = some (.int .i64 x.ty.len) ∧ p.cell? ⟨w4.heap.size, 8, none⟩ = some (.string x.ty.name) ∧ p.cell? ⟨w4.heap.size, 9, none⟩ = some (.slice r1 x.cols.length t1) ∧ p.cell? ⟨w4.heap.size, 10, none⟩ = some (.slice r2 x.rules.length t2) ∧ p.cell? ⟨w4.heap.size, 11, none⟩ = some (.slice r3 x.exprs.length t3))) ∧ Hid (Two2 RSt w w4.heap.size [.int .i64 x.kind, .string x.name, .string x.on, .slice a0 x.list.length c0, .int .i64 x.num, .bool x.flag, .int .i64 x.ty.kind, .int .i64 x.ty.len, .string x.ty.name, .slice a1 x.cols.length c1, .slice a2 x.rules.length c2, .slice a3 x.exprs.length c3] [.int .i64 x.kind, .string x.name, .string x.on, .slice r0 x.list.length t0, .int .i64 x.num, .bool x.flag, .int .i64 x.ty.kind, .int .i64 x.ty.len, .string x.ty.name, .slice r1 x.cols.length t1, .slice r2 x.rules.length t2, .slice r3 x.exprs.length t3] x p)) → Below p.heap.size p q → (((q.cell? ⟨w.heap.size, 0, none⟩ = some (.int .i64 x.kind) ∧ q.cell? ⟨w.heap.size, 1, none⟩ = some (.string x.name) ∧ q.cell? ⟨w.heap.size, 2, none⟩ = some (.string x.on) ∧ q.cell? ⟨w.heap.size, 3, none⟩ = some (.slice a0 x.list.length c0) ∧ q.cell? ⟨w.heap.size, 4, none⟩ = some (.int .i64 x.num) ∧ q.cell? ⟨w.heap.size, 5, none⟩ = some (.bool x.flag) ∧ q.cell? ⟨w.heap.size, 6, none⟩ = some (.int .i64 x.ty.kind) ∧ q.cell? ⟨w.heap.size, 7, none⟩ = some (.int .i64 x.ty.len) ∧ q.cell? ⟨w.heap.size, 8, none⟩ = some (.string x.ty.name) ∧ q.cell? ⟨w.heap.size, 9, none⟩ = some (.slice a1 x.cols.length c1) ∧ q.cell? ⟨w.heap.size, 10, none⟩ = some (.slice a2 x.rules.length c2) ∧ q.cell? ⟨w.heap.size, 11, none⟩ = some (.slice a3 x.exprs.length c3)) ∧ (q.cell? ⟨w4.heap.size, 0, none⟩ = some (.int .i64 x.kind) ∧ q.cell? ⟨w4.heap.size, 1, none⟩ = some (.string x.name) ∧ q.cell? ⟨w4.heap.size, 2, none⟩ = some (.string x.on) ∧ q.cell? ⟨w4.heap.size, 3, none⟩ = some (.slice r0 x.list.length t0) ∧ q.cell? ⟨w4.heap.size, 4, none⟩ = some (.int .i64 x.num) ∧ q.cell? ⟨w4.heap.size, 5, none⟩ = some (.bool x.flag) ∧ q.cell? ⟨w4.heap.size, 6, none⟩ = some (.int .i64 x.ty.kind) ∧ q.cell? ⟨w4.heap.size, 7, none⟩ = some (.int .i64 x.ty.len) ∧ q.cell? ⟨w4.heap.size, 8, none⟩ = some (.string x.ty.name) ∧ q.cell? ⟨w4.heap.size, 9, none⟩ = some (.slice r1 x.cols.length t1) ∧ q.cell? ⟨w4.heap.size, 10, none⟩ = some (.slice r2 x.rules.length t2) ∧ q.cell? ⟨w4.heap.size, 11, none⟩ = some (.slice r3 x.exprs.length t3))) ∧ Hid (Two2 RSt w w4.heap.size [.int .i64 x.kind, .string x.name, .string x.on, .slice a0 x.list.length c0, .int .i64 x.num, .bool x.flag, .int .i64 x.ty.kind, .int .i64 x.ty.len, .string x.ty.name, .slice a1 x.cols.length c1, .slice a2 x.rules.length c2, .slice a3 x.exprs.length c3] [.int .i64 x.kind, .string x.name, .string x.on, .slice r0 x.list.length t0, .int .i64 x.num, .bool x.flag, .int .i64 x.ty.kind, .int .i64 x.ty.len, .string x.ty.name, .slice r1 x.cols.length t1, .slice r2 x.rules.length t2, .slice r3 x.exprs.length t3] x q))) := fun p q h hb => by
      have T := h.2.out.below goodSt hb
      exact ⟨⟨⟨(T.1.2 0 (by simp)).1, (T.1.2 1 (by simp)).1, (T.1.2 2 (by simp)).1, (T.1.2 3 (by simp)).1, (T.1.2 4 (by simp)).1, (T.1.2 5 (by simp)).1, (T.1.2 6 (by simp)).1, (T.1.2 7 (by simp)).1, (T.1.2 8 (by simp)).1, (T.1.2 9 (by simp)).1, (T.1.2 10 (by simp)).1, (T.1.2 11 (by simp)).1⟩, ⟨(T.2.1.2 0 (by simp)).1, (T.2.1.2 1 (by simp)).1, (T.2.1.2 2 (by simp)).1, (T.2.1.2 3 (by simp)).1, (T.2.1.2 4 (by simp)).1, (T.2.1.2 5 (by simp)).1, (T.2.1.2 6 (by simp)).1, (T.2.1.2 7 (by simp)).1, (T.2.1.2 8 (by simp)).1, (T.2.1.2 9 (by simp)).1, (T.2.1.2 10 (by simp)).1, (T.2.1.2 11 (by simp)).1⟩⟩, T⟩
    go_wp2_with fail
    go_region_held3 (fun w' => ((w'.cell? ⟨w.heap.size, 0, none⟩ = some (.int .i64 x.kind) ∧ w'.cell? ⟨w.heap.size, 1, none⟩ = some (.string x.name) ∧ w'.cell? ⟨w.heap.size, 2, none⟩ = some (.string x.on) ∧ w'.cell? ⟨w.heap.size, 3, none⟩ = some (.slice a0 x.list.length c0) ∧ w'.cell? ⟨w.heap.size, 4, none⟩ = some (.int .i64 x.num) ∧ w'.cell? ⟨w.heap.size, 5, none⟩ = some (.bool x.flag) ∧ w'.cell? ⟨w.heap.size, 6, none⟩ = some (.int .i64 x.ty.kind) ∧ w'.cell? ⟨w.heap.size, 7, none⟩ = some (.int .i64 x.ty.len) ∧ w'.cell? ⟨w.heap.size, 8, none⟩ = some (.string x.ty.name) ∧ w'.cell? ⟨w.heap.size, 9, none⟩ = some (.slice a1 x.cols.length c1) ∧ w'.cell? ⟨w.heap.size, 10, none⟩ = some (.slice a2 x.rules.length c2) ∧ w'.cell? ⟨w.heap.size, 11, none⟩ = some (.slice a3 x.exprs.length c3)) ∧ (w'.cell? ⟨w4.heap.size, 0, none⟩ = some (.int .i64 x.kind) ∧ w'.cell? ⟨w4.heap.size, 1, none⟩ = some (.string x.name) ∧ w'.cell? ⟨w4.heap.size, 2, none⟩ = some (.string x.on) ∧ w'.cell? ⟨w4.heap.size, 3, none⟩ = some (.slice r0 x.list.length t0) ∧ w'.cell? ⟨w4.heap.size, 4, none⟩ = some (.int .i64 x.num) ∧ w'.cell? ⟨w4.heap.size, 5, none⟩ = some (.bool x.flag) ∧ w'.cell? ⟨w4.heap.size, 6, none⟩ = some (.int .i64 x.ty.kind) ∧ w'.cell? ⟨w4.heap.size, 7, none⟩ = some (.int .i64 x.ty.len) ∧ w'.cell? ⟨w4.heap.size, 8, none⟩ = some (.string x.ty.name) ∧ w'.cell? ⟨w4.heap.size, 9, none⟩ = some (.slice r1 x.cols.length t1) ∧ w'.cell? ⟨w4.heap.size, 10, none⟩ = some (.slice r2 x.rules.length t2) ∧ w'.cell? ⟨w4.heap.size, 11, none⟩ = some (.slice r3 x.exprs.length t3))) ∧ Hid (Two2 RSt w w4.heap.size [.int .i64 x.kind, .string x.name, .string x.on, .slice a0 x.list.length c0, .int .i64 x.num, .bool x.flag, .int .i64 x.ty.kind, .int .i64 x.ty.len, .string x.ty.name, .slice a1 x.cols.length c1, .slice a2 x.rules.length c2, .slice a3 x.exprs.length c3] [.int .i64 x.kind, .string x.name, .string x.on, .slice r0 x.list.length t0, .int .i64 x.num, .bool x.flag, .int .i64 x.ty.kind, .int .i64 x.ty.len, .string x.ty.name, .slice r1 x.cols.length t1, .slice r2 x.rules.length t2, .slice r3 x.exprs.length t3] x w')) (first | assumption | exact ⟨⟨⟨((T5.out.drew goodSt).1.2 0 (by simp)).1, ((T5.out.drew goodSt).1.2 1 (by simp)).1, ((T5.out.drew goodSt).1.2 2 (by simp)).1, ((T5.out.drew goodSt).1.2 3 (by simp)).1, ((T5.out.drew goodSt).1.2 4 (by simp)).1, ((T5.out.drew goodSt).1.2 5 (by simp)).1, ((T5.out.drew goodSt).1.2 6 (by simp)).1, ((T5.out.drew goodSt).1.2 7 (by simp)).1, ((T5.out.drew goodSt).1.2 8 (by simp)).1, ((T5.out.drew goodSt).1.2 9 (by simp)).1, ((T5.out.drew goodSt).1.2 10 (by simp)).1, ((T5.out.drew goodSt).1.2 11 (by simp)).1⟩, ⟨((T5.out.drew goodSt).2.1.2 0 (by simp)).1, ((T5.out.drew goodSt).2.1.2 1 (by simp)).1, ((T5.out.drew goodSt).2.1.2 2 (by simp)).1, ((T5.out.drew goodSt).2.1.2 3 (by simp)).1, ((T5.out.drew goodSt).2.1.2 4 (by simp)).1, ((T5.out.drew goodSt).2.1.2 5 (by simp)).1, ((T5.out.drew goodSt).2.1.2 6 (by simp)).1, ((T5.out.drew goodSt).2.1.2 7 (by simp)).1, ((T5.out.drew goodSt).2.1.2 8 (by simp)).1, ((T5.out.drew goodSt).2.1.2 9 (by simp)).1, ((T5.out.drew goodSt).2.1.2 10 (by simp)).1, ((T5.out.drew goodSt).2.1.2 11 (by simp)).1⟩⟩, T5.out.drew goodSt⟩)
      (first
        | (go_at_call 18; refine (toSt _ x _ (HR.out _ (And.right (by assumption : _ ∧ Hid (Two2 RSt w w4.heap.size [.int .i64 x.kind, .string x.name, .string x.on, .slice a0 x.list.length c0, .int .i64 x.num, .bool x.flag, .int .i64 x.ty.kind, .int .i64 x.ty.len, .string x.ty.name, .slice a1 x.cols.length c1, .slice a2 x.rules.length c2, .slice a3 x.exprs.length c3] [.int .i64 x.kind, .string x.name, .string x.on, .slice r0 x.list.length t0, .int .i64 x.num, .bool x.flag, .int .i64 x.ty.kind, .int .i64 x.ty.len, .string x.ty.name, .slice r1 x.cols.length t1, .slice r2 x.rules.length t2, .slice r3 x.exprs.length t3] x _))).out.2.2.2) hwt).mono ?_; rintro e wq ⟨vs6, hvl6, rfl, k6, bq⟩; have hq := hst.out _ _ (by assumption) bq; have K6 := Lib.hid (goodSt.lower k6 (Nat.zero_le _)); obtain ⟨y0, z0, y1, z1, y2, z2, y3, z3, rfl, _⟩ := k6; clear hvl6)
        | (go_at_call 20; refine (eqSt _ _ x _ hq.2.out.2.2.1 K6.out).mono ?_; rintro e wz ⟨rfl, bz⟩; have hz := hst.out _ _ (by assumption) bz; have T9 := Lib.hid hz.2.out))
    go_wp2_with fail
    go_ret
    exact ⟨rfl, T9.out.2.2.2⟩

end Go.Proofs.YtpdcmmhhgnackaaGreatDoor
