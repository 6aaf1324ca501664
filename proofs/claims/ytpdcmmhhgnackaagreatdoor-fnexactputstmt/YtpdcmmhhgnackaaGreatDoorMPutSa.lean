/- The model's text of a statement of one kind. Written by tools/gen_put.py. -/
/- The model's text of a statement of one kind. Written by tools/gen_put.py. -/
import Derived.Test.YtpdcmmhhgnackaaGreatDoorMPsD
namespace Go.Proofs.YtpdcmmhhgnackaaGreatDoor
open Go.RowKit

set_option maxRecDepth 100000 in
set_option maxHeartbeats 4000000 in
theorem specPut_0 (name on : ByteArray) (list : List ByteArray) (num : Int) (flag : Bool) (ty : Ty) (cols : List Co) (rules : List Ru) (exprs : List Ex) (a0 a1 a2 a3 : Option Addr) (c0 c1 c2 c3 : Nat) (w : World) (HOK : Hid (∀ W, Below w.heap.size w W → Calls Tryz.prog 49 #[.agg #[.int .i64 0, .string name, .string on, .slice a0 list.length c0, .int .i64 num, .bool flag, .int .i64 ty.kind, .int .i64 ty.len, .string ty.name, .slice a1 cols.length c1, .slice a2 rules.length c2, .slice a3 exprs.length c3]] W fun e w' => e = .returned (.bool true) ∧ Below W.heap.size W w')) (r : ByteArray) (HCR : Hid (∀ W, Below w.heap.size w W → Calls Tryz.prog 50 #[.agg #[.int .i64 0, .string name, .string on, .slice a0 list.length c0, .int .i64 num, .bool flag, .int .i64 ty.kind, .int .i64 ty.len, .string ty.name, .slice a1 cols.length c1, .slice a2 rules.length c2, .slice a3 exprs.length c3]] W fun e w' => e = .returned (.string r) ∧ Below W.heap.size W w')) :
    Calls Tryz.prog 17 #[.agg #[.int .i64 0, .string name, .string on, .slice a0 list.length c0, .int .i64 num, .bool flag, .int .i64 ty.kind, .int .i64 ty.len, .string ty.name, .slice a1 cols.length c1, .slice a2 rules.length c2, .slice a3 exprs.length c3]] w fun e w' => e = .returned (.string r) ∧ Below w.heap.size w w' := by
  have HB := Lib.hid (boxV_new w [.int .i64 0, .string name, .string on, .slice a0 list.length c0, .int .i64 num, .bool flag, .int .i64 ty.kind, .int .i64 ty.len, .string ty.name, .slice a1 cols.length c1, .slice a2 rules.length c2, .slice a3 exprs.length c3] 55)
  go_enter Tryz.func17, Tryz.ntmps17
  go_wp2_with fail
  generalize w.alloc (.cells #[.int .i64 0, .string name, .string on, .slice a0 list.length c0, .int .i64 num, .bool flag, .int .i64 ty.kind, .int .i64 ty.len, .string ty.name, .slice a1 cols.length c1, .slice a2 rules.length c2, .slice a3 exprs.length c3] 55) = W0 at HB ⊢
  have g0 : W0.cell? ⟨w.heap.size, 0, none⟩ = some (.int .i64 0) := (HB.out.1.2 0 (by simp)).1
  have g1 : W0.cell? ⟨w.heap.size, 1, none⟩ = some (.string name) := (HB.out.1.2 1 (by simp)).1
  have g2 : W0.cell? ⟨w.heap.size, 2, none⟩ = some (.string on) := (HB.out.1.2 2 (by simp)).1
  have g3 : W0.cell? ⟨w.heap.size, 3, none⟩ = some (.slice a0 list.length c0) := (HB.out.1.2 3 (by simp)).1
  have g4 : W0.cell? ⟨w.heap.size, 4, none⟩ = some (.int .i64 num) := (HB.out.1.2 4 (by simp)).1
  have g5 : W0.cell? ⟨w.heap.size, 5, none⟩ = some (.bool flag) := (HB.out.1.2 5 (by simp)).1
  have g6 : W0.cell? ⟨w.heap.size, 6, none⟩ = some (.int .i64 ty.kind) := (HB.out.1.2 6 (by simp)).1
  have g7 : W0.cell? ⟨w.heap.size, 7, none⟩ = some (.int .i64 ty.len) := (HB.out.1.2 7 (by simp)).1
  have g8 : W0.cell? ⟨w.heap.size, 8, none⟩ = some (.string ty.name) := (HB.out.1.2 8 (by simp)).1
  have g9 : W0.cell? ⟨w.heap.size, 9, none⟩ = some (.slice a1 cols.length c1) := (HB.out.1.2 9 (by simp)).1
  have g10 : W0.cell? ⟨w.heap.size, 10, none⟩ = some (.slice a2 rules.length c2) := (HB.out.1.2 10 (by simp)).1
  have g11 : W0.cell? ⟨w.heap.size, 11, none⟩ = some (.slice a3 exprs.length c3) := (HB.out.1.2 11 (by simp)).1
  refine (HOK.out _ HB.out.2).mono ?_
  rintro e w1 ⟨rfl, b1⟩
  have B1 := Lib.hid (HB.out.call b1)
  clear b1 g0 g1 g2 g3 g4 g5 g6 g7 g8 g9 g10 g11
  have g0 : w1.cell? ⟨w.heap.size, 0, none⟩ = some (.int .i64 0) := (B1.out.1.2 0 (by simp)).1
  have g1 : w1.cell? ⟨w.heap.size, 1, none⟩ = some (.string name) := (B1.out.1.2 1 (by simp)).1
  have g2 : w1.cell? ⟨w.heap.size, 2, none⟩ = some (.string on) := (B1.out.1.2 2 (by simp)).1
  have g3 : w1.cell? ⟨w.heap.size, 3, none⟩ = some (.slice a0 list.length c0) := (B1.out.1.2 3 (by simp)).1
  have g4 : w1.cell? ⟨w.heap.size, 4, none⟩ = some (.int .i64 num) := (B1.out.1.2 4 (by simp)).1
  have g5 : w1.cell? ⟨w.heap.size, 5, none⟩ = some (.bool flag) := (B1.out.1.2 5 (by simp)).1
  have g6 : w1.cell? ⟨w.heap.size, 6, none⟩ = some (.int .i64 ty.kind) := (B1.out.1.2 6 (by simp)).1
  have g7 : w1.cell? ⟨w.heap.size, 7, none⟩ = some (.int .i64 ty.len) := (B1.out.1.2 7 (by simp)).1
  have g8 : w1.cell? ⟨w.heap.size, 8, none⟩ = some (.string ty.name) := (B1.out.1.2 8 (by simp)).1
  have g9 : w1.cell? ⟨w.heap.size, 9, none⟩ = some (.slice a1 cols.length c1) := (B1.out.1.2 9 (by simp)).1
  have g10 : w1.cell? ⟨w.heap.size, 10, none⟩ = some (.slice a2 rules.length c2) := (B1.out.1.2 10 (by simp)).1
  have g11 : w1.cell? ⟨w.heap.size, 11, none⟩ = some (.slice a3 exprs.length c3) := (B1.out.1.2 11 (by simp)).1
  go_wp2_with fail
  refine (HCR.out _ B1.out.2).mono ?_
  rintro e w2 ⟨rfl, b2⟩
  have B2 := Lib.hid (B1.out.call b2)
  clear b2
  go_wp2_with fail
  go_ret
  exact ⟨rfl, B2.out.2⟩

set_option maxRecDepth 100000 in
set_option maxHeartbeats 4000000 in
theorem specPut_1 (name on : ByteArray) (list : List ByteArray) (num : Int) (flag : Bool) (ty : Ty) (cols : List Co) (rules : List Ru) (exprs : List Ex) (a0 a1 a2 a3 : Option Addr) (c0 c1 c2 c3 : Nat) (w : World) (HOK : Hid (∀ W, Below w.heap.size w W → Calls Tryz.prog 49 #[.agg #[.int .i64 1, .string name, .string on, .slice a0 list.length c0, .int .i64 num, .bool flag, .int .i64 ty.kind, .int .i64 ty.len, .string ty.name, .slice a1 cols.length c1, .slice a2 rules.length c2, .slice a3 exprs.length c3]] W fun e w' => e = .returned (.bool true) ∧ Below W.heap.size W w')) (Zn : Hid (name.size ≤ 1048576)) (qn : nmB name = true) (r : ByteArray) (hr : joinT (parts_1 name on list num flag ty cols rules exprs) (txt [32]) = r) :
    Calls Tryz.prog 17 #[.agg #[.int .i64 1, .string name, .string on, .slice a0 list.length c0, .int .i64 num, .bool flag, .int .i64 ty.kind, .int .i64 ty.len, .string ty.name, .slice a1 cols.length c1, .slice a2 rules.length c2, .slice a3 exprs.length c3]] w fun e w' => e = .returned (.string r) ∧ Below w.heap.size w w' := by
  have HB := Lib.hid (boxV_new w [.int .i64 1, .string name, .string on, .slice a0 list.length c0, .int .i64 num, .bool flag, .int .i64 ty.kind, .int .i64 ty.len, .string ty.name, .slice a1 cols.length c1, .slice a2 rules.length c2, .slice a3 exprs.length c3] 55)
  obtain ⟨N, hN⟩ : ∃ N, nameT name = N := ⟨_, rfl⟩
  have zN : N.size ≤ 82 := by rw [← hN]; exact nameT_small qn
  have HN := Lib.hid hN
  have y1 : (ByteArray.mk #[100, 114, 111, 112, 32, 116, 121, 112, 101, 32]).size = 10 := rfl
  obtain ⟨p1, hp1⟩ : ∃ p, p = (ByteArray.mk #[100, 114, 111, 112, 32, 116, 121, 112, 101, 32]) ++ N := ⟨_, rfl⟩
  have adp1 := run_add Tryz.prog (ByteArray.mk #[100, 114, 111, 112, 32, 116, 121, 112, 101, 32]) N p1 hp1 (by omega)
  have HV : Hid (r = p1) := by
    unfold Hid
    rw [← hr, hp1]
    unfold parts_1
    simp only [List.cons_append, List.nil_append]
    rw [hN]
    rw [joinT_cons, joinT_one]
    apply ba_ext
    simp only [ba_list, List.append_assoc]
    rfl
  clear hr hN hp1
  go_enter Tryz.func17, Tryz.ntmps17
  go_wp2_with fail
  generalize w.alloc (.cells #[.int .i64 1, .string name, .string on, .slice a0 list.length c0, .int .i64 num, .bool flag, .int .i64 ty.kind, .int .i64 ty.len, .string ty.name, .slice a1 cols.length c1, .slice a2 rules.length c2, .slice a3 exprs.length c3] 55) = W0 at HB ⊢
  have g0 : W0.cell? ⟨w.heap.size, 0, none⟩ = some (.int .i64 1) := (HB.out.1.2 0 (by simp)).1
  have g1 : W0.cell? ⟨w.heap.size, 1, none⟩ = some (.string name) := (HB.out.1.2 1 (by simp)).1
  have g2 : W0.cell? ⟨w.heap.size, 2, none⟩ = some (.string on) := (HB.out.1.2 2 (by simp)).1
  have g3 : W0.cell? ⟨w.heap.size, 3, none⟩ = some (.slice a0 list.length c0) := (HB.out.1.2 3 (by simp)).1
  have g4 : W0.cell? ⟨w.heap.size, 4, none⟩ = some (.int .i64 num) := (HB.out.1.2 4 (by simp)).1
  have g5 : W0.cell? ⟨w.heap.size, 5, none⟩ = some (.bool flag) := (HB.out.1.2 5 (by simp)).1
  have g6 : W0.cell? ⟨w.heap.size, 6, none⟩ = some (.int .i64 ty.kind) := (HB.out.1.2 6 (by simp)).1
  have g7 : W0.cell? ⟨w.heap.size, 7, none⟩ = some (.int .i64 ty.len) := (HB.out.1.2 7 (by simp)).1
  have g8 : W0.cell? ⟨w.heap.size, 8, none⟩ = some (.string ty.name) := (HB.out.1.2 8 (by simp)).1
  have g9 : W0.cell? ⟨w.heap.size, 9, none⟩ = some (.slice a1 cols.length c1) := (HB.out.1.2 9 (by simp)).1
  have g10 : W0.cell? ⟨w.heap.size, 10, none⟩ = some (.slice a2 rules.length c2) := (HB.out.1.2 10 (by simp)).1
  have g11 : W0.cell? ⟨w.heap.size, 11, none⟩ = some (.slice a3 exprs.length c3) := (HB.out.1.2 11 (by simp)).1
  refine (HOK.out _ HB.out.2).mono ?_
  rintro e w1 ⟨rfl, b1⟩
  have B1 := Lib.hid (HB.out.call b1)
  clear b1 g0 g1 g2 g3 g4 g5 g6 g7 g8 g9 g10 g11
  have g0 : w1.cell? ⟨w.heap.size, 0, none⟩ = some (.int .i64 1) := (B1.out.1.2 0 (by simp)).1
  have g1 : w1.cell? ⟨w.heap.size, 1, none⟩ = some (.string name) := (B1.out.1.2 1 (by simp)).1
  have g2 : w1.cell? ⟨w.heap.size, 2, none⟩ = some (.string on) := (B1.out.1.2 2 (by simp)).1
  have g3 : w1.cell? ⟨w.heap.size, 3, none⟩ = some (.slice a0 list.length c0) := (B1.out.1.2 3 (by simp)).1
  have g4 : w1.cell? ⟨w.heap.size, 4, none⟩ = some (.int .i64 num) := (B1.out.1.2 4 (by simp)).1
  have g5 : w1.cell? ⟨w.heap.size, 5, none⟩ = some (.bool flag) := (B1.out.1.2 5 (by simp)).1
  have g6 : w1.cell? ⟨w.heap.size, 6, none⟩ = some (.int .i64 ty.kind) := (B1.out.1.2 6 (by simp)).1
  have g7 : w1.cell? ⟨w.heap.size, 7, none⟩ = some (.int .i64 ty.len) := (B1.out.1.2 7 (by simp)).1
  have g8 : w1.cell? ⟨w.heap.size, 8, none⟩ = some (.string ty.name) := (B1.out.1.2 8 (by simp)).1
  have g9 : w1.cell? ⟨w.heap.size, 9, none⟩ = some (.slice a1 cols.length c1) := (B1.out.1.2 9 (by simp)).1
  have g10 : w1.cell? ⟨w.heap.size, 10, none⟩ = some (.slice a2 rules.length c2) := (B1.out.1.2 10 (by simp)).1
  have g11 : w1.cell? ⟨w.heap.size, 11, none⟩ = some (.slice a3 exprs.length c3) := (B1.out.1.2 11 (by simp)).1
  go_wp2_with fail
  refine (specPutName name _ Zn.out N HN.out).mono ?_
  rintro e w2 ⟨rfl, b2⟩
  have B2 := Lib.hid (B1.out.call b2)
  clear b2
  go_wp2_with fail
  go_ret
  exact ⟨by rw [HV.out] <;> rfl, B2.out.2⟩

set_option maxRecDepth 100000 in
set_option maxHeartbeats 4000000 in
theorem specPut_2 (name on : ByteArray) (list : List ByteArray) (num : Int) (flag : Bool) (ty : Ty) (cols : List Co) (rules : List Ru) (exprs : List Ex) (a0 a1 a2 a3 : Option Addr) (c0 c1 c2 c3 : Nat) (w : World) (HOK : Hid (∀ W, Below w.heap.size w W → Calls Tryz.prog 49 #[.agg #[.int .i64 2, .string name, .string on, .slice a0 list.length c0, .int .i64 num, .bool flag, .int .i64 ty.kind, .int .i64 ty.len, .string ty.name, .slice a1 cols.length c1, .slice a2 rules.length c2, .slice a3 exprs.length c3]] W fun e w' => e = .returned (.bool true) ∧ Below W.heap.size W w')) (r : ByteArray) (HCR : Hid (∀ W, Below w.heap.size w W → Calls Tryz.prog 50 #[.agg #[.int .i64 2, .string name, .string on, .slice a0 list.length c0, .int .i64 num, .bool flag, .int .i64 ty.kind, .int .i64 ty.len, .string ty.name, .slice a1 cols.length c1, .slice a2 rules.length c2, .slice a3 exprs.length c3]] W fun e w' => e = .returned (.string r) ∧ Below W.heap.size W w')) :
    Calls Tryz.prog 17 #[.agg #[.int .i64 2, .string name, .string on, .slice a0 list.length c0, .int .i64 num, .bool flag, .int .i64 ty.kind, .int .i64 ty.len, .string ty.name, .slice a1 cols.length c1, .slice a2 rules.length c2, .slice a3 exprs.length c3]] w fun e w' => e = .returned (.string r) ∧ Below w.heap.size w w' := by
  have HB := Lib.hid (boxV_new w [.int .i64 2, .string name, .string on, .slice a0 list.length c0, .int .i64 num, .bool flag, .int .i64 ty.kind, .int .i64 ty.len, .string ty.name, .slice a1 cols.length c1, .slice a2 rules.length c2, .slice a3 exprs.length c3] 55)
  go_enter Tryz.func17, Tryz.ntmps17
  go_wp2_with fail
  generalize w.alloc (.cells #[.int .i64 2, .string name, .string on, .slice a0 list.length c0, .int .i64 num, .bool flag, .int .i64 ty.kind, .int .i64 ty.len, .string ty.name, .slice a1 cols.length c1, .slice a2 rules.length c2, .slice a3 exprs.length c3] 55) = W0 at HB ⊢
  have g0 : W0.cell? ⟨w.heap.size, 0, none⟩ = some (.int .i64 2) := (HB.out.1.2 0 (by simp)).1
  have g1 : W0.cell? ⟨w.heap.size, 1, none⟩ = some (.string name) := (HB.out.1.2 1 (by simp)).1
  have g2 : W0.cell? ⟨w.heap.size, 2, none⟩ = some (.string on) := (HB.out.1.2 2 (by simp)).1
  have g3 : W0.cell? ⟨w.heap.size, 3, none⟩ = some (.slice a0 list.length c0) := (HB.out.1.2 3 (by simp)).1
  have g4 : W0.cell? ⟨w.heap.size, 4, none⟩ = some (.int .i64 num) := (HB.out.1.2 4 (by simp)).1
  have g5 : W0.cell? ⟨w.heap.size, 5, none⟩ = some (.bool flag) := (HB.out.1.2 5 (by simp)).1
  have g6 : W0.cell? ⟨w.heap.size, 6, none⟩ = some (.int .i64 ty.kind) := (HB.out.1.2 6 (by simp)).1
  have g7 : W0.cell? ⟨w.heap.size, 7, none⟩ = some (.int .i64 ty.len) := (HB.out.1.2 7 (by simp)).1
  have g8 : W0.cell? ⟨w.heap.size, 8, none⟩ = some (.string ty.name) := (HB.out.1.2 8 (by simp)).1
  have g9 : W0.cell? ⟨w.heap.size, 9, none⟩ = some (.slice a1 cols.length c1) := (HB.out.1.2 9 (by simp)).1
  have g10 : W0.cell? ⟨w.heap.size, 10, none⟩ = some (.slice a2 rules.length c2) := (HB.out.1.2 10 (by simp)).1
  have g11 : W0.cell? ⟨w.heap.size, 11, none⟩ = some (.slice a3 exprs.length c3) := (HB.out.1.2 11 (by simp)).1
  refine (HOK.out _ HB.out.2).mono ?_
  rintro e w1 ⟨rfl, b1⟩
  have B1 := Lib.hid (HB.out.call b1)
  clear b1 g0 g1 g2 g3 g4 g5 g6 g7 g8 g9 g10 g11
  have g0 : w1.cell? ⟨w.heap.size, 0, none⟩ = some (.int .i64 2) := (B1.out.1.2 0 (by simp)).1
  have g1 : w1.cell? ⟨w.heap.size, 1, none⟩ = some (.string name) := (B1.out.1.2 1 (by simp)).1
  have g2 : w1.cell? ⟨w.heap.size, 2, none⟩ = some (.string on) := (B1.out.1.2 2 (by simp)).1
  have g3 : w1.cell? ⟨w.heap.size, 3, none⟩ = some (.slice a0 list.length c0) := (B1.out.1.2 3 (by simp)).1
  have g4 : w1.cell? ⟨w.heap.size, 4, none⟩ = some (.int .i64 num) := (B1.out.1.2 4 (by simp)).1
  have g5 : w1.cell? ⟨w.heap.size, 5, none⟩ = some (.bool flag) := (B1.out.1.2 5 (by simp)).1
  have g6 : w1.cell? ⟨w.heap.size, 6, none⟩ = some (.int .i64 ty.kind) := (B1.out.1.2 6 (by simp)).1
  have g7 : w1.cell? ⟨w.heap.size, 7, none⟩ = some (.int .i64 ty.len) := (B1.out.1.2 7 (by simp)).1
  have g8 : w1.cell? ⟨w.heap.size, 8, none⟩ = some (.string ty.name) := (B1.out.1.2 8 (by simp)).1
  have g9 : w1.cell? ⟨w.heap.size, 9, none⟩ = some (.slice a1 cols.length c1) := (B1.out.1.2 9 (by simp)).1
  have g10 : w1.cell? ⟨w.heap.size, 10, none⟩ = some (.slice a2 rules.length c2) := (B1.out.1.2 10 (by simp)).1
  have g11 : w1.cell? ⟨w.heap.size, 11, none⟩ = some (.slice a3 exprs.length c3) := (B1.out.1.2 11 (by simp)).1
  go_wp2_with fail
  refine (HCR.out _ B1.out.2).mono ?_
  rintro e w2 ⟨rfl, b2⟩
  have B2 := Lib.hid (B1.out.call b2)
  clear b2
  go_wp2_with fail
  go_ret
  exact ⟨rfl, B2.out.2⟩

set_option maxRecDepth 100000 in
set_option maxHeartbeats 4000000 in
theorem specPut_3 (name on : ByteArray) (list : List ByteArray) (num : Int) (flag : Bool) (ty : Ty) (cols : List Co) (rules : List Ru) (exprs : List Ex) (a0 a1 a2 a3 : Option Addr) (c0 c1 c2 c3 : Nat) (w : World) (HOK : Hid (∀ W, Below w.heap.size w W → Calls Tryz.prog 49 #[.agg #[.int .i64 3, .string name, .string on, .slice a0 list.length c0, .int .i64 num, .bool flag, .int .i64 ty.kind, .int .i64 ty.len, .string ty.name, .slice a1 cols.length c1, .slice a2 rules.length c2, .slice a3 exprs.length c3]] W fun e w' => e = .returned (.bool true) ∧ Below W.heap.size W w')) (Zn : Hid (name.size ≤ 1048576)) (qn : nmB name = true) (r : ByteArray) (hr : joinT (parts_3 name on list num flag ty cols rules exprs) (txt [32]) = r) :
    Calls Tryz.prog 17 #[.agg #[.int .i64 3, .string name, .string on, .slice a0 list.length c0, .int .i64 num, .bool flag, .int .i64 ty.kind, .int .i64 ty.len, .string ty.name, .slice a1 cols.length c1, .slice a2 rules.length c2, .slice a3 exprs.length c3]] w fun e w' => e = .returned (.string r) ∧ Below w.heap.size w w' := by
  have HB := Lib.hid (boxV_new w [.int .i64 3, .string name, .string on, .slice a0 list.length c0, .int .i64 num, .bool flag, .int .i64 ty.kind, .int .i64 ty.len, .string ty.name, .slice a1 cols.length c1, .slice a2 rules.length c2, .slice a3 exprs.length c3] 55)
  obtain ⟨N, hN⟩ : ∃ N, nameT name = N := ⟨_, rfl⟩
  have zN : N.size ≤ 82 := by rw [← hN]; exact nameT_small qn
  have HN := Lib.hid hN
  have y1 : (ByteArray.mk #[100, 114, 111, 112, 32, 115, 101, 113, 117, 101, 110, 99, 101, 32]).size = 14 := rfl
  obtain ⟨p1, hp1⟩ : ∃ p, p = (ByteArray.mk #[100, 114, 111, 112, 32, 115, 101, 113, 117, 101, 110, 99, 101, 32]) ++ N := ⟨_, rfl⟩
  have adp1 := run_add Tryz.prog (ByteArray.mk #[100, 114, 111, 112, 32, 115, 101, 113, 117, 101, 110, 99, 101, 32]) N p1 hp1 (by omega)
  have HV : Hid (r = p1) := by
    unfold Hid
    rw [← hr, hp1]
    unfold parts_3
    simp only [List.cons_append, List.nil_append]
    rw [hN]
    rw [joinT_cons, joinT_one]
    apply ba_ext
    simp only [ba_list, List.append_assoc]
    rfl
  clear hr hN hp1
  go_enter Tryz.func17, Tryz.ntmps17
  go_wp2_with fail
  generalize w.alloc (.cells #[.int .i64 3, .string name, .string on, .slice a0 list.length c0, .int .i64 num, .bool flag, .int .i64 ty.kind, .int .i64 ty.len, .string ty.name, .slice a1 cols.length c1, .slice a2 rules.length c2, .slice a3 exprs.length c3] 55) = W0 at HB ⊢
  have g0 : W0.cell? ⟨w.heap.size, 0, none⟩ = some (.int .i64 3) := (HB.out.1.2 0 (by simp)).1
  have g1 : W0.cell? ⟨w.heap.size, 1, none⟩ = some (.string name) := (HB.out.1.2 1 (by simp)).1
  have g2 : W0.cell? ⟨w.heap.size, 2, none⟩ = some (.string on) := (HB.out.1.2 2 (by simp)).1
  have g3 : W0.cell? ⟨w.heap.size, 3, none⟩ = some (.slice a0 list.length c0) := (HB.out.1.2 3 (by simp)).1
  have g4 : W0.cell? ⟨w.heap.size, 4, none⟩ = some (.int .i64 num) := (HB.out.1.2 4 (by simp)).1
  have g5 : W0.cell? ⟨w.heap.size, 5, none⟩ = some (.bool flag) := (HB.out.1.2 5 (by simp)).1
  have g6 : W0.cell? ⟨w.heap.size, 6, none⟩ = some (.int .i64 ty.kind) := (HB.out.1.2 6 (by simp)).1
  have g7 : W0.cell? ⟨w.heap.size, 7, none⟩ = some (.int .i64 ty.len) := (HB.out.1.2 7 (by simp)).1
  have g8 : W0.cell? ⟨w.heap.size, 8, none⟩ = some (.string ty.name) := (HB.out.1.2 8 (by simp)).1
  have g9 : W0.cell? ⟨w.heap.size, 9, none⟩ = some (.slice a1 cols.length c1) := (HB.out.1.2 9 (by simp)).1
  have g10 : W0.cell? ⟨w.heap.size, 10, none⟩ = some (.slice a2 rules.length c2) := (HB.out.1.2 10 (by simp)).1
  have g11 : W0.cell? ⟨w.heap.size, 11, none⟩ = some (.slice a3 exprs.length c3) := (HB.out.1.2 11 (by simp)).1
  refine (HOK.out _ HB.out.2).mono ?_
  rintro e w1 ⟨rfl, b1⟩
  have B1 := Lib.hid (HB.out.call b1)
  clear b1 g0 g1 g2 g3 g4 g5 g6 g7 g8 g9 g10 g11
  have g0 : w1.cell? ⟨w.heap.size, 0, none⟩ = some (.int .i64 3) := (B1.out.1.2 0 (by simp)).1
  have g1 : w1.cell? ⟨w.heap.size, 1, none⟩ = some (.string name) := (B1.out.1.2 1 (by simp)).1
  have g2 : w1.cell? ⟨w.heap.size, 2, none⟩ = some (.string on) := (B1.out.1.2 2 (by simp)).1
  have g3 : w1.cell? ⟨w.heap.size, 3, none⟩ = some (.slice a0 list.length c0) := (B1.out.1.2 3 (by simp)).1
  have g4 : w1.cell? ⟨w.heap.size, 4, none⟩ = some (.int .i64 num) := (B1.out.1.2 4 (by simp)).1
  have g5 : w1.cell? ⟨w.heap.size, 5, none⟩ = some (.bool flag) := (B1.out.1.2 5 (by simp)).1
  have g6 : w1.cell? ⟨w.heap.size, 6, none⟩ = some (.int .i64 ty.kind) := (B1.out.1.2 6 (by simp)).1
  have g7 : w1.cell? ⟨w.heap.size, 7, none⟩ = some (.int .i64 ty.len) := (B1.out.1.2 7 (by simp)).1
  have g8 : w1.cell? ⟨w.heap.size, 8, none⟩ = some (.string ty.name) := (B1.out.1.2 8 (by simp)).1
  have g9 : w1.cell? ⟨w.heap.size, 9, none⟩ = some (.slice a1 cols.length c1) := (B1.out.1.2 9 (by simp)).1
  have g10 : w1.cell? ⟨w.heap.size, 10, none⟩ = some (.slice a2 rules.length c2) := (B1.out.1.2 10 (by simp)).1
  have g11 : w1.cell? ⟨w.heap.size, 11, none⟩ = some (.slice a3 exprs.length c3) := (B1.out.1.2 11 (by simp)).1
  go_wp2_with fail
  refine (specPutName name _ Zn.out N HN.out).mono ?_
  rintro e w2 ⟨rfl, b2⟩
  have B2 := Lib.hid (B1.out.call b2)
  clear b2
  go_wp2_with fail
  go_ret
  exact ⟨by rw [HV.out] <;> rfl, B2.out.2⟩

set_option maxRecDepth 100000 in
set_option maxHeartbeats 4000000 in
theorem specPut_4 (name on : ByteArray) (list : List ByteArray) (num : Int) (flag : Bool) (ty : Ty) (cols : List Co) (rules : List Ru) (exprs : List Ex) (a0 a1 a2 a3 : Option Addr) (c0 c1 c2 c3 : Nat) (w : World) (HOK : Hid (∀ W, Below w.heap.size w W → Calls Tryz.prog 49 #[.agg #[.int .i64 4, .string name, .string on, .slice a0 list.length c0, .int .i64 num, .bool flag, .int .i64 ty.kind, .int .i64 ty.len, .string ty.name, .slice a1 cols.length c1, .slice a2 rules.length c2, .slice a3 exprs.length c3]] W fun e w' => e = .returned (.bool true) ∧ Below W.heap.size W w')) (r : ByteArray) (HCR : Hid (∀ W, Below w.heap.size w W → Calls Tryz.prog 50 #[.agg #[.int .i64 4, .string name, .string on, .slice a0 list.length c0, .int .i64 num, .bool flag, .int .i64 ty.kind, .int .i64 ty.len, .string ty.name, .slice a1 cols.length c1, .slice a2 rules.length c2, .slice a3 exprs.length c3]] W fun e w' => e = .returned (.string r) ∧ Below W.heap.size W w')) :
    Calls Tryz.prog 17 #[.agg #[.int .i64 4, .string name, .string on, .slice a0 list.length c0, .int .i64 num, .bool flag, .int .i64 ty.kind, .int .i64 ty.len, .string ty.name, .slice a1 cols.length c1, .slice a2 rules.length c2, .slice a3 exprs.length c3]] w fun e w' => e = .returned (.string r) ∧ Below w.heap.size w w' := by
  have HB := Lib.hid (boxV_new w [.int .i64 4, .string name, .string on, .slice a0 list.length c0, .int .i64 num, .bool flag, .int .i64 ty.kind, .int .i64 ty.len, .string ty.name, .slice a1 cols.length c1, .slice a2 rules.length c2, .slice a3 exprs.length c3] 55)
  go_enter Tryz.func17, Tryz.ntmps17
  go_wp2_with fail
  generalize w.alloc (.cells #[.int .i64 4, .string name, .string on, .slice a0 list.length c0, .int .i64 num, .bool flag, .int .i64 ty.kind, .int .i64 ty.len, .string ty.name, .slice a1 cols.length c1, .slice a2 rules.length c2, .slice a3 exprs.length c3] 55) = W0 at HB ⊢
  have g0 : W0.cell? ⟨w.heap.size, 0, none⟩ = some (.int .i64 4) := (HB.out.1.2 0 (by simp)).1
  have g1 : W0.cell? ⟨w.heap.size, 1, none⟩ = some (.string name) := (HB.out.1.2 1 (by simp)).1
  have g2 : W0.cell? ⟨w.heap.size, 2, none⟩ = some (.string on) := (HB.out.1.2 2 (by simp)).1
  have g3 : W0.cell? ⟨w.heap.size, 3, none⟩ = some (.slice a0 list.length c0) := (HB.out.1.2 3 (by simp)).1
  have g4 : W0.cell? ⟨w.heap.size, 4, none⟩ = some (.int .i64 num) := (HB.out.1.2 4 (by simp)).1
  have g5 : W0.cell? ⟨w.heap.size, 5, none⟩ = some (.bool flag) := (HB.out.1.2 5 (by simp)).1
  have g6 : W0.cell? ⟨w.heap.size, 6, none⟩ = some (.int .i64 ty.kind) := (HB.out.1.2 6 (by simp)).1
  have g7 : W0.cell? ⟨w.heap.size, 7, none⟩ = some (.int .i64 ty.len) := (HB.out.1.2 7 (by simp)).1
  have g8 : W0.cell? ⟨w.heap.size, 8, none⟩ = some (.string ty.name) := (HB.out.1.2 8 (by simp)).1
  have g9 : W0.cell? ⟨w.heap.size, 9, none⟩ = some (.slice a1 cols.length c1) := (HB.out.1.2 9 (by simp)).1
  have g10 : W0.cell? ⟨w.heap.size, 10, none⟩ = some (.slice a2 rules.length c2) := (HB.out.1.2 10 (by simp)).1
  have g11 : W0.cell? ⟨w.heap.size, 11, none⟩ = some (.slice a3 exprs.length c3) := (HB.out.1.2 11 (by simp)).1
  refine (HOK.out _ HB.out.2).mono ?_
  rintro e w1 ⟨rfl, b1⟩
  have B1 := Lib.hid (HB.out.call b1)
  clear b1 g0 g1 g2 g3 g4 g5 g6 g7 g8 g9 g10 g11
  have g0 : w1.cell? ⟨w.heap.size, 0, none⟩ = some (.int .i64 4) := (B1.out.1.2 0 (by simp)).1
  have g1 : w1.cell? ⟨w.heap.size, 1, none⟩ = some (.string name) := (B1.out.1.2 1 (by simp)).1
  have g2 : w1.cell? ⟨w.heap.size, 2, none⟩ = some (.string on) := (B1.out.1.2 2 (by simp)).1
  have g3 : w1.cell? ⟨w.heap.size, 3, none⟩ = some (.slice a0 list.length c0) := (B1.out.1.2 3 (by simp)).1
  have g4 : w1.cell? ⟨w.heap.size, 4, none⟩ = some (.int .i64 num) := (B1.out.1.2 4 (by simp)).1
  have g5 : w1.cell? ⟨w.heap.size, 5, none⟩ = some (.bool flag) := (B1.out.1.2 5 (by simp)).1
  have g6 : w1.cell? ⟨w.heap.size, 6, none⟩ = some (.int .i64 ty.kind) := (B1.out.1.2 6 (by simp)).1
  have g7 : w1.cell? ⟨w.heap.size, 7, none⟩ = some (.int .i64 ty.len) := (B1.out.1.2 7 (by simp)).1
  have g8 : w1.cell? ⟨w.heap.size, 8, none⟩ = some (.string ty.name) := (B1.out.1.2 8 (by simp)).1
  have g9 : w1.cell? ⟨w.heap.size, 9, none⟩ = some (.slice a1 cols.length c1) := (B1.out.1.2 9 (by simp)).1
  have g10 : w1.cell? ⟨w.heap.size, 10, none⟩ = some (.slice a2 rules.length c2) := (B1.out.1.2 10 (by simp)).1
  have g11 : w1.cell? ⟨w.heap.size, 11, none⟩ = some (.slice a3 exprs.length c3) := (B1.out.1.2 11 (by simp)).1
  go_wp2_with fail
  refine (HCR.out _ B1.out.2).mono ?_
  rintro e w2 ⟨rfl, b2⟩
  have B2 := Lib.hid (B1.out.call b2)
  clear b2
  go_wp2_with fail
  go_ret
  exact ⟨rfl, B2.out.2⟩

end Go.Proofs.YtpdcmmhhgnackaaGreatDoor

namespace Go.Proofs.YtpdcmmhhgnackaaGreatDoor
open Go.RowKit

set_option maxRecDepth 100000 in
set_option maxHeartbeats 4000000 in
theorem specPut_5 (name on : ByteArray) (list : List ByteArray) (num : Int) (flag : Bool) (ty : Ty) (cols : List Co) (rules : List Ru) (exprs : List Ex) (a0 a1 a2 a3 : Option Addr) (c0 c1 c2 c3 : Nat) (w : World) (HOK : Hid (∀ W, Below w.heap.size w W → Calls Tryz.prog 49 #[.agg #[.int .i64 5, .string name, .string on, .slice a0 list.length c0, .int .i64 num, .bool flag, .int .i64 ty.kind, .int .i64 ty.len, .string ty.name, .slice a1 cols.length c1, .slice a2 rules.length c2, .slice a3 exprs.length c3]] W fun e w' => e = .returned (.bool true) ∧ Below W.heap.size W w')) (Zn : Hid (name.size ≤ 1048576)) (qn : nmB name = true) (r : ByteArray) (hr : joinT (parts_5 name on list num flag ty cols rules exprs) (txt [32]) = r) :
    Calls Tryz.prog 17 #[.agg #[.int .i64 5, .string name, .string on, .slice a0 list.length c0, .int .i64 num, .bool flag, .int .i64 ty.kind, .int .i64 ty.len, .string ty.name, .slice a1 cols.length c1, .slice a2 rules.length c2, .slice a3 exprs.length c3]] w fun e w' => e = .returned (.string r) ∧ Below w.heap.size w w' := by
  have HB := Lib.hid (boxV_new w [.int .i64 5, .string name, .string on, .slice a0 list.length c0, .int .i64 num, .bool flag, .int .i64 ty.kind, .int .i64 ty.len, .string ty.name, .slice a1 cols.length c1, .slice a2 rules.length c2, .slice a3 exprs.length c3] 55)
  obtain ⟨N, hN⟩ : ∃ N, nameT name = N := ⟨_, rfl⟩
  have zN : N.size ≤ 82 := by rw [← hN]; exact nameT_small qn
  have HN := Lib.hid hN
  have y1 : (ByteArray.mk #[100, 114, 111, 112, 32, 116, 97, 98, 108, 101, 32]).size = 11 := rfl
  obtain ⟨p1, hp1⟩ : ∃ p, p = (ByteArray.mk #[100, 114, 111, 112, 32, 116, 97, 98, 108, 101, 32]) ++ N := ⟨_, rfl⟩
  have adp1 := run_add Tryz.prog (ByteArray.mk #[100, 114, 111, 112, 32, 116, 97, 98, 108, 101, 32]) N p1 hp1 (by omega)
  have HV : Hid (r = p1) := by
    unfold Hid
    rw [← hr, hp1]
    unfold parts_5
    simp only [List.cons_append, List.nil_append]
    rw [hN]
    rw [joinT_cons, joinT_one]
    apply ba_ext
    simp only [ba_list, List.append_assoc]
    rfl
  clear hr hN hp1
  go_enter Tryz.func17, Tryz.ntmps17
  go_wp2_with fail
  generalize w.alloc (.cells #[.int .i64 5, .string name, .string on, .slice a0 list.length c0, .int .i64 num, .bool flag, .int .i64 ty.kind, .int .i64 ty.len, .string ty.name, .slice a1 cols.length c1, .slice a2 rules.length c2, .slice a3 exprs.length c3] 55) = W0 at HB ⊢
  have g0 : W0.cell? ⟨w.heap.size, 0, none⟩ = some (.int .i64 5) := (HB.out.1.2 0 (by simp)).1
  have g1 : W0.cell? ⟨w.heap.size, 1, none⟩ = some (.string name) := (HB.out.1.2 1 (by simp)).1
  have g2 : W0.cell? ⟨w.heap.size, 2, none⟩ = some (.string on) := (HB.out.1.2 2 (by simp)).1
  have g3 : W0.cell? ⟨w.heap.size, 3, none⟩ = some (.slice a0 list.length c0) := (HB.out.1.2 3 (by simp)).1
  have g4 : W0.cell? ⟨w.heap.size, 4, none⟩ = some (.int .i64 num) := (HB.out.1.2 4 (by simp)).1
  have g5 : W0.cell? ⟨w.heap.size, 5, none⟩ = some (.bool flag) := (HB.out.1.2 5 (by simp)).1
  have g6 : W0.cell? ⟨w.heap.size, 6, none⟩ = some (.int .i64 ty.kind) := (HB.out.1.2 6 (by simp)).1
  have g7 : W0.cell? ⟨w.heap.size, 7, none⟩ = some (.int .i64 ty.len) := (HB.out.1.2 7 (by simp)).1
  have g8 : W0.cell? ⟨w.heap.size, 8, none⟩ = some (.string ty.name) := (HB.out.1.2 8 (by simp)).1
  have g9 : W0.cell? ⟨w.heap.size, 9, none⟩ = some (.slice a1 cols.length c1) := (HB.out.1.2 9 (by simp)).1
  have g10 : W0.cell? ⟨w.heap.size, 10, none⟩ = some (.slice a2 rules.length c2) := (HB.out.1.2 10 (by simp)).1
  have g11 : W0.cell? ⟨w.heap.size, 11, none⟩ = some (.slice a3 exprs.length c3) := (HB.out.1.2 11 (by simp)).1
  refine (HOK.out _ HB.out.2).mono ?_
  rintro e w1 ⟨rfl, b1⟩
  have B1 := Lib.hid (HB.out.call b1)
  clear b1 g0 g1 g2 g3 g4 g5 g6 g7 g8 g9 g10 g11
  have g0 : w1.cell? ⟨w.heap.size, 0, none⟩ = some (.int .i64 5) := (B1.out.1.2 0 (by simp)).1
  have g1 : w1.cell? ⟨w.heap.size, 1, none⟩ = some (.string name) := (B1.out.1.2 1 (by simp)).1
  have g2 : w1.cell? ⟨w.heap.size, 2, none⟩ = some (.string on) := (B1.out.1.2 2 (by simp)).1
  have g3 : w1.cell? ⟨w.heap.size, 3, none⟩ = some (.slice a0 list.length c0) := (B1.out.1.2 3 (by simp)).1
  have g4 : w1.cell? ⟨w.heap.size, 4, none⟩ = some (.int .i64 num) := (B1.out.1.2 4 (by simp)).1
  have g5 : w1.cell? ⟨w.heap.size, 5, none⟩ = some (.bool flag) := (B1.out.1.2 5 (by simp)).1
  have g6 : w1.cell? ⟨w.heap.size, 6, none⟩ = some (.int .i64 ty.kind) := (B1.out.1.2 6 (by simp)).1
  have g7 : w1.cell? ⟨w.heap.size, 7, none⟩ = some (.int .i64 ty.len) := (B1.out.1.2 7 (by simp)).1
  have g8 : w1.cell? ⟨w.heap.size, 8, none⟩ = some (.string ty.name) := (B1.out.1.2 8 (by simp)).1
  have g9 : w1.cell? ⟨w.heap.size, 9, none⟩ = some (.slice a1 cols.length c1) := (B1.out.1.2 9 (by simp)).1
  have g10 : w1.cell? ⟨w.heap.size, 10, none⟩ = some (.slice a2 rules.length c2) := (B1.out.1.2 10 (by simp)).1
  have g11 : w1.cell? ⟨w.heap.size, 11, none⟩ = some (.slice a3 exprs.length c3) := (B1.out.1.2 11 (by simp)).1
  go_wp2_with fail
  refine (specPutName name _ Zn.out N HN.out).mono ?_
  rintro e w2 ⟨rfl, b2⟩
  have B2 := Lib.hid (B1.out.call b2)
  clear b2
  go_wp2_with fail
  go_ret
  exact ⟨by rw [HV.out] <;> rfl, B2.out.2⟩

set_option maxRecDepth 100000 in
set_option maxHeartbeats 4000000 in
theorem specPut_6 (name on : ByteArray) (list : List ByteArray) (num : Int) (flag : Bool) (ty : Ty) (cols : List Co) (rules : List Ru) (exprs : List Ex) (a0 a1 a2 a3 : Option Addr) (c0 c1 c2 c3 : Nat) (w : World) (HOK : Hid (∀ W, Below w.heap.size w W → Calls Tryz.prog 49 #[.agg #[.int .i64 6, .string name, .string on, .slice a0 list.length c0, .int .i64 num, .bool flag, .int .i64 ty.kind, .int .i64 ty.len, .string ty.name, .slice a1 cols.length c1, .slice a2 rules.length c2, .slice a3 exprs.length c3]] W fun e w' => e = .returned (.bool true) ∧ Below W.heap.size W w')) (r : ByteArray) (HCR : Hid (∀ W, Below w.heap.size w W → Calls Tryz.prog 51 #[.agg #[.int .i64 6, .string name, .string on, .slice a0 list.length c0, .int .i64 num, .bool flag, .int .i64 ty.kind, .int .i64 ty.len, .string ty.name, .slice a1 cols.length c1, .slice a2 rules.length c2, .slice a3 exprs.length c3]] W fun e w' => e = .returned (.string r) ∧ Below W.heap.size W w')) :
    Calls Tryz.prog 17 #[.agg #[.int .i64 6, .string name, .string on, .slice a0 list.length c0, .int .i64 num, .bool flag, .int .i64 ty.kind, .int .i64 ty.len, .string ty.name, .slice a1 cols.length c1, .slice a2 rules.length c2, .slice a3 exprs.length c3]] w fun e w' => e = .returned (.string r) ∧ Below w.heap.size w w' := by
  have HB := Lib.hid (boxV_new w [.int .i64 6, .string name, .string on, .slice a0 list.length c0, .int .i64 num, .bool flag, .int .i64 ty.kind, .int .i64 ty.len, .string ty.name, .slice a1 cols.length c1, .slice a2 rules.length c2, .slice a3 exprs.length c3] 55)
  go_enter Tryz.func17, Tryz.ntmps17
  go_wp2_with fail
  generalize w.alloc (.cells #[.int .i64 6, .string name, .string on, .slice a0 list.length c0, .int .i64 num, .bool flag, .int .i64 ty.kind, .int .i64 ty.len, .string ty.name, .slice a1 cols.length c1, .slice a2 rules.length c2, .slice a3 exprs.length c3] 55) = W0 at HB ⊢
  have g0 : W0.cell? ⟨w.heap.size, 0, none⟩ = some (.int .i64 6) := (HB.out.1.2 0 (by simp)).1
  have g1 : W0.cell? ⟨w.heap.size, 1, none⟩ = some (.string name) := (HB.out.1.2 1 (by simp)).1
  have g2 : W0.cell? ⟨w.heap.size, 2, none⟩ = some (.string on) := (HB.out.1.2 2 (by simp)).1
  have g3 : W0.cell? ⟨w.heap.size, 3, none⟩ = some (.slice a0 list.length c0) := (HB.out.1.2 3 (by simp)).1
  have g4 : W0.cell? ⟨w.heap.size, 4, none⟩ = some (.int .i64 num) := (HB.out.1.2 4 (by simp)).1
  have g5 : W0.cell? ⟨w.heap.size, 5, none⟩ = some (.bool flag) := (HB.out.1.2 5 (by simp)).1
  have g6 : W0.cell? ⟨w.heap.size, 6, none⟩ = some (.int .i64 ty.kind) := (HB.out.1.2 6 (by simp)).1
  have g7 : W0.cell? ⟨w.heap.size, 7, none⟩ = some (.int .i64 ty.len) := (HB.out.1.2 7 (by simp)).1
  have g8 : W0.cell? ⟨w.heap.size, 8, none⟩ = some (.string ty.name) := (HB.out.1.2 8 (by simp)).1
  have g9 : W0.cell? ⟨w.heap.size, 9, none⟩ = some (.slice a1 cols.length c1) := (HB.out.1.2 9 (by simp)).1
  have g10 : W0.cell? ⟨w.heap.size, 10, none⟩ = some (.slice a2 rules.length c2) := (HB.out.1.2 10 (by simp)).1
  have g11 : W0.cell? ⟨w.heap.size, 11, none⟩ = some (.slice a3 exprs.length c3) := (HB.out.1.2 11 (by simp)).1
  refine (HOK.out _ HB.out.2).mono ?_
  rintro e w1 ⟨rfl, b1⟩
  have B1 := Lib.hid (HB.out.call b1)
  clear b1 g0 g1 g2 g3 g4 g5 g6 g7 g8 g9 g10 g11
  have g0 : w1.cell? ⟨w.heap.size, 0, none⟩ = some (.int .i64 6) := (B1.out.1.2 0 (by simp)).1
  have g1 : w1.cell? ⟨w.heap.size, 1, none⟩ = some (.string name) := (B1.out.1.2 1 (by simp)).1
  have g2 : w1.cell? ⟨w.heap.size, 2, none⟩ = some (.string on) := (B1.out.1.2 2 (by simp)).1
  have g3 : w1.cell? ⟨w.heap.size, 3, none⟩ = some (.slice a0 list.length c0) := (B1.out.1.2 3 (by simp)).1
  have g4 : w1.cell? ⟨w.heap.size, 4, none⟩ = some (.int .i64 num) := (B1.out.1.2 4 (by simp)).1
  have g5 : w1.cell? ⟨w.heap.size, 5, none⟩ = some (.bool flag) := (B1.out.1.2 5 (by simp)).1
  have g6 : w1.cell? ⟨w.heap.size, 6, none⟩ = some (.int .i64 ty.kind) := (B1.out.1.2 6 (by simp)).1
  have g7 : w1.cell? ⟨w.heap.size, 7, none⟩ = some (.int .i64 ty.len) := (B1.out.1.2 7 (by simp)).1
  have g8 : w1.cell? ⟨w.heap.size, 8, none⟩ = some (.string ty.name) := (B1.out.1.2 8 (by simp)).1
  have g9 : w1.cell? ⟨w.heap.size, 9, none⟩ = some (.slice a1 cols.length c1) := (B1.out.1.2 9 (by simp)).1
  have g10 : w1.cell? ⟨w.heap.size, 10, none⟩ = some (.slice a2 rules.length c2) := (B1.out.1.2 10 (by simp)).1
  have g11 : w1.cell? ⟨w.heap.size, 11, none⟩ = some (.slice a3 exprs.length c3) := (B1.out.1.2 11 (by simp)).1
  go_wp2_with fail
  refine (HCR.out _ B1.out.2).mono ?_
  rintro e w2 ⟨rfl, b2⟩
  have B2 := Lib.hid (B1.out.call b2)
  clear b2
  go_wp2_with fail
  go_ret
  exact ⟨rfl, B2.out.2⟩

set_option maxRecDepth 100000 in
set_option maxHeartbeats 4000000 in
theorem specPut_7 (name on : ByteArray) (list : List ByteArray) (num : Int) (flag : Bool) (ty : Ty) (cols : List Co) (rules : List Ru) (exprs : List Ex) (a0 a1 a2 a3 : Option Addr) (c0 c1 c2 c3 : Nat) (w : World) (HOK : Hid (∀ W, Below w.heap.size w W → Calls Tryz.prog 49 #[.agg #[.int .i64 7, .string name, .string on, .slice a0 list.length c0, .int .i64 num, .bool flag, .int .i64 ty.kind, .int .i64 ty.len, .string ty.name, .slice a1 cols.length c1, .slice a2 rules.length c2, .slice a3 exprs.length c3]] W fun e w' => e = .returned (.bool true) ∧ Below W.heap.size W w')) (r : ByteArray) (HCR : Hid (∀ W, Below w.heap.size w W → Calls Tryz.prog 51 #[.agg #[.int .i64 7, .string name, .string on, .slice a0 list.length c0, .int .i64 num, .bool flag, .int .i64 ty.kind, .int .i64 ty.len, .string ty.name, .slice a1 cols.length c1, .slice a2 rules.length c2, .slice a3 exprs.length c3]] W fun e w' => e = .returned (.string r) ∧ Below W.heap.size W w')) :
    Calls Tryz.prog 17 #[.agg #[.int .i64 7, .string name, .string on, .slice a0 list.length c0, .int .i64 num, .bool flag, .int .i64 ty.kind, .int .i64 ty.len, .string ty.name, .slice a1 cols.length c1, .slice a2 rules.length c2, .slice a3 exprs.length c3]] w fun e w' => e = .returned (.string r) ∧ Below w.heap.size w w' := by
  have HB := Lib.hid (boxV_new w [.int .i64 7, .string name, .string on, .slice a0 list.length c0, .int .i64 num, .bool flag, .int .i64 ty.kind, .int .i64 ty.len, .string ty.name, .slice a1 cols.length c1, .slice a2 rules.length c2, .slice a3 exprs.length c3] 55)
  go_enter Tryz.func17, Tryz.ntmps17
  go_wp2_with fail
  generalize w.alloc (.cells #[.int .i64 7, .string name, .string on, .slice a0 list.length c0, .int .i64 num, .bool flag, .int .i64 ty.kind, .int .i64 ty.len, .string ty.name, .slice a1 cols.length c1, .slice a2 rules.length c2, .slice a3 exprs.length c3] 55) = W0 at HB ⊢
  have g0 : W0.cell? ⟨w.heap.size, 0, none⟩ = some (.int .i64 7) := (HB.out.1.2 0 (by simp)).1
  have g1 : W0.cell? ⟨w.heap.size, 1, none⟩ = some (.string name) := (HB.out.1.2 1 (by simp)).1
  have g2 : W0.cell? ⟨w.heap.size, 2, none⟩ = some (.string on) := (HB.out.1.2 2 (by simp)).1
  have g3 : W0.cell? ⟨w.heap.size, 3, none⟩ = some (.slice a0 list.length c0) := (HB.out.1.2 3 (by simp)).1
  have g4 : W0.cell? ⟨w.heap.size, 4, none⟩ = some (.int .i64 num) := (HB.out.1.2 4 (by simp)).1
  have g5 : W0.cell? ⟨w.heap.size, 5, none⟩ = some (.bool flag) := (HB.out.1.2 5 (by simp)).1
  have g6 : W0.cell? ⟨w.heap.size, 6, none⟩ = some (.int .i64 ty.kind) := (HB.out.1.2 6 (by simp)).1
  have g7 : W0.cell? ⟨w.heap.size, 7, none⟩ = some (.int .i64 ty.len) := (HB.out.1.2 7 (by simp)).1
  have g8 : W0.cell? ⟨w.heap.size, 8, none⟩ = some (.string ty.name) := (HB.out.1.2 8 (by simp)).1
  have g9 : W0.cell? ⟨w.heap.size, 9, none⟩ = some (.slice a1 cols.length c1) := (HB.out.1.2 9 (by simp)).1
  have g10 : W0.cell? ⟨w.heap.size, 10, none⟩ = some (.slice a2 rules.length c2) := (HB.out.1.2 10 (by simp)).1
  have g11 : W0.cell? ⟨w.heap.size, 11, none⟩ = some (.slice a3 exprs.length c3) := (HB.out.1.2 11 (by simp)).1
  refine (HOK.out _ HB.out.2).mono ?_
  rintro e w1 ⟨rfl, b1⟩
  have B1 := Lib.hid (HB.out.call b1)
  clear b1 g0 g1 g2 g3 g4 g5 g6 g7 g8 g9 g10 g11
  have g0 : w1.cell? ⟨w.heap.size, 0, none⟩ = some (.int .i64 7) := (B1.out.1.2 0 (by simp)).1
  have g1 : w1.cell? ⟨w.heap.size, 1, none⟩ = some (.string name) := (B1.out.1.2 1 (by simp)).1
  have g2 : w1.cell? ⟨w.heap.size, 2, none⟩ = some (.string on) := (B1.out.1.2 2 (by simp)).1
  have g3 : w1.cell? ⟨w.heap.size, 3, none⟩ = some (.slice a0 list.length c0) := (B1.out.1.2 3 (by simp)).1
  have g4 : w1.cell? ⟨w.heap.size, 4, none⟩ = some (.int .i64 num) := (B1.out.1.2 4 (by simp)).1
  have g5 : w1.cell? ⟨w.heap.size, 5, none⟩ = some (.bool flag) := (B1.out.1.2 5 (by simp)).1
  have g6 : w1.cell? ⟨w.heap.size, 6, none⟩ = some (.int .i64 ty.kind) := (B1.out.1.2 6 (by simp)).1
  have g7 : w1.cell? ⟨w.heap.size, 7, none⟩ = some (.int .i64 ty.len) := (B1.out.1.2 7 (by simp)).1
  have g8 : w1.cell? ⟨w.heap.size, 8, none⟩ = some (.string ty.name) := (B1.out.1.2 8 (by simp)).1
  have g9 : w1.cell? ⟨w.heap.size, 9, none⟩ = some (.slice a1 cols.length c1) := (B1.out.1.2 9 (by simp)).1
  have g10 : w1.cell? ⟨w.heap.size, 10, none⟩ = some (.slice a2 rules.length c2) := (B1.out.1.2 10 (by simp)).1
  have g11 : w1.cell? ⟨w.heap.size, 11, none⟩ = some (.slice a3 exprs.length c3) := (B1.out.1.2 11 (by simp)).1
  go_wp2_with fail
  refine (HCR.out _ B1.out.2).mono ?_
  rintro e w2 ⟨rfl, b2⟩
  have B2 := Lib.hid (B1.out.call b2)
  clear b2
  go_wp2_with fail
  go_ret
  exact ⟨rfl, B2.out.2⟩

set_option maxRecDepth 100000 in
set_option maxHeartbeats 4000000 in
theorem specPut_8 (name on : ByteArray) (list : List ByteArray) (num : Int) (flag : Bool) (ty : Ty) (cols : List Co) (rules : List Ru) (exprs : List Ex) (a0 a1 a2 a3 : Option Addr) (c0 c1 c2 c3 : Nat) (w : World) (HOK : Hid (∀ W, Below w.heap.size w W → Calls Tryz.prog 49 #[.agg #[.int .i64 8, .string name, .string on, .slice a0 list.length c0, .int .i64 num, .bool flag, .int .i64 ty.kind, .int .i64 ty.len, .string ty.name, .slice a1 cols.length c1, .slice a2 rules.length c2, .slice a3 exprs.length c3]] W fun e w' => e = .returned (.bool true) ∧ Below W.heap.size W w')) (r : ByteArray) (HCR : Hid (∀ W, Below w.heap.size w W → Calls Tryz.prog 51 #[.agg #[.int .i64 8, .string name, .string on, .slice a0 list.length c0, .int .i64 num, .bool flag, .int .i64 ty.kind, .int .i64 ty.len, .string ty.name, .slice a1 cols.length c1, .slice a2 rules.length c2, .slice a3 exprs.length c3]] W fun e w' => e = .returned (.string r) ∧ Below W.heap.size W w')) :
    Calls Tryz.prog 17 #[.agg #[.int .i64 8, .string name, .string on, .slice a0 list.length c0, .int .i64 num, .bool flag, .int .i64 ty.kind, .int .i64 ty.len, .string ty.name, .slice a1 cols.length c1, .slice a2 rules.length c2, .slice a3 exprs.length c3]] w fun e w' => e = .returned (.string r) ∧ Below w.heap.size w w' := by
  have HB := Lib.hid (boxV_new w [.int .i64 8, .string name, .string on, .slice a0 list.length c0, .int .i64 num, .bool flag, .int .i64 ty.kind, .int .i64 ty.len, .string ty.name, .slice a1 cols.length c1, .slice a2 rules.length c2, .slice a3 exprs.length c3] 55)
  go_enter Tryz.func17, Tryz.ntmps17
  go_wp2_with fail
  generalize w.alloc (.cells #[.int .i64 8, .string name, .string on, .slice a0 list.length c0, .int .i64 num, .bool flag, .int .i64 ty.kind, .int .i64 ty.len, .string ty.name, .slice a1 cols.length c1, .slice a2 rules.length c2, .slice a3 exprs.length c3] 55) = W0 at HB ⊢
  have g0 : W0.cell? ⟨w.heap.size, 0, none⟩ = some (.int .i64 8) := (HB.out.1.2 0 (by simp)).1
  have g1 : W0.cell? ⟨w.heap.size, 1, none⟩ = some (.string name) := (HB.out.1.2 1 (by simp)).1
  have g2 : W0.cell? ⟨w.heap.size, 2, none⟩ = some (.string on) := (HB.out.1.2 2 (by simp)).1
  have g3 : W0.cell? ⟨w.heap.size, 3, none⟩ = some (.slice a0 list.length c0) := (HB.out.1.2 3 (by simp)).1
  have g4 : W0.cell? ⟨w.heap.size, 4, none⟩ = some (.int .i64 num) := (HB.out.1.2 4 (by simp)).1
  have g5 : W0.cell? ⟨w.heap.size, 5, none⟩ = some (.bool flag) := (HB.out.1.2 5 (by simp)).1
  have g6 : W0.cell? ⟨w.heap.size, 6, none⟩ = some (.int .i64 ty.kind) := (HB.out.1.2 6 (by simp)).1
  have g7 : W0.cell? ⟨w.heap.size, 7, none⟩ = some (.int .i64 ty.len) := (HB.out.1.2 7 (by simp)).1
  have g8 : W0.cell? ⟨w.heap.size, 8, none⟩ = some (.string ty.name) := (HB.out.1.2 8 (by simp)).1
  have g9 : W0.cell? ⟨w.heap.size, 9, none⟩ = some (.slice a1 cols.length c1) := (HB.out.1.2 9 (by simp)).1
  have g10 : W0.cell? ⟨w.heap.size, 10, none⟩ = some (.slice a2 rules.length c2) := (HB.out.1.2 10 (by simp)).1
  have g11 : W0.cell? ⟨w.heap.size, 11, none⟩ = some (.slice a3 exprs.length c3) := (HB.out.1.2 11 (by simp)).1
  refine (HOK.out _ HB.out.2).mono ?_
  rintro e w1 ⟨rfl, b1⟩
  have B1 := Lib.hid (HB.out.call b1)
  clear b1 g0 g1 g2 g3 g4 g5 g6 g7 g8 g9 g10 g11
  have g0 : w1.cell? ⟨w.heap.size, 0, none⟩ = some (.int .i64 8) := (B1.out.1.2 0 (by simp)).1
  have g1 : w1.cell? ⟨w.heap.size, 1, none⟩ = some (.string name) := (B1.out.1.2 1 (by simp)).1
  have g2 : w1.cell? ⟨w.heap.size, 2, none⟩ = some (.string on) := (B1.out.1.2 2 (by simp)).1
  have g3 : w1.cell? ⟨w.heap.size, 3, none⟩ = some (.slice a0 list.length c0) := (B1.out.1.2 3 (by simp)).1
  have g4 : w1.cell? ⟨w.heap.size, 4, none⟩ = some (.int .i64 num) := (B1.out.1.2 4 (by simp)).1
  have g5 : w1.cell? ⟨w.heap.size, 5, none⟩ = some (.bool flag) := (B1.out.1.2 5 (by simp)).1
  have g6 : w1.cell? ⟨w.heap.size, 6, none⟩ = some (.int .i64 ty.kind) := (B1.out.1.2 6 (by simp)).1
  have g7 : w1.cell? ⟨w.heap.size, 7, none⟩ = some (.int .i64 ty.len) := (B1.out.1.2 7 (by simp)).1
  have g8 : w1.cell? ⟨w.heap.size, 8, none⟩ = some (.string ty.name) := (B1.out.1.2 8 (by simp)).1
  have g9 : w1.cell? ⟨w.heap.size, 9, none⟩ = some (.slice a1 cols.length c1) := (B1.out.1.2 9 (by simp)).1
  have g10 : w1.cell? ⟨w.heap.size, 10, none⟩ = some (.slice a2 rules.length c2) := (B1.out.1.2 10 (by simp)).1
  have g11 : w1.cell? ⟨w.heap.size, 11, none⟩ = some (.slice a3 exprs.length c3) := (B1.out.1.2 11 (by simp)).1
  go_wp2_with fail
  refine (HCR.out _ B1.out.2).mono ?_
  rintro e w2 ⟨rfl, b2⟩
  have B2 := Lib.hid (B1.out.call b2)
  clear b2
  go_wp2_with fail
  go_ret
  exact ⟨rfl, B2.out.2⟩

set_option maxRecDepth 100000 in
set_option maxHeartbeats 4000000 in
theorem specPut_9 (name on : ByteArray) (list : List ByteArray) (num : Int) (flag : Bool) (ty : Ty) (cols : List Co) (rules : List Ru) (exprs : List Ex) (a0 a1 a2 a3 : Option Addr) (c0 c1 c2 c3 : Nat) (w : World) (HOK : Hid (∀ W, Below w.heap.size w W → Calls Tryz.prog 49 #[.agg #[.int .i64 9, .string name, .string on, .slice a0 list.length c0, .int .i64 num, .bool flag, .int .i64 ty.kind, .int .i64 ty.len, .string ty.name, .slice a1 cols.length c1, .slice a2 rules.length c2, .slice a3 exprs.length c3]] W fun e w' => e = .returned (.bool true) ∧ Below W.heap.size W w')) (r : ByteArray) (HCR : Hid (∀ W, Below w.heap.size w W → Calls Tryz.prog 51 #[.agg #[.int .i64 9, .string name, .string on, .slice a0 list.length c0, .int .i64 num, .bool flag, .int .i64 ty.kind, .int .i64 ty.len, .string ty.name, .slice a1 cols.length c1, .slice a2 rules.length c2, .slice a3 exprs.length c3]] W fun e w' => e = .returned (.string r) ∧ Below W.heap.size W w')) :
    Calls Tryz.prog 17 #[.agg #[.int .i64 9, .string name, .string on, .slice a0 list.length c0, .int .i64 num, .bool flag, .int .i64 ty.kind, .int .i64 ty.len, .string ty.name, .slice a1 cols.length c1, .slice a2 rules.length c2, .slice a3 exprs.length c3]] w fun e w' => e = .returned (.string r) ∧ Below w.heap.size w w' := by
  have HB := Lib.hid (boxV_new w [.int .i64 9, .string name, .string on, .slice a0 list.length c0, .int .i64 num, .bool flag, .int .i64 ty.kind, .int .i64 ty.len, .string ty.name, .slice a1 cols.length c1, .slice a2 rules.length c2, .slice a3 exprs.length c3] 55)
  go_enter Tryz.func17, Tryz.ntmps17
  go_wp2_with fail
  generalize w.alloc (.cells #[.int .i64 9, .string name, .string on, .slice a0 list.length c0, .int .i64 num, .bool flag, .int .i64 ty.kind, .int .i64 ty.len, .string ty.name, .slice a1 cols.length c1, .slice a2 rules.length c2, .slice a3 exprs.length c3] 55) = W0 at HB ⊢
  have g0 : W0.cell? ⟨w.heap.size, 0, none⟩ = some (.int .i64 9) := (HB.out.1.2 0 (by simp)).1
  have g1 : W0.cell? ⟨w.heap.size, 1, none⟩ = some (.string name) := (HB.out.1.2 1 (by simp)).1
  have g2 : W0.cell? ⟨w.heap.size, 2, none⟩ = some (.string on) := (HB.out.1.2 2 (by simp)).1
  have g3 : W0.cell? ⟨w.heap.size, 3, none⟩ = some (.slice a0 list.length c0) := (HB.out.1.2 3 (by simp)).1
  have g4 : W0.cell? ⟨w.heap.size, 4, none⟩ = some (.int .i64 num) := (HB.out.1.2 4 (by simp)).1
  have g5 : W0.cell? ⟨w.heap.size, 5, none⟩ = some (.bool flag) := (HB.out.1.2 5 (by simp)).1
  have g6 : W0.cell? ⟨w.heap.size, 6, none⟩ = some (.int .i64 ty.kind) := (HB.out.1.2 6 (by simp)).1
  have g7 : W0.cell? ⟨w.heap.size, 7, none⟩ = some (.int .i64 ty.len) := (HB.out.1.2 7 (by simp)).1
  have g8 : W0.cell? ⟨w.heap.size, 8, none⟩ = some (.string ty.name) := (HB.out.1.2 8 (by simp)).1
  have g9 : W0.cell? ⟨w.heap.size, 9, none⟩ = some (.slice a1 cols.length c1) := (HB.out.1.2 9 (by simp)).1
  have g10 : W0.cell? ⟨w.heap.size, 10, none⟩ = some (.slice a2 rules.length c2) := (HB.out.1.2 10 (by simp)).1
  have g11 : W0.cell? ⟨w.heap.size, 11, none⟩ = some (.slice a3 exprs.length c3) := (HB.out.1.2 11 (by simp)).1
  refine (HOK.out _ HB.out.2).mono ?_
  rintro e w1 ⟨rfl, b1⟩
  have B1 := Lib.hid (HB.out.call b1)
  clear b1 g0 g1 g2 g3 g4 g5 g6 g7 g8 g9 g10 g11
  have g0 : w1.cell? ⟨w.heap.size, 0, none⟩ = some (.int .i64 9) := (B1.out.1.2 0 (by simp)).1
  have g1 : w1.cell? ⟨w.heap.size, 1, none⟩ = some (.string name) := (B1.out.1.2 1 (by simp)).1
  have g2 : w1.cell? ⟨w.heap.size, 2, none⟩ = some (.string on) := (B1.out.1.2 2 (by simp)).1
  have g3 : w1.cell? ⟨w.heap.size, 3, none⟩ = some (.slice a0 list.length c0) := (B1.out.1.2 3 (by simp)).1
  have g4 : w1.cell? ⟨w.heap.size, 4, none⟩ = some (.int .i64 num) := (B1.out.1.2 4 (by simp)).1
  have g5 : w1.cell? ⟨w.heap.size, 5, none⟩ = some (.bool flag) := (B1.out.1.2 5 (by simp)).1
  have g6 : w1.cell? ⟨w.heap.size, 6, none⟩ = some (.int .i64 ty.kind) := (B1.out.1.2 6 (by simp)).1
  have g7 : w1.cell? ⟨w.heap.size, 7, none⟩ = some (.int .i64 ty.len) := (B1.out.1.2 7 (by simp)).1
  have g8 : w1.cell? ⟨w.heap.size, 8, none⟩ = some (.string ty.name) := (B1.out.1.2 8 (by simp)).1
  have g9 : w1.cell? ⟨w.heap.size, 9, none⟩ = some (.slice a1 cols.length c1) := (B1.out.1.2 9 (by simp)).1
  have g10 : w1.cell? ⟨w.heap.size, 10, none⟩ = some (.slice a2 rules.length c2) := (B1.out.1.2 10 (by simp)).1
  have g11 : w1.cell? ⟨w.heap.size, 11, none⟩ = some (.slice a3 exprs.length c3) := (B1.out.1.2 11 (by simp)).1
  go_wp2_with fail
  refine (HCR.out _ B1.out.2).mono ?_
  rintro e w2 ⟨rfl, b2⟩
  have B2 := Lib.hid (B1.out.call b2)
  clear b2
  go_wp2_with fail
  go_ret
  exact ⟨rfl, B2.out.2⟩

end Go.Proofs.YtpdcmmhhgnackaaGreatDoor
