/- The model's text of a statement of one kind. Written by tools/gen_put.py. -/
/- The model's text of a statement of one kind. Written by tools/gen_put.py. -/
/- The model's text of a statement. Written by tools/gen_put.py. -/
import Derived.Test.YtpdcmmhhgnackaaGreatDoorMPsD
import Derived.Test.YtpdcmmhhgnackaaGreatDoorMPsA
import Derived.Test.YtpdcmmhhgnackaaGreatDoorMPsC
import Derived.Test.YtpdcmmhhgnackaaGreatDoorMStmtS
import Derived.Test.YtpdcmmhhgnackaaGreatDoorMPutSa
namespace Go.Proofs.YtpdcmmhhgnackaaGreatDoor
open Go.RowKit

set_option maxRecDepth 100000 in
set_option maxHeartbeats 4000000 in
theorem specPut_10 (name on : ByteArray) (list : List ByteArray) (num : Int) (flag : Bool) (ty : Ty) (cols : List Co) (rules : List Ru) (exprs : List Ex) (a0 a1 a2 a3 : Option Addr) (c0 c1 c2 c3 : Nat) (w : World) (HOK : Hid (∀ W, Below w.heap.size w W → Calls Tryz.prog 49 #[.agg #[.int .i64 10, .string name, .string on, .slice a0 list.length c0, .int .i64 num, .bool flag, .int .i64 ty.kind, .int .i64 ty.len, .string ty.name, .slice a1 cols.length c1, .slice a2 rules.length c2, .slice a3 exprs.length c3]] W fun e w' => e = .returned (.bool true) ∧ Below W.heap.size W w')) (r : ByteArray) (HCR : Hid (∀ W, Below w.heap.size w W → Calls Tryz.prog 51 #[.agg #[.int .i64 10, .string name, .string on, .slice a0 list.length c0, .int .i64 num, .bool flag, .int .i64 ty.kind, .int .i64 ty.len, .string ty.name, .slice a1 cols.length c1, .slice a2 rules.length c2, .slice a3 exprs.length c3]] W fun e w' => e = .returned (.string r) ∧ Below W.heap.size W w')) :
    Calls Tryz.prog 17 #[.agg #[.int .i64 10, .string name, .string on, .slice a0 list.length c0, .int .i64 num, .bool flag, .int .i64 ty.kind, .int .i64 ty.len, .string ty.name, .slice a1 cols.length c1, .slice a2 rules.length c2, .slice a3 exprs.length c3]] w fun e w' => e = .returned (.string r) ∧ Below w.heap.size w w' := by
  have HB := Lib.hid (boxV_new w [.int .i64 10, .string name, .string on, .slice a0 list.length c0, .int .i64 num, .bool flag, .int .i64 ty.kind, .int .i64 ty.len, .string ty.name, .slice a1 cols.length c1, .slice a2 rules.length c2, .slice a3 exprs.length c3] 55)
  go_enter Tryz.func17, Tryz.ntmps17
  go_wp2_with fail
  generalize w.alloc (.cells #[.int .i64 10, .string name, .string on, .slice a0 list.length c0, .int .i64 num, .bool flag, .int .i64 ty.kind, .int .i64 ty.len, .string ty.name, .slice a1 cols.length c1, .slice a2 rules.length c2, .slice a3 exprs.length c3] 55) = W0 at HB ⊢
  have g0 : W0.cell? ⟨w.heap.size, 0, none⟩ = some (.int .i64 10) := (HB.out.1.2 0 (by simp)).1
  have g1 : W0.cell? ⟨w.heap.size, 1, none⟩ = some (.string name) := (HB.out.1.2 1 (by simp)).1
  have g2 : W0.cell? ⟨w.heap.size, 2, none⟩ = some (.string on) := (HB.out.1.2 2 (by simp)).1
  have g3 : W0.cell? ⟨w.heap.size, 3, none⟩ = some (.slice a0 list.length c0) := (HB.out.1.2 3 (by simp)).1
  have g4 : W0.cell? ⟨w.heap.size, 4, none⟩ = some (.int .i64 num) := (HB.out.1.2 4 (by simp)).1
  have g5 : W0.cell? ⟨w.heap.size, 5, none⟩ = some (.bool flag) := (HB.out.1.2 5 (by simp)).1
  have g6 : W0.cell? ⟨w.heap.size, 6, none⟩ = some (.int .i64 ty.kind) := (HB.out.1.2 6 (by simp)).1
  have g7 : W0.cell? ⟨w.heap.size, 7, none⟩ = some (.int .i64 ty.len) := (HB.out.1.2 7 (by simp)).1
  have g8 : W0.cell? ⟨w.heap.size, 8, none⟩ = some (.string ty.name) := (HB.out.1.2 8 (by simp)).1
  have g9 : W0.cell? ⟨w.heap.size, 9, none⟩ = some (.slice a1 cols.length c1) := (HB.out.1.2 9 (by simp)).1
  have g10 : W0.cell? ⟨w.heap.size, 10, none⟩ = some (.slice a2 rules.length c2) := (HB.out.1.2 10 (by simp)).1
  have g11 : W0.cell? ⟨w.heap.size, 11, none⟩ = some (.slice a3 exprs.length c3) := (HB.out.1.2 11 (by simp)).1
  refine (HOK.out _ HB.out.2).mono ?_
  rintro e w1 ⟨rfl, b1⟩
  have B1 := Lib.hid (HB.out.call b1)
  clear b1 g0 g1 g2 g3 g4 g5 g6 g7 g8 g9 g10 g11
  have g0 : w1.cell? ⟨w.heap.size, 0, none⟩ = some (.int .i64 10) := (B1.out.1.2 0 (by simp)).1
  have g1 : w1.cell? ⟨w.heap.size, 1, none⟩ = some (.string name) := (B1.out.1.2 1 (by simp)).1
  have g2 : w1.cell? ⟨w.heap.size, 2, none⟩ = some (.string on) := (B1.out.1.2 2 (by simp)).1
  have g3 : w1.cell? ⟨w.heap.size, 3, none⟩ = some (.slice a0 list.length c0) := (B1.out.1.2 3 (by simp)).1
  have g4 : w1.cell? ⟨w.heap.size, 4, none⟩ = some (.int .i64 num) := (B1.out.1.2 4 (by simp)).1
  have g5 : w1.cell? ⟨w.heap.size, 5, none⟩ = some (.bool flag) := (B1.out.1.2 5 (by simp)).1
  have g6 : w1.cell? ⟨w.heap.size, 6, none⟩ = some (.int .i64 ty.kind) := (B1.out.1.2 6 (by simp)).1
  have g7 : w1.cell? ⟨w.heap.size, 7, none⟩ = some (.int .i64 ty.len) := (B1.out.1.2 7 (by simp)).1
  have g8 : w1.cell? ⟨w.heap.size, 8, none⟩ = some (.string ty.name) := (B1.out.1.2 8 (by simp)).1
  have g9 : w1.cell? ⟨w.heap.size, 9, none⟩ = some (.slice a1 cols.length c1) := (B1.out.1.2 9 (by simp)).1
  have g10 : w1.cell? ⟨w.heap.size, 10, none⟩ = some (.slice a2 rules.length c2) := (B1.out.1.2 10 (by simp)).1
  have g11 : w1.cell? ⟨w.heap.size, 11, none⟩ = some (.slice a3 exprs.length c3) := (B1.out.1.2 11 (by simp)).1
  go_wp2_with fail
  refine (HCR.out _ B1.out.2).mono ?_
  rintro e w2 ⟨rfl, b2⟩
  have B2 := Lib.hid (B1.out.call b2)
  clear b2
  go_wp2_with fail
  go_ret
  exact ⟨rfl, B2.out.2⟩

set_option maxRecDepth 100000 in
set_option maxHeartbeats 4000000 in
theorem specPut_11 (name on : ByteArray) (list : List ByteArray) (num : Int) (flag : Bool) (ty : Ty) (cols : List Co) (rules : List Ru) (exprs : List Ex) (a0 a1 a2 a3 : Option Addr) (c0 c1 c2 c3 : Nat) (w : World) (HOK : Hid (∀ W, Below w.heap.size w W → Calls Tryz.prog 49 #[.agg #[.int .i64 11, .string name, .string on, .slice a0 list.length c0, .int .i64 num, .bool flag, .int .i64 ty.kind, .int .i64 ty.len, .string ty.name, .slice a1 cols.length c1, .slice a2 rules.length c2, .slice a3 exprs.length c3]] W fun e w' => e = .returned (.bool true) ∧ Below W.heap.size W w')) (r : ByteArray) (HCR : Hid (∀ W, Below w.heap.size w W → Calls Tryz.prog 51 #[.agg #[.int .i64 11, .string name, .string on, .slice a0 list.length c0, .int .i64 num, .bool flag, .int .i64 ty.kind, .int .i64 ty.len, .string ty.name, .slice a1 cols.length c1, .slice a2 rules.length c2, .slice a3 exprs.length c3]] W fun e w' => e = .returned (.string r) ∧ Below W.heap.size W w')) :
    Calls Tryz.prog 17 #[.agg #[.int .i64 11, .string name, .string on, .slice a0 list.length c0, .int .i64 num, .bool flag, .int .i64 ty.kind, .int .i64 ty.len, .string ty.name, .slice a1 cols.length c1, .slice a2 rules.length c2, .slice a3 exprs.length c3]] w fun e w' => e = .returned (.string r) ∧ Below w.heap.size w w' := by
  have HB := Lib.hid (boxV_new w [.int .i64 11, .string name, .string on, .slice a0 list.length c0, .int .i64 num, .bool flag, .int .i64 ty.kind, .int .i64 ty.len, .string ty.name, .slice a1 cols.length c1, .slice a2 rules.length c2, .slice a3 exprs.length c3] 55)
  go_enter Tryz.func17, Tryz.ntmps17
  go_wp2_with fail
  generalize w.alloc (.cells #[.int .i64 11, .string name, .string on, .slice a0 list.length c0, .int .i64 num, .bool flag, .int .i64 ty.kind, .int .i64 ty.len, .string ty.name, .slice a1 cols.length c1, .slice a2 rules.length c2, .slice a3 exprs.length c3] 55) = W0 at HB ⊢
  have g0 : W0.cell? ⟨w.heap.size, 0, none⟩ = some (.int .i64 11) := (HB.out.1.2 0 (by simp)).1
  have g1 : W0.cell? ⟨w.heap.size, 1, none⟩ = some (.string name) := (HB.out.1.2 1 (by simp)).1
  have g2 : W0.cell? ⟨w.heap.size, 2, none⟩ = some (.string on) := (HB.out.1.2 2 (by simp)).1
  have g3 : W0.cell? ⟨w.heap.size, 3, none⟩ = some (.slice a0 list.length c0) := (HB.out.1.2 3 (by simp)).1
  have g4 : W0.cell? ⟨w.heap.size, 4, none⟩ = some (.int .i64 num) := (HB.out.1.2 4 (by simp)).1
  have g5 : W0.cell? ⟨w.heap.size, 5, none⟩ = some (.bool flag) := (HB.out.1.2 5 (by simp)).1
  have g6 : W0.cell? ⟨w.heap.size, 6, none⟩ = some (.int .i64 ty.kind) := (HB.out.1.2 6 (by simp)).1
  have g7 : W0.cell? ⟨w.heap.size, 7, none⟩ = some (.int .i64 ty.len) := (HB.out.1.2 7 (by simp)).1
  have g8 : W0.cell? ⟨w.heap.size, 8, none⟩ = some (.string ty.name) := (HB.out.1.2 8 (by simp)).1
  have g9 : W0.cell? ⟨w.heap.size, 9, none⟩ = some (.slice a1 cols.length c1) := (HB.out.1.2 9 (by simp)).1
  have g10 : W0.cell? ⟨w.heap.size, 10, none⟩ = some (.slice a2 rules.length c2) := (HB.out.1.2 10 (by simp)).1
  have g11 : W0.cell? ⟨w.heap.size, 11, none⟩ = some (.slice a3 exprs.length c3) := (HB.out.1.2 11 (by simp)).1
  refine (HOK.out _ HB.out.2).mono ?_
  rintro e w1 ⟨rfl, b1⟩
  have B1 := Lib.hid (HB.out.call b1)
  clear b1 g0 g1 g2 g3 g4 g5 g6 g7 g8 g9 g10 g11
  have g0 : w1.cell? ⟨w.heap.size, 0, none⟩ = some (.int .i64 11) := (B1.out.1.2 0 (by simp)).1
  have g1 : w1.cell? ⟨w.heap.size, 1, none⟩ = some (.string name) := (B1.out.1.2 1 (by simp)).1
  have g2 : w1.cell? ⟨w.heap.size, 2, none⟩ = some (.string on) := (B1.out.1.2 2 (by simp)).1
  have g3 : w1.cell? ⟨w.heap.size, 3, none⟩ = some (.slice a0 list.length c0) := (B1.out.1.2 3 (by simp)).1
  have g4 : w1.cell? ⟨w.heap.size, 4, none⟩ = some (.int .i64 num) := (B1.out.1.2 4 (by simp)).1
  have g5 : w1.cell? ⟨w.heap.size, 5, none⟩ = some (.bool flag) := (B1.out.1.2 5 (by simp)).1
  have g6 : w1.cell? ⟨w.heap.size, 6, none⟩ = some (.int .i64 ty.kind) := (B1.out.1.2 6 (by simp)).1
  have g7 : w1.cell? ⟨w.heap.size, 7, none⟩ = some (.int .i64 ty.len) := (B1.out.1.2 7 (by simp)).1
  have g8 : w1.cell? ⟨w.heap.size, 8, none⟩ = some (.string ty.name) := (B1.out.1.2 8 (by simp)).1
  have g9 : w1.cell? ⟨w.heap.size, 9, none⟩ = some (.slice a1 cols.length c1) := (B1.out.1.2 9 (by simp)).1
  have g10 : w1.cell? ⟨w.heap.size, 10, none⟩ = some (.slice a2 rules.length c2) := (B1.out.1.2 10 (by simp)).1
  have g11 : w1.cell? ⟨w.heap.size, 11, none⟩ = some (.slice a3 exprs.length c3) := (B1.out.1.2 11 (by simp)).1
  go_wp2_with fail
  refine (HCR.out _ B1.out.2).mono ?_
  rintro e w2 ⟨rfl, b2⟩
  have B2 := Lib.hid (B1.out.call b2)
  clear b2
  go_wp2_with fail
  go_ret
  exact ⟨rfl, B2.out.2⟩

set_option maxRecDepth 100000 in
set_option maxHeartbeats 4000000 in
theorem specPut_12 (name on : ByteArray) (list : List ByteArray) (num : Int) (flag : Bool) (ty : Ty) (cols : List Co) (rules : List Ru) (exprs : List Ex) (a0 a1 a2 a3 : Option Addr) (c0 c1 c2 c3 : Nat) (w : World) (HOK : Hid (∀ W, Below w.heap.size w W → Calls Tryz.prog 49 #[.agg #[.int .i64 12, .string name, .string on, .slice a0 list.length c0, .int .i64 num, .bool flag, .int .i64 ty.kind, .int .i64 ty.len, .string ty.name, .slice a1 cols.length c1, .slice a2 rules.length c2, .slice a3 exprs.length c3]] W fun e w' => e = .returned (.bool true) ∧ Below W.heap.size W w')) (r : ByteArray) (HCR : Hid (∀ W, Below w.heap.size w W → Calls Tryz.prog 51 #[.agg #[.int .i64 12, .string name, .string on, .slice a0 list.length c0, .int .i64 num, .bool flag, .int .i64 ty.kind, .int .i64 ty.len, .string ty.name, .slice a1 cols.length c1, .slice a2 rules.length c2, .slice a3 exprs.length c3]] W fun e w' => e = .returned (.string r) ∧ Below W.heap.size W w')) :
    Calls Tryz.prog 17 #[.agg #[.int .i64 12, .string name, .string on, .slice a0 list.length c0, .int .i64 num, .bool flag, .int .i64 ty.kind, .int .i64 ty.len, .string ty.name, .slice a1 cols.length c1, .slice a2 rules.length c2, .slice a3 exprs.length c3]] w fun e w' => e = .returned (.string r) ∧ Below w.heap.size w w' := by
  have HB := Lib.hid (boxV_new w [.int .i64 12, .string name, .string on, .slice a0 list.length c0, .int .i64 num, .bool flag, .int .i64 ty.kind, .int .i64 ty.len, .string ty.name, .slice a1 cols.length c1, .slice a2 rules.length c2, .slice a3 exprs.length c3] 55)
  go_enter Tryz.func17, Tryz.ntmps17
  go_wp2_with fail
  generalize w.alloc (.cells #[.int .i64 12, .string name, .string on, .slice a0 list.length c0, .int .i64 num, .bool flag, .int .i64 ty.kind, .int .i64 ty.len, .string ty.name, .slice a1 cols.length c1, .slice a2 rules.length c2, .slice a3 exprs.length c3] 55) = W0 at HB ⊢
  have g0 : W0.cell? ⟨w.heap.size, 0, none⟩ = some (.int .i64 12) := (HB.out.1.2 0 (by simp)).1
  have g1 : W0.cell? ⟨w.heap.size, 1, none⟩ = some (.string name) := (HB.out.1.2 1 (by simp)).1
  have g2 : W0.cell? ⟨w.heap.size, 2, none⟩ = some (.string on) := (HB.out.1.2 2 (by simp)).1
  have g3 : W0.cell? ⟨w.heap.size, 3, none⟩ = some (.slice a0 list.length c0) := (HB.out.1.2 3 (by simp)).1
  have g4 : W0.cell? ⟨w.heap.size, 4, none⟩ = some (.int .i64 num) := (HB.out.1.2 4 (by simp)).1
  have g5 : W0.cell? ⟨w.heap.size, 5, none⟩ = some (.bool flag) := (HB.out.1.2 5 (by simp)).1
  have g6 : W0.cell? ⟨w.heap.size, 6, none⟩ = some (.int .i64 ty.kind) := (HB.out.1.2 6 (by simp)).1
  have g7 : W0.cell? ⟨w.heap.size, 7, none⟩ = some (.int .i64 ty.len) := (HB.out.1.2 7 (by simp)).1
  have g8 : W0.cell? ⟨w.heap.size, 8, none⟩ = some (.string ty.name) := (HB.out.1.2 8 (by simp)).1
  have g9 : W0.cell? ⟨w.heap.size, 9, none⟩ = some (.slice a1 cols.length c1) := (HB.out.1.2 9 (by simp)).1
  have g10 : W0.cell? ⟨w.heap.size, 10, none⟩ = some (.slice a2 rules.length c2) := (HB.out.1.2 10 (by simp)).1
  have g11 : W0.cell? ⟨w.heap.size, 11, none⟩ = some (.slice a3 exprs.length c3) := (HB.out.1.2 11 (by simp)).1
  refine (HOK.out _ HB.out.2).mono ?_
  rintro e w1 ⟨rfl, b1⟩
  have B1 := Lib.hid (HB.out.call b1)
  clear b1 g0 g1 g2 g3 g4 g5 g6 g7 g8 g9 g10 g11
  have g0 : w1.cell? ⟨w.heap.size, 0, none⟩ = some (.int .i64 12) := (B1.out.1.2 0 (by simp)).1
  have g1 : w1.cell? ⟨w.heap.size, 1, none⟩ = some (.string name) := (B1.out.1.2 1 (by simp)).1
  have g2 : w1.cell? ⟨w.heap.size, 2, none⟩ = some (.string on) := (B1.out.1.2 2 (by simp)).1
  have g3 : w1.cell? ⟨w.heap.size, 3, none⟩ = some (.slice a0 list.length c0) := (B1.out.1.2 3 (by simp)).1
  have g4 : w1.cell? ⟨w.heap.size, 4, none⟩ = some (.int .i64 num) := (B1.out.1.2 4 (by simp)).1
  have g5 : w1.cell? ⟨w.heap.size, 5, none⟩ = some (.bool flag) := (B1.out.1.2 5 (by simp)).1
  have g6 : w1.cell? ⟨w.heap.size, 6, none⟩ = some (.int .i64 ty.kind) := (B1.out.1.2 6 (by simp)).1
  have g7 : w1.cell? ⟨w.heap.size, 7, none⟩ = some (.int .i64 ty.len) := (B1.out.1.2 7 (by simp)).1
  have g8 : w1.cell? ⟨w.heap.size, 8, none⟩ = some (.string ty.name) := (B1.out.1.2 8 (by simp)).1
  have g9 : w1.cell? ⟨w.heap.size, 9, none⟩ = some (.slice a1 cols.length c1) := (B1.out.1.2 9 (by simp)).1
  have g10 : w1.cell? ⟨w.heap.size, 10, none⟩ = some (.slice a2 rules.length c2) := (B1.out.1.2 10 (by simp)).1
  have g11 : w1.cell? ⟨w.heap.size, 11, none⟩ = some (.slice a3 exprs.length c3) := (B1.out.1.2 11 (by simp)).1
  go_wp2_with fail
  refine (HCR.out _ B1.out.2).mono ?_
  rintro e w2 ⟨rfl, b2⟩
  have B2 := Lib.hid (B1.out.call b2)
  clear b2
  go_wp2_with fail
  go_ret
  exact ⟨rfl, B2.out.2⟩

set_option maxRecDepth 100000 in
set_option maxHeartbeats 4000000 in
theorem specPut_13 (name on : ByteArray) (list : List ByteArray) (num : Int) (flag : Bool) (ty : Ty) (cols : List Co) (rules : List Ru) (exprs : List Ex) (a0 a1 a2 a3 : Option Addr) (c0 c1 c2 c3 : Nat) (w : World) (HOK : Hid (∀ W, Below w.heap.size w W → Calls Tryz.prog 49 #[.agg #[.int .i64 13, .string name, .string on, .slice a0 list.length c0, .int .i64 num, .bool flag, .int .i64 ty.kind, .int .i64 ty.len, .string ty.name, .slice a1 cols.length c1, .slice a2 rules.length c2, .slice a3 exprs.length c3]] W fun e w' => e = .returned (.bool true) ∧ Below W.heap.size W w')) (r : ByteArray) (HCR : Hid (∀ W, Below w.heap.size w W → Calls Tryz.prog 50 #[.agg #[.int .i64 13, .string name, .string on, .slice a0 list.length c0, .int .i64 num, .bool flag, .int .i64 ty.kind, .int .i64 ty.len, .string ty.name, .slice a1 cols.length c1, .slice a2 rules.length c2, .slice a3 exprs.length c3]] W fun e w' => e = .returned (.string r) ∧ Below W.heap.size W w')) :
    Calls Tryz.prog 17 #[.agg #[.int .i64 13, .string name, .string on, .slice a0 list.length c0, .int .i64 num, .bool flag, .int .i64 ty.kind, .int .i64 ty.len, .string ty.name, .slice a1 cols.length c1, .slice a2 rules.length c2, .slice a3 exprs.length c3]] w fun e w' => e = .returned (.string r) ∧ Below w.heap.size w w' := by
  have HB := Lib.hid (boxV_new w [.int .i64 13, .string name, .string on, .slice a0 list.length c0, .int .i64 num, .bool flag, .int .i64 ty.kind, .int .i64 ty.len, .string ty.name, .slice a1 cols.length c1, .slice a2 rules.length c2, .slice a3 exprs.length c3] 55)
  go_enter Tryz.func17, Tryz.ntmps17
  go_wp2_with fail
  generalize w.alloc (.cells #[.int .i64 13, .string name, .string on, .slice a0 list.length c0, .int .i64 num, .bool flag, .int .i64 ty.kind, .int .i64 ty.len, .string ty.name, .slice a1 cols.length c1, .slice a2 rules.length c2, .slice a3 exprs.length c3] 55) = W0 at HB ⊢
  have g0 : W0.cell? ⟨w.heap.size, 0, none⟩ = some (.int .i64 13) := (HB.out.1.2 0 (by simp)).1
  have g1 : W0.cell? ⟨w.heap.size, 1, none⟩ = some (.string name) := (HB.out.1.2 1 (by simp)).1
  have g2 : W0.cell? ⟨w.heap.size, 2, none⟩ = some (.string on) := (HB.out.1.2 2 (by simp)).1
  have g3 : W0.cell? ⟨w.heap.size, 3, none⟩ = some (.slice a0 list.length c0) := (HB.out.1.2 3 (by simp)).1
  have g4 : W0.cell? ⟨w.heap.size, 4, none⟩ = some (.int .i64 num) := (HB.out.1.2 4 (by simp)).1
  have g5 : W0.cell? ⟨w.heap.size, 5, none⟩ = some (.bool flag) := (HB.out.1.2 5 (by simp)).1
  have g6 : W0.cell? ⟨w.heap.size, 6, none⟩ = some (.int .i64 ty.kind) := (HB.out.1.2 6 (by simp)).1
  have g7 : W0.cell? ⟨w.heap.size, 7, none⟩ = some (.int .i64 ty.len) := (HB.out.1.2 7 (by simp)).1
  have g8 : W0.cell? ⟨w.heap.size, 8, none⟩ = some (.string ty.name) := (HB.out.1.2 8 (by simp)).1
  have g9 : W0.cell? ⟨w.heap.size, 9, none⟩ = some (.slice a1 cols.length c1) := (HB.out.1.2 9 (by simp)).1
  have g10 : W0.cell? ⟨w.heap.size, 10, none⟩ = some (.slice a2 rules.length c2) := (HB.out.1.2 10 (by simp)).1
  have g11 : W0.cell? ⟨w.heap.size, 11, none⟩ = some (.slice a3 exprs.length c3) := (HB.out.1.2 11 (by simp)).1
  refine (HOK.out _ HB.out.2).mono ?_
  rintro e w1 ⟨rfl, b1⟩
  have B1 := Lib.hid (HB.out.call b1)
  clear b1 g0 g1 g2 g3 g4 g5 g6 g7 g8 g9 g10 g11
  have g0 : w1.cell? ⟨w.heap.size, 0, none⟩ = some (.int .i64 13) := (B1.out.1.2 0 (by simp)).1
  have g1 : w1.cell? ⟨w.heap.size, 1, none⟩ = some (.string name) := (B1.out.1.2 1 (by simp)).1
  have g2 : w1.cell? ⟨w.heap.size, 2, none⟩ = some (.string on) := (B1.out.1.2 2 (by simp)).1
  have g3 : w1.cell? ⟨w.heap.size, 3, none⟩ = some (.slice a0 list.length c0) := (B1.out.1.2 3 (by simp)).1
  have g4 : w1.cell? ⟨w.heap.size, 4, none⟩ = some (.int .i64 num) := (B1.out.1.2 4 (by simp)).1
  have g5 : w1.cell? ⟨w.heap.size, 5, none⟩ = some (.bool flag) := (B1.out.1.2 5 (by simp)).1
  have g6 : w1.cell? ⟨w.heap.size, 6, none⟩ = some (.int .i64 ty.kind) := (B1.out.1.2 6 (by simp)).1
  have g7 : w1.cell? ⟨w.heap.size, 7, none⟩ = some (.int .i64 ty.len) := (B1.out.1.2 7 (by simp)).1
  have g8 : w1.cell? ⟨w.heap.size, 8, none⟩ = some (.string ty.name) := (B1.out.1.2 8 (by simp)).1
  have g9 : w1.cell? ⟨w.heap.size, 9, none⟩ = some (.slice a1 cols.length c1) := (B1.out.1.2 9 (by simp)).1
  have g10 : w1.cell? ⟨w.heap.size, 10, none⟩ = some (.slice a2 rules.length c2) := (B1.out.1.2 10 (by simp)).1
  have g11 : w1.cell? ⟨w.heap.size, 11, none⟩ = some (.slice a3 exprs.length c3) := (B1.out.1.2 11 (by simp)).1
  go_wp2_with fail
  refine (HCR.out _ B1.out.2).mono ?_
  rintro e w2 ⟨rfl, b2⟩
  have B2 := Lib.hid (B1.out.call b2)
  clear b2
  go_wp2_with fail
  go_ret
  exact ⟨rfl, B2.out.2⟩

end Go.Proofs.YtpdcmmhhgnackaaGreatDoor

namespace Go.Proofs.YtpdcmmhhgnackaaGreatDoor
open Go.RowKit

set_option maxRecDepth 100000 in
set_option maxHeartbeats 4000000 in
theorem specPut_14 (name on : ByteArray) (list : List ByteArray) (num : Int) (flag : Bool) (ty : Ty) (cols : List Co) (rules : List Ru) (exprs : List Ex) (a0 a1 a2 a3 : Option Addr) (c0 c1 c2 c3 : Nat) (w : World) (HOK : Hid (∀ W, Below w.heap.size w W → Calls Tryz.prog 49 #[.agg #[.int .i64 14, .string name, .string on, .slice a0 list.length c0, .int .i64 num, .bool flag, .int .i64 ty.kind, .int .i64 ty.len, .string ty.name, .slice a1 cols.length c1, .slice a2 rules.length c2, .slice a3 exprs.length c3]] W fun e w' => e = .returned (.bool true) ∧ Below W.heap.size W w')) (Zn : Hid (name.size ≤ 1048576)) (qn : nmB name = true) (r : ByteArray) (hr : joinT (parts_14 name on list num flag ty cols rules exprs) (txt [32]) = r) :
    Calls Tryz.prog 17 #[.agg #[.int .i64 14, .string name, .string on, .slice a0 list.length c0, .int .i64 num, .bool flag, .int .i64 ty.kind, .int .i64 ty.len, .string ty.name, .slice a1 cols.length c1, .slice a2 rules.length c2, .slice a3 exprs.length c3]] w fun e w' => e = .returned (.string r) ∧ Below w.heap.size w w' := by
  have HB := Lib.hid (boxV_new w [.int .i64 14, .string name, .string on, .slice a0 list.length c0, .int .i64 num, .bool flag, .int .i64 ty.kind, .int .i64 ty.len, .string ty.name, .slice a1 cols.length c1, .slice a2 rules.length c2, .slice a3 exprs.length c3] 55)
  obtain ⟨N, hN⟩ : ∃ N, nameT name = N := ⟨_, rfl⟩
  have zN : N.size ≤ 82 := by rw [← hN]; exact nameT_small qn
  have HN := Lib.hid hN
  have y1 : (ByteArray.mk #[100, 114, 111, 112, 32, 105, 110, 100, 101, 120, 32]).size = 11 := rfl
  obtain ⟨p1, hp1⟩ : ∃ p, p = (ByteArray.mk #[100, 114, 111, 112, 32, 105, 110, 100, 101, 120, 32]) ++ N := ⟨_, rfl⟩
  have adp1 := run_add Tryz.prog (ByteArray.mk #[100, 114, 111, 112, 32, 105, 110, 100, 101, 120, 32]) N p1 hp1 (by omega)
  have HV : Hid (r = p1) := by
    unfold Hid
    rw [← hr, hp1]
    unfold parts_14
    simp only [List.cons_append, List.nil_append]
    rw [hN]
    rw [joinT_cons, joinT_one]
    apply ba_ext
    simp only [ba_list, List.append_assoc]
    rfl
  clear hr hN hp1
  go_enter Tryz.func17, Tryz.ntmps17
  go_wp2_with fail
  generalize w.alloc (.cells #[.int .i64 14, .string name, .string on, .slice a0 list.length c0, .int .i64 num, .bool flag, .int .i64 ty.kind, .int .i64 ty.len, .string ty.name, .slice a1 cols.length c1, .slice a2 rules.length c2, .slice a3 exprs.length c3] 55) = W0 at HB ⊢
  have g0 : W0.cell? ⟨w.heap.size, 0, none⟩ = some (.int .i64 14) := (HB.out.1.2 0 (by simp)).1
  have g1 : W0.cell? ⟨w.heap.size, 1, none⟩ = some (.string name) := (HB.out.1.2 1 (by simp)).1
  have g2 : W0.cell? ⟨w.heap.size, 2, none⟩ = some (.string on) := (HB.out.1.2 2 (by simp)).1
  have g3 : W0.cell? ⟨w.heap.size, 3, none⟩ = some (.slice a0 list.length c0) := (HB.out.1.2 3 (by simp)).1
  have g4 : W0.cell? ⟨w.heap.size, 4, none⟩ = some (.int .i64 num) := (HB.out.1.2 4 (by simp)).1
  have g5 : W0.cell? ⟨w.heap.size, 5, none⟩ = some (.bool flag) := (HB.out.1.2 5 (by simp)).1
  have g6 : W0.cell? ⟨w.heap.size, 6, none⟩ = some (.int .i64 ty.kind) := (HB.out.1.2 6 (by simp)).1
  have g7 : W0.cell? ⟨w.heap.size, 7, none⟩ = some (.int .i64 ty.len) := (HB.out.1.2 7 (by simp)).1
  have g8 : W0.cell? ⟨w.heap.size, 8, none⟩ = some (.string ty.name) := (HB.out.1.2 8 (by simp)).1
  have g9 : W0.cell? ⟨w.heap.size, 9, none⟩ = some (.slice a1 cols.length c1) := (HB.out.1.2 9 (by simp)).1
  have g10 : W0.cell? ⟨w.heap.size, 10, none⟩ = some (.slice a2 rules.length c2) := (HB.out.1.2 10 (by simp)).1
  have g11 : W0.cell? ⟨w.heap.size, 11, none⟩ = some (.slice a3 exprs.length c3) := (HB.out.1.2 11 (by simp)).1
  refine (HOK.out _ HB.out.2).mono ?_
  rintro e w1 ⟨rfl, b1⟩
  have B1 := Lib.hid (HB.out.call b1)
  clear b1 g0 g1 g2 g3 g4 g5 g6 g7 g8 g9 g10 g11
  have g0 : w1.cell? ⟨w.heap.size, 0, none⟩ = some (.int .i64 14) := (B1.out.1.2 0 (by simp)).1
  have g1 : w1.cell? ⟨w.heap.size, 1, none⟩ = some (.string name) := (B1.out.1.2 1 (by simp)).1
  have g2 : w1.cell? ⟨w.heap.size, 2, none⟩ = some (.string on) := (B1.out.1.2 2 (by simp)).1
  have g3 : w1.cell? ⟨w.heap.size, 3, none⟩ = some (.slice a0 list.length c0) := (B1.out.1.2 3 (by simp)).1
  have g4 : w1.cell? ⟨w.heap.size, 4, none⟩ = some (.int .i64 num) := (B1.out.1.2 4 (by simp)).1
  have g5 : w1.cell? ⟨w.heap.size, 5, none⟩ = some (.bool flag) := (B1.out.1.2 5 (by simp)).1
  have g6 : w1.cell? ⟨w.heap.size, 6, none⟩ = some (.int .i64 ty.kind) := (B1.out.1.2 6 (by simp)).1
  have g7 : w1.cell? ⟨w.heap.size, 7, none⟩ = some (.int .i64 ty.len) := (B1.out.1.2 7 (by simp)).1
  have g8 : w1.cell? ⟨w.heap.size, 8, none⟩ = some (.string ty.name) := (B1.out.1.2 8 (by simp)).1
  have g9 : w1.cell? ⟨w.heap.size, 9, none⟩ = some (.slice a1 cols.length c1) := (B1.out.1.2 9 (by simp)).1
  have g10 : w1.cell? ⟨w.heap.size, 10, none⟩ = some (.slice a2 rules.length c2) := (B1.out.1.2 10 (by simp)).1
  have g11 : w1.cell? ⟨w.heap.size, 11, none⟩ = some (.slice a3 exprs.length c3) := (B1.out.1.2 11 (by simp)).1
  go_wp2_with fail
  refine (specPutName name _ Zn.out N HN.out).mono ?_
  rintro e w2 ⟨rfl, b2⟩
  have B2 := Lib.hid (B1.out.call b2)
  clear b2
  go_wp2_with fail
  go_ret
  exact ⟨by rw [HV.out] <;> rfl, B2.out.2⟩

set_option maxRecDepth 100000 in
set_option maxHeartbeats 4000000 in
theorem specPut_15 (name on : ByteArray) (list : List ByteArray) (num : Int) (flag : Bool) (ty : Ty) (cols : List Co) (rules : List Ru) (exprs : List Ex) (a0 a1 a2 a3 : Option Addr) (c0 c1 c2 c3 : Nat) (w : World) (HOK : Hid (∀ W, Below w.heap.size w W → Calls Tryz.prog 49 #[.agg #[.int .i64 15, .string name, .string on, .slice a0 list.length c0, .int .i64 num, .bool flag, .int .i64 ty.kind, .int .i64 ty.len, .string ty.name, .slice a1 cols.length c1, .slice a2 rules.length c2, .slice a3 exprs.length c3]] W fun e w' => e = .returned (.bool true) ∧ Below W.heap.size W w')) (r : ByteArray) (HCR : Hid (∀ W, Below w.heap.size w W → Calls Tryz.prog 50 #[.agg #[.int .i64 15, .string name, .string on, .slice a0 list.length c0, .int .i64 num, .bool flag, .int .i64 ty.kind, .int .i64 ty.len, .string ty.name, .slice a1 cols.length c1, .slice a2 rules.length c2, .slice a3 exprs.length c3]] W fun e w' => e = .returned (.string r) ∧ Below W.heap.size W w')) :
    Calls Tryz.prog 17 #[.agg #[.int .i64 15, .string name, .string on, .slice a0 list.length c0, .int .i64 num, .bool flag, .int .i64 ty.kind, .int .i64 ty.len, .string ty.name, .slice a1 cols.length c1, .slice a2 rules.length c2, .slice a3 exprs.length c3]] w fun e w' => e = .returned (.string r) ∧ Below w.heap.size w w' := by
  have HB := Lib.hid (boxV_new w [.int .i64 15, .string name, .string on, .slice a0 list.length c0, .int .i64 num, .bool flag, .int .i64 ty.kind, .int .i64 ty.len, .string ty.name, .slice a1 cols.length c1, .slice a2 rules.length c2, .slice a3 exprs.length c3] 55)
  go_enter Tryz.func17, Tryz.ntmps17
  go_wp2_with fail
  generalize w.alloc (.cells #[.int .i64 15, .string name, .string on, .slice a0 list.length c0, .int .i64 num, .bool flag, .int .i64 ty.kind, .int .i64 ty.len, .string ty.name, .slice a1 cols.length c1, .slice a2 rules.length c2, .slice a3 exprs.length c3] 55) = W0 at HB ⊢
  have g0 : W0.cell? ⟨w.heap.size, 0, none⟩ = some (.int .i64 15) := (HB.out.1.2 0 (by simp)).1
  have g1 : W0.cell? ⟨w.heap.size, 1, none⟩ = some (.string name) := (HB.out.1.2 1 (by simp)).1
  have g2 : W0.cell? ⟨w.heap.size, 2, none⟩ = some (.string on) := (HB.out.1.2 2 (by simp)).1
  have g3 : W0.cell? ⟨w.heap.size, 3, none⟩ = some (.slice a0 list.length c0) := (HB.out.1.2 3 (by simp)).1
  have g4 : W0.cell? ⟨w.heap.size, 4, none⟩ = some (.int .i64 num) := (HB.out.1.2 4 (by simp)).1
  have g5 : W0.cell? ⟨w.heap.size, 5, none⟩ = some (.bool flag) := (HB.out.1.2 5 (by simp)).1
  have g6 : W0.cell? ⟨w.heap.size, 6, none⟩ = some (.int .i64 ty.kind) := (HB.out.1.2 6 (by simp)).1
  have g7 : W0.cell? ⟨w.heap.size, 7, none⟩ = some (.int .i64 ty.len) := (HB.out.1.2 7 (by simp)).1
  have g8 : W0.cell? ⟨w.heap.size, 8, none⟩ = some (.string ty.name) := (HB.out.1.2 8 (by simp)).1
  have g9 : W0.cell? ⟨w.heap.size, 9, none⟩ = some (.slice a1 cols.length c1) := (HB.out.1.2 9 (by simp)).1
  have g10 : W0.cell? ⟨w.heap.size, 10, none⟩ = some (.slice a2 rules.length c2) := (HB.out.1.2 10 (by simp)).1
  have g11 : W0.cell? ⟨w.heap.size, 11, none⟩ = some (.slice a3 exprs.length c3) := (HB.out.1.2 11 (by simp)).1
  refine (HOK.out _ HB.out.2).mono ?_
  rintro e w1 ⟨rfl, b1⟩
  have B1 := Lib.hid (HB.out.call b1)
  clear b1 g0 g1 g2 g3 g4 g5 g6 g7 g8 g9 g10 g11
  have g0 : w1.cell? ⟨w.heap.size, 0, none⟩ = some (.int .i64 15) := (B1.out.1.2 0 (by simp)).1
  have g1 : w1.cell? ⟨w.heap.size, 1, none⟩ = some (.string name) := (B1.out.1.2 1 (by simp)).1
  have g2 : w1.cell? ⟨w.heap.size, 2, none⟩ = some (.string on) := (B1.out.1.2 2 (by simp)).1
  have g3 : w1.cell? ⟨w.heap.size, 3, none⟩ = some (.slice a0 list.length c0) := (B1.out.1.2 3 (by simp)).1
  have g4 : w1.cell? ⟨w.heap.size, 4, none⟩ = some (.int .i64 num) := (B1.out.1.2 4 (by simp)).1
  have g5 : w1.cell? ⟨w.heap.size, 5, none⟩ = some (.bool flag) := (B1.out.1.2 5 (by simp)).1
  have g6 : w1.cell? ⟨w.heap.size, 6, none⟩ = some (.int .i64 ty.kind) := (B1.out.1.2 6 (by simp)).1
  have g7 : w1.cell? ⟨w.heap.size, 7, none⟩ = some (.int .i64 ty.len) := (B1.out.1.2 7 (by simp)).1
  have g8 : w1.cell? ⟨w.heap.size, 8, none⟩ = some (.string ty.name) := (B1.out.1.2 8 (by simp)).1
  have g9 : w1.cell? ⟨w.heap.size, 9, none⟩ = some (.slice a1 cols.length c1) := (B1.out.1.2 9 (by simp)).1
  have g10 : w1.cell? ⟨w.heap.size, 10, none⟩ = some (.slice a2 rules.length c2) := (B1.out.1.2 10 (by simp)).1
  have g11 : w1.cell? ⟨w.heap.size, 11, none⟩ = some (.slice a3 exprs.length c3) := (B1.out.1.2 11 (by simp)).1
  go_wp2_with fail
  refine (HCR.out _ B1.out.2).mono ?_
  rintro e w2 ⟨rfl, b2⟩
  have B2 := Lib.hid (B1.out.call b2)
  clear b2
  go_wp2_with fail
  go_ret
  exact ⟨rfl, B2.out.2⟩

set_option maxRecDepth 100000 in
set_option maxHeartbeats 4000000 in
theorem specPut_16 (name on : ByteArray) (list : List ByteArray) (num : Int) (flag : Bool) (ty : Ty) (cols : List Co) (rules : List Ru) (exprs : List Ex) (a0 a1 a2 a3 : Option Addr) (c0 c1 c2 c3 : Nat) (w : World) (HOK : Hid (∀ W, Below w.heap.size w W → Calls Tryz.prog 49 #[.agg #[.int .i64 16, .string name, .string on, .slice a0 list.length c0, .int .i64 num, .bool flag, .int .i64 ty.kind, .int .i64 ty.len, .string ty.name, .slice a1 cols.length c1, .slice a2 rules.length c2, .slice a3 exprs.length c3]] W fun e w' => e = .returned (.bool true) ∧ Below W.heap.size W w')) (Zn : Hid (name.size ≤ 1048576)) (qn : nmB name = true) (r : ByteArray) (hr : joinT (parts_16 name on list num flag ty cols rules exprs) (txt [32]) = r) :
    Calls Tryz.prog 17 #[.agg #[.int .i64 16, .string name, .string on, .slice a0 list.length c0, .int .i64 num, .bool flag, .int .i64 ty.kind, .int .i64 ty.len, .string ty.name, .slice a1 cols.length c1, .slice a2 rules.length c2, .slice a3 exprs.length c3]] w fun e w' => e = .returned (.string r) ∧ Below w.heap.size w w' := by
  have HB := Lib.hid (boxV_new w [.int .i64 16, .string name, .string on, .slice a0 list.length c0, .int .i64 num, .bool flag, .int .i64 ty.kind, .int .i64 ty.len, .string ty.name, .slice a1 cols.length c1, .slice a2 rules.length c2, .slice a3 exprs.length c3] 55)
  obtain ⟨N, hN⟩ : ∃ N, nameT name = N := ⟨_, rfl⟩
  have zN : N.size ≤ 82 := by rw [← hN]; exact nameT_small qn
  have HN := Lib.hid hN
  have y1 : (ByteArray.mk #[100, 114, 111, 112, 32, 118, 105, 101, 119, 32]).size = 10 := rfl
  obtain ⟨p1, hp1⟩ : ∃ p, p = (ByteArray.mk #[100, 114, 111, 112, 32, 118, 105, 101, 119, 32]) ++ N := ⟨_, rfl⟩
  have adp1 := run_add Tryz.prog (ByteArray.mk #[100, 114, 111, 112, 32, 118, 105, 101, 119, 32]) N p1 hp1 (by omega)
  have HV : Hid (r = p1) := by
    unfold Hid
    rw [← hr, hp1]
    unfold parts_16
    simp only [List.cons_append, List.nil_append]
    rw [hN]
    rw [joinT_cons, joinT_one]
    apply ba_ext
    simp only [ba_list, List.append_assoc]
    rfl
  clear hr hN hp1
  go_enter Tryz.func17, Tryz.ntmps17
  go_wp2_with fail
  generalize w.alloc (.cells #[.int .i64 16, .string name, .string on, .slice a0 list.length c0, .int .i64 num, .bool flag, .int .i64 ty.kind, .int .i64 ty.len, .string ty.name, .slice a1 cols.length c1, .slice a2 rules.length c2, .slice a3 exprs.length c3] 55) = W0 at HB ⊢
  have g0 : W0.cell? ⟨w.heap.size, 0, none⟩ = some (.int .i64 16) := (HB.out.1.2 0 (by simp)).1
  have g1 : W0.cell? ⟨w.heap.size, 1, none⟩ = some (.string name) := (HB.out.1.2 1 (by simp)).1
  have g2 : W0.cell? ⟨w.heap.size, 2, none⟩ = some (.string on) := (HB.out.1.2 2 (by simp)).1
  have g3 : W0.cell? ⟨w.heap.size, 3, none⟩ = some (.slice a0 list.length c0) := (HB.out.1.2 3 (by simp)).1
  have g4 : W0.cell? ⟨w.heap.size, 4, none⟩ = some (.int .i64 num) := (HB.out.1.2 4 (by simp)).1
  have g5 : W0.cell? ⟨w.heap.size, 5, none⟩ = some (.bool flag) := (HB.out.1.2 5 (by simp)).1
  have g6 : W0.cell? ⟨w.heap.size, 6, none⟩ = some (.int .i64 ty.kind) := (HB.out.1.2 6 (by simp)).1
  have g7 : W0.cell? ⟨w.heap.size, 7, none⟩ = some (.int .i64 ty.len) := (HB.out.1.2 7 (by simp)).1
  have g8 : W0.cell? ⟨w.heap.size, 8, none⟩ = some (.string ty.name) := (HB.out.1.2 8 (by simp)).1
  have g9 : W0.cell? ⟨w.heap.size, 9, none⟩ = some (.slice a1 cols.length c1) := (HB.out.1.2 9 (by simp)).1
  have g10 : W0.cell? ⟨w.heap.size, 10, none⟩ = some (.slice a2 rules.length c2) := (HB.out.1.2 10 (by simp)).1
  have g11 : W0.cell? ⟨w.heap.size, 11, none⟩ = some (.slice a3 exprs.length c3) := (HB.out.1.2 11 (by simp)).1
  refine (HOK.out _ HB.out.2).mono ?_
  rintro e w1 ⟨rfl, b1⟩
  have B1 := Lib.hid (HB.out.call b1)
  clear b1 g0 g1 g2 g3 g4 g5 g6 g7 g8 g9 g10 g11
  have g0 : w1.cell? ⟨w.heap.size, 0, none⟩ = some (.int .i64 16) := (B1.out.1.2 0 (by simp)).1
  have g1 : w1.cell? ⟨w.heap.size, 1, none⟩ = some (.string name) := (B1.out.1.2 1 (by simp)).1
  have g2 : w1.cell? ⟨w.heap.size, 2, none⟩ = some (.string on) := (B1.out.1.2 2 (by simp)).1
  have g3 : w1.cell? ⟨w.heap.size, 3, none⟩ = some (.slice a0 list.length c0) := (B1.out.1.2 3 (by simp)).1
  have g4 : w1.cell? ⟨w.heap.size, 4, none⟩ = some (.int .i64 num) := (B1.out.1.2 4 (by simp)).1
  have g5 : w1.cell? ⟨w.heap.size, 5, none⟩ = some (.bool flag) := (B1.out.1.2 5 (by simp)).1
  have g6 : w1.cell? ⟨w.heap.size, 6, none⟩ = some (.int .i64 ty.kind) := (B1.out.1.2 6 (by simp)).1
  have g7 : w1.cell? ⟨w.heap.size, 7, none⟩ = some (.int .i64 ty.len) := (B1.out.1.2 7 (by simp)).1
  have g8 : w1.cell? ⟨w.heap.size, 8, none⟩ = some (.string ty.name) := (B1.out.1.2 8 (by simp)).1
  have g9 : w1.cell? ⟨w.heap.size, 9, none⟩ = some (.slice a1 cols.length c1) := (B1.out.1.2 9 (by simp)).1
  have g10 : w1.cell? ⟨w.heap.size, 10, none⟩ = some (.slice a2 rules.length c2) := (B1.out.1.2 10 (by simp)).1
  have g11 : w1.cell? ⟨w.heap.size, 11, none⟩ = some (.slice a3 exprs.length c3) := (B1.out.1.2 11 (by simp)).1
  go_wp2_with fail
  refine (specPutName name _ Zn.out N HN.out).mono ?_
  rintro e w2 ⟨rfl, b2⟩
  have B2 := Lib.hid (B1.out.call b2)
  clear b2
  go_wp2_with fail
  go_ret
  exact ⟨by rw [HV.out] <;> rfl, B2.out.2⟩

end Go.Proofs.YtpdcmmhhgnackaaGreatDoor

namespace Go.Proofs.YtpdcmmhhgnackaaGreatDoor
open Go.RowKit

theorem stB_facts {s : St} (h : stB s = true) : (0 ≤ s.kind ∧ s.kind ≤ 16) ∧ nmB s.name = true ∧ ((sf s.kind).on = true → nmB s.on = true) ∧ ((sf s.kind).n0 ≤ s.num ∧ s.num ≤ (sf s.kind).n1) ∧ tyB s.ty = true ∧
    (((sf s.kind).l0 ≤ s.list.length ∧ (s.list.length : Int) ≤ (sf s.kind).l1) ∧ ∀ x ∈ s.list, nmB x = true) ∧
    (((sf s.kind).c0 ≤ s.cols.length ∧ (s.cols.length : Int) ≤ (sf s.kind).c1) ∧ ∀ x ∈ s.cols, colB x = true) ∧
    (((sf s.kind).r0 ≤ s.rules.length ∧ (s.rules.length : Int) ≤ (sf s.kind).r1) ∧ ∀ x ∈ s.rules, ruleB x = true) ∧
    (((sf s.kind).e0 ≤ s.exprs.length ∧ (s.exprs.length : Int) ≤ (sf s.kind).e1) ∧ ∀ x ∈ s.exprs, okX x = true) := by
  unfold stB fitsS inI useB at h
  simp only [Bool.and_eq_true, decide_eq_true_eq, List.all_eq_true] at h
  obtain ⟨hk, hn, ho, hnum, _, ht, _, ⟨hl, hla⟩, ⟨hc, hca⟩, ⟨hr, hra⟩, he, hea⟩ := h
  refine ⟨hk, hn, fun hh => ?_, hnum, ht, ⟨hl, hla⟩, ⟨hc, hca⟩, ⟨hr, hra⟩, he, hea⟩
  rw [if_pos hh] at ho
  exact ho

set_option maxRecDepth 100000 in
set_option maxHeartbeats 4000000 in
theorem specPutStmt (vs : List Value) (x : St) (w : World) (hR : RSt 0 w vs x) (hwt : x.wt ≤ 1048576) (r : ByteArray) (hr : stT x = r) :
    Calls Tryz.prog 17 #[.agg vs.toArray] w fun e w' => e = .returned (.string r) ∧ Below w.heap.size w w' := by
  have HC := Lib.hid (fun w' (hb : Below w.heap.size w w') => specStmtOk vs x w' (goodSt.kept hR (Kept.below hb)) hwt _ rfl)
  obtain ⟨kind, name, on, list, num, flag, ty, cols, rules, exprs⟩ := x
  obtain ⟨a0, c0, a1, c1, a2, c2, a3, c3, rfl, hfit, k0, k1, k2, k3⟩ := hR
  simp only at k0 k1 k2 k3
  have HK := Lib.hid (fun w' (hb : Below w.heap.size w w') => (show Ss 0 w' a0 c0 list ∧ Sl 6 RCo 0 w' a1 c1 cols ∧ Sl 6 RRu 0 w' a2 c2 rules ∧ Ks 0 w' a3 c3 exprs from ⟨k0.kept (Kept.below hb), k1.kept goodCo (Kept.below hb), k2.kept goodRu (Kept.below hb), k3.kept (Kept.below hb)⟩))
  have hW : (St.mk kind name on list num flag ty cols rules exprs).wt = name.size + on.size + (list.length + lets list) + ty.name.size + (cols.length + wtS Co.wt cols) + (rules.length + wtS Ru.wt rules) + (exprs.length + wtL exprs) := rfl
  have Zn := Lib.hid (show name.size ≤ 1048576 by omega)
  have Zo := Lib.hid (show on.size ≤ 1048576 by omega)
  have Zt := Lib.hid (show ty.name.size ≤ 1048576 by omega)
  have Zl := Lib.hid (show lets list ≤ 1048576 by omega)
  have Ze := Lib.hid (show wtL exprs ≤ 1048576 by omega)
  have Zc := Lib.hid (fun (x : Co) (hm : x ∈ cols) => (show x.wt ≤ 1048576 by have := wtS_mem Co.wt hm; omega))
  have Zr := Lib.hid (fun (x : Ru) (hm : x ∈ rules) => (show x.wt ≤ 1048576 by have := wtS_mem Ru.wt hm; omega))
  have Zx := Lib.hid (fun (x : Ex) (hm : x ∈ exprs) => (show x.wt ≤ 1048576 by have := wtL_mem hm; omega))
  unfold stT at hr
  clear k0 k1 k2 k3 hW
  cases hc : stB ⟨kind, name, on, list, num, flag, ty, cols, rules, exprs⟩ with
  | false =>
    have HV : Hid (r = ⟨#[]⟩) := by unfold Hid; rw [← hr, hc]; rfl
    have HB := Lib.hid (boxV_new w [.int .i64 kind, .string name, .string on, .slice a0 list.length c0, .int .i64 num, .bool flag, .int .i64 ty.kind, .int .i64 ty.len, .string ty.name, .slice a1 cols.length c1, .slice a2 rules.length c2, .slice a3 exprs.length c3] 55)
    simp only at HC ⊢
    rw [hc] at HC
    clear hr hc
    go_enter Tryz.func17, Tryz.ntmps17
    go_wp2_with fail
    refine (HC.out _ HB.out.2).mono ?_
    rintro e w1 ⟨rfl, b1⟩
    have B1 := Lib.hid (HB.out.call b1)
    clear b1
    go_wp2_with fail
    go_ret
    exact ⟨by rw [HV.out] <;> rfl, B1.out.2⟩
  | true =>
    rw [hc, if_pos rfl] at hr
    simp only at HC ⊢
    rw [hc] at HC
    have F := stB_facts hc
    obtain ⟨hin, qn, fo, fn, ft, fl, fc, fr, fe⟩ := F
    simp only at hin qn fo fn ft fl fc fr fe
    have HKK := Lib.hid (fun W (hb : Below w.heap.size w W) => Lib.hid (fun w' (hb' : Below W.heap.size W w') => HK.out w' (hb.trans (hb'.mono hb.size))))
    have hk17 : kind = 0 ∨ kind = 1 ∨ kind = 2 ∨ kind = 3 ∨ kind = 4 ∨ kind = 5 ∨ kind = 6 ∨ kind = 7 ∨ kind = 8 ∨ kind = 9 ∨ kind = 10 ∨ kind = 11 ∨ kind = 12 ∨ kind = 13 ∨ kind = 14 ∨ kind = 15 ∨ kind = 16 := by omega
    clear hin hc
    rcases hk17 with rfl | rfl | rfl | rfl | rfl | rfl | rfl | rfl | rfl | rfl | rfl | rfl | rfl | rfl | rfl | rfl | rfl
    · rw [partsT_0] at hr
      have fl1 : (1 : Int) ≤ list.length ∧ (list.length : Int) ≤ 12 := fl.1
      have hl : namesB list 12 = true := by unfold namesB inI; rw [List.all_eq_true.2 fl.2, decide_eq_true fl1.1, decide_eq_true fl1.2]; rfl
      exact specPut_0 name on list num flag ty cols rules exprs a0 a1 a2 a3 c0 c1 c2 c3 w (Lib.hid HC.out) r (Lib.hid fun W hb => specCreate_0 name on list num flag ty cols rules exprs a0 a1 a2 a3 c0 c1 c2 c3 W hl (HKK.out W hb) Zn Zo Zt Zc Zr Zx Zl qn r hr)
    · rw [partsT_1] at hr
      exact specPut_1 name on list num flag ty cols rules exprs a0 a1 a2 a3 c0 c1 c2 c3 w (Lib.hid HC.out) Zn qn r hr
    · rw [partsT_2] at hr
      have hnum : 0 ≤ num ∧ num ≤ 999999999 := fn
      exact specPut_2 name on list num flag ty cols rules exprs a0 a1 a2 a3 c0 c1 c2 c3 w (Lib.hid HC.out) r (Lib.hid fun W hb => specCreate_2 name on list num flag ty cols rules exprs a0 a1 a2 a3 c0 c1 c2 c3 W hnum (HKK.out W hb) Zn Zo Zt Zc Zr Zx Zl qn r hr)
    · rw [partsT_3] at hr
      exact specPut_3 name on list num flag ty cols rules exprs a0 a1 a2 a3 c0 c1 c2 c3 w (Lib.hid HC.out) Zn qn r hr
    · rw [partsT_4] at hr
      have fc1 : (cols.length : Int) ≤ 12 := fc.1.2
      have fr1 : (rules.length : Int) ≤ 8 := fr.1.2
      exact specPut_4 name on list num flag ty cols rules exprs a0 a1 a2 a3 c0 c1 c2 c3 w (Lib.hid HC.out) r (Lib.hid fun W hb => specCreate_4 name on list num flag ty cols rules exprs a0 a1 a2 a3 c0 c1 c2 c3 W (by omega) (by omega) fc.2 fr.2 (HKK.out W hb) Zn Zo Zt Zc Zr Zx qn r hr)
    · rw [partsT_5] at hr
      exact specPut_5 name on list num flag ty cols rules exprs a0 a1 a2 a3 c0 c1 c2 c3 w (Lib.hid HC.out) Zn qn r hr
    · rw [partsT_6] at hr
      have hc1 : (1 : Int) ≤ cols.length ∧ (cols.length : Int) ≤ 1 := fc.1
      obtain ⟨e1, h1⟩ := List.length_eq_one_iff.1 (show cols.length = 1 by omega)
      have hok := fc.2 e1 (by rw [h1]; simp)
      exact specPut_6 name on list num flag ty cols rules exprs a0 a1 a2 a3 c0 c1 c2 c3 w (Lib.hid HC.out) r (Lib.hid fun W hb => specAlter_6 name on list num flag ty cols rules exprs a0 a1 a2 a3 c0 c1 c2 c3 W e1 h1 hok (HKK.out W hb) Zn Zo Zt Zc Zr Zx qn r hr)
    · rw [partsT_7] at hr
      exact specPut_7 name on list num flag ty cols rules exprs a0 a1 a2 a3 c0 c1 c2 c3 w (Lib.hid HC.out) r (Lib.hid fun W hb => specAlter_7 name on list num flag ty cols rules exprs a0 a1 a2 a3 c0 c1 c2 c3 W  (HKK.out W hb) Zn Zo Zt Zc Zr Zx qn r hr)
    · rw [partsT_8] at hr
      exact specPut_8 name on list num flag ty cols rules exprs a0 a1 a2 a3 c0 c1 c2 c3 w (Lib.hid HC.out) r (Lib.hid fun W hb => specAlter_8 name on list num flag ty cols rules exprs a0 a1 a2 a3 c0 c1 c2 c3 W ft (HKK.out W hb) Zn Zo Zt Zc Zr Zx qn r hr)
    · rw [partsT_9] at hr
      by_cases hfl : flag = true
      · exact specPut_9 name on list num flag ty cols rules exprs a0 a1 a2 a3 c0 c1 c2 c3 w (Lib.hid HC.out) r (Lib.hid fun W hb => specAlter_9t name on list num flag ty cols rules exprs a0 a1 a2 a3 c0 c1 c2 c3 W hfl (HKK.out W hb) Zn Zo Zt Zc Zr Zx qn r hr)
      · exact specPut_9 name on list num flag ty cols rules exprs a0 a1 a2 a3 c0 c1 c2 c3 w (Lib.hid HC.out) r (Lib.hid fun W hb => specAlter_9f name on list num flag ty cols rules exprs a0 a1 a2 a3 c0 c1 c2 c3 W (by simpa using hfl) (HKK.out W hb) Zn Zo Zt Zc Zr Zx qn r hr)
    · rw [partsT_10] at hr
      have fe1 : (exprs.length : Int) ≤ 1 := fe.1.2
      by_cases hex : exprs = []
      · skip
        exact specPut_10 name on list num flag ty cols rules exprs a0 a1 a2 a3 c0 c1 c2 c3 w (Lib.hid HC.out) r (Lib.hid fun W hb => specAlter_10n name on list num flag ty cols rules exprs a0 a1 a2 a3 c0 c1 c2 c3 W hex (HKK.out W hb) Zn Zo Zt Zc Zr Zx qn r hr)
      · have hp : 0 < exprs.length := List.length_pos_iff.2 hex
        obtain ⟨e1, h1⟩ := List.length_eq_one_iff.1 (show exprs.length = 1 by omega)
        have hok := fe.2 e1 (by rw [h1]; simp)
        clear hp hex
        skip
        exact specPut_10 name on list num flag ty cols rules exprs a0 a1 a2 a3 c0 c1 c2 c3 w (Lib.hid HC.out) r (Lib.hid fun W hb => specAlter_10e name on list num flag ty cols rules exprs a0 a1 a2 a3 c0 c1 c2 c3 W e1 h1 hok (HKK.out W hb) Zn Zo Zt Zc Zr Zx qn r hr)
    · rw [partsT_11] at hr
      have hc1 : (1 : Int) ≤ rules.length ∧ (rules.length : Int) ≤ 1 := fr.1
      obtain ⟨e1, h1⟩ := List.length_eq_one_iff.1 (show rules.length = 1 by omega)
      have hok := fr.2 e1 (by rw [h1]; simp)
      exact specPut_11 name on list num flag ty cols rules exprs a0 a1 a2 a3 c0 c1 c2 c3 w (Lib.hid HC.out) r (Lib.hid fun W hb => specAlter_11 name on list num flag ty cols rules exprs a0 a1 a2 a3 c0 c1 c2 c3 W e1 h1 hok (HKK.out W hb) Zn Zo Zt Zc Zr Zx qn r hr)
    · rw [partsT_12] at hr
      exact specPut_12 name on list num flag ty cols rules exprs a0 a1 a2 a3 c0 c1 c2 c3 w (Lib.hid HC.out) r (Lib.hid fun W hb => specAlter_12 name on list num flag ty cols rules exprs a0 a1 a2 a3 c0 c1 c2 c3 W  (HKK.out W hb) Zn Zo Zt Zc Zr Zx qn r hr)
    · rw [partsT_13] at hr
      have fl1 : (1 : Int) ≤ list.length ∧ (list.length : Int) ≤ 12 := fl.1
      have hl : namesB list 12 = true := by unfold namesB inI; rw [List.all_eq_true.2 fl.2, decide_eq_true fl1.1, decide_eq_true fl1.2]; rfl
      have qo : nmB on = true := fo rfl
      cases flag with
      | true => exact specPut_13 name on list num true ty cols rules exprs a0 a1 a2 a3 c0 c1 c2 c3 w (Lib.hid HC.out) r (Lib.hid fun W hb => specCreate_13t name on list num true ty cols rules exprs a0 a1 a2 a3 c0 c1 c2 c3 W rfl qo hl (HKK.out W hb) Zn Zo Zt Zc Zr Zx Zl qn r hr)
      | false => exact specPut_13 name on list num false ty cols rules exprs a0 a1 a2 a3 c0 c1 c2 c3 w (Lib.hid HC.out) r (Lib.hid fun W hb => specCreate_13f name on list num false ty cols rules exprs a0 a1 a2 a3 c0 c1 c2 c3 W rfl qo hl (HKK.out W hb) Zn Zo Zt Zc Zr Zx Zl qn r hr)
    · rw [partsT_14] at hr
      exact specPut_14 name on list num flag ty cols rules exprs a0 a1 a2 a3 c0 c1 c2 c3 w (Lib.hid HC.out) Zn qn r hr
    · rw [partsT_15] at hr
      have fl1 : (1 : Int) ≤ list.length ∧ (list.length : Int) ≤ 12 := fl.1
      have hl : namesB list 12 = true := by unfold namesB inI; rw [List.all_eq_true.2 fl.2, decide_eq_true fl1.1, decide_eq_true fl1.2]; rfl
      have qo : nmB on = true := fo rfl
      have fe1 : (exprs.length : Int) ≤ 1 := fe.1.2
      by_cases hex : exprs = []
      · subst hex
        exact specPut_15 name on list num flag ty cols rules [] a0 a1 a2 a3 c0 c1 c2 c3 w (Lib.hid HC.out) r (Lib.hid fun W hb => specCreate_15n name on list num flag ty cols rules [] a0 a1 a2 a3 c0 c1 c2 c3 W rfl qo hl (HKK.out W hb) Zn Zo Zt Zc Zr Zx Zl qn r hr)
      · have hp : 0 < exprs.length := List.length_pos_iff.2 hex
        obtain ⟨e1, h1⟩ := List.length_eq_one_iff.1 (show exprs.length = 1 by omega)
        have hok := fe.2 e1 (by rw [h1]; simp)
        clear hp hex
        subst h1
        exact specPut_15 name on list num flag ty cols rules [e1] a0 a1 a2 a3 c0 c1 c2 c3 w (Lib.hid HC.out) r (Lib.hid fun W hb => specCreate_15e name on list num flag ty cols rules [e1] a0 a1 a2 a3 c0 c1 c2 c3 W e1 rfl hok qo hl (HKK.out W hb) Zn Zo Zt Zc Zr Zx Zl qn r hr)
    · rw [partsT_16] at hr
      exact specPut_16 name on list num flag ty cols rules exprs a0 a1 a2 a3 c0 c1 c2 c3 w (Lib.hid HC.out) Zn qn r hr

end Go.Proofs.YtpdcmmhhgnackaaGreatDoor
