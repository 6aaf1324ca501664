/- The model's StmtOk. Written by tools/gen_st.py. -/
import Derived.Test.YtpdcmmhhgnackaaGreatDoorMStPa
import Derived.Test.YtpdcmmhhgnackaaGreatDoorMStRe
import Derived.Test.YtpdcmmhhgnackaaGreatDoorMStAg
namespace Go.Proofs.YtpdcmmhhgnackaaGreatDoor
open Go.RowKit

set_option maxRecDepth 100000 in
set_option maxHeartbeats 4000000 in
theorem specStmtOk_0 (name on : ByteArray) (list : List ByteArray) (num : Int) (flag : Bool) (ty : Ty) (cols : List Co) (rules : List Ru) (exprs : List Ex) (a0 a1 a2 a3 : Option Addr) (c0 c1 c2 c3 : Nat) (w : World)
    (HK : Hid (∀ w', Below w.heap.size w w' → Ss 0 w' a0 c0 list ∧ Sl 6 RCo 0 w' a1 c1 cols ∧ Sl 6 RRu 0 w' a2 c2 rules ∧ Ks 0 w' a3 c3 exprs)) (Zn : Hid (name.size ≤ 1048576)) (Zo : Hid (on.size ≤ 1048576)) (Zt : Hid (ty.name.size ≤ 1048576)) (Zl : Hid (lets list ≤ 1048576)) (Ze : Hid (wtL exprs ≤ 1048576))
    (Zc : Hid (∀ x ∈ cols, x.wt ≤ 1048576)) (Zr : Hid (∀ x ∈ rules, x.wt ≤ 1048576)) (v : Bool) (hv : stB ⟨0, name, on, list, num, flag, ty, cols, rules, exprs⟩ = v) :
    Calls Tryz.prog 49 #[.agg #[.int .i64 0, .string name, .string on, .slice a0 list.length c0, .int .i64 num, .bool flag, .int .i64 ty.kind, .int .i64 ty.len, .string ty.name, .slice a1 cols.length c1, .slice a2 rules.length c2, .slice a3 exprs.length c3]] w fun e w' => e = .returned (.bool v) ∧ Below w.heap.size w w' := by
  have HVV := Lib.hid ((agree_0 name on list num flag ty cols rules exprs).symm.trans hv)
  have HB := Lib.hid (boxV_new w [.int .i64 0, .string name, .string on, .slice a0 list.length c0, .int .i64 num, .bool flag, .int .i64 ty.kind, .int .i64 ty.len, .string ty.name, .slice a1 cols.length c1, .slice a2 rules.length c2, .slice a3 exprs.length c3] 55)
  clear hv
  go_enter Tryz.func49, Tryz.ntmps49
  go_wp2_with fail
  refine (specInIs 0 0 16 _ true (by decide)).mono ?_
  rintro e w1 ⟨rfl, rfl⟩
  generalize w.alloc (.cells #[.int .i64 0, .string name, .string on, .slice a0 list.length c0, .int .i64 num, .bool flag, .int .i64 ty.kind, .int .i64 ty.len, .string ty.name, .slice a1 cols.length c1, .slice a2 rules.length c2, .slice a3 exprs.length c3] 55) = W0 at HB ⊢
  have g0 : W0.cell? ⟨w.heap.size, 0, none⟩ = some (.int .i64 0) := (HB.out.1.2 0 (by simp)).1
  have g1 : W0.cell? ⟨w.heap.size, 1, none⟩ = some (.string name) := (HB.out.1.2 1 (by simp)).1
  have g2 : W0.cell? ⟨w.heap.size, 2, none⟩ = some (.string on) := (HB.out.1.2 2 (by simp)).1
  have g3 : W0.cell? ⟨w.heap.size, 3, none⟩ = some (.slice a0 list.length c0) := (HB.out.1.2 3 (by simp)).1
  have g4 : W0.cell? ⟨w.heap.size, 4, none⟩ = some (.int .i64 num) := (HB.out.1.2 4 (by simp)).1
  have g5 : W0.cell? ⟨w.heap.size, 5, none⟩ = some (.bool flag) := (HB.out.1.2 5 (by simp)).1
  have g6 : W0.cell? ⟨w.heap.size, 6, none⟩ = some (.int .i64 ty.kind) := (HB.out.1.2 6 (by simp)).1
  have g7 : W0.cell? ⟨w.heap.size, 7, none⟩ = some (.int .i64 ty.len) := (HB.out.1.2 7 (by simp)).1
  have g8 : W0.cell? ⟨w.heap.size, 8, none⟩ = some (.string ty.name) := (HB.out.1.2 8 (by simp)).1
  have g9 : W0.cell? ⟨w.heap.size, 9, none⟩ = some (.slice a1 cols.length c1) := (HB.out.1.2 9 (by simp)).1
  have g10 : W0.cell? ⟨w.heap.size, 10, none⟩ = some (.slice a2 rules.length c2) := (HB.out.1.2 10 (by simp)).1
  have g11 : W0.cell? ⟨w.heap.size, 11, none⟩ = some (.slice a3 exprs.length c3) := (HB.out.1.2 11 (by simp)).1
  go_wp2_with fail
  refine (specNameOk name _ Zn.out _ rfl).mono ?_
  rintro e w2 ⟨rfl, rfl⟩
  cases h1 : nameB name.data.toList with
  | false =>
    have HV : Hid (v = false) := by unfold Hid; rw [← HVV.out]; simp only [nmB, h1, Bool.false_and]
    go_wp2_with fail
    go_ret
    exact ⟨by rw [HV.out] <;> rfl, HB.out.2⟩
  | true =>
    go_wp2_with fail
    refine (specParts_o 0 name on list num flag ty cols rules exprs a0 a1 a2 a3 c0 c1 c2 c3 _ (by decide) (by decide) (by decide) (HK.out _ HB.out.2).2.1 (HK.out _ HB.out.2).2.2.1 Zc.out Zr.out _ rfl).mono ?_
    rintro e w3 ⟨rfl, b3⟩
    have B3 := Lib.hid (HB.out.call b3)
    clear b3 g0 g1 g2 g3 g4 g5 g6 g7 g8 g9 g10 g11
    have g0 : w3.cell? ⟨w.heap.size, 0, none⟩ = some (.int .i64 0) := (B3.out.1.2 0 (by simp)).1
    have g1 : w3.cell? ⟨w.heap.size, 1, none⟩ = some (.string name) := (B3.out.1.2 1 (by simp)).1
    have g2 : w3.cell? ⟨w.heap.size, 2, none⟩ = some (.string on) := (B3.out.1.2 2 (by simp)).1
    have g3 : w3.cell? ⟨w.heap.size, 3, none⟩ = some (.slice a0 list.length c0) := (B3.out.1.2 3 (by simp)).1
    have g4 : w3.cell? ⟨w.heap.size, 4, none⟩ = some (.int .i64 num) := (B3.out.1.2 4 (by simp)).1
    have g5 : w3.cell? ⟨w.heap.size, 5, none⟩ = some (.bool flag) := (B3.out.1.2 5 (by simp)).1
    have g6 : w3.cell? ⟨w.heap.size, 6, none⟩ = some (.int .i64 ty.kind) := (B3.out.1.2 6 (by simp)).1
    have g7 : w3.cell? ⟨w.heap.size, 7, none⟩ = some (.int .i64 ty.len) := (B3.out.1.2 7 (by simp)).1
    have g8 : w3.cell? ⟨w.heap.size, 8, none⟩ = some (.string ty.name) := (B3.out.1.2 8 (by simp)).1
    have g9 : w3.cell? ⟨w.heap.size, 9, none⟩ = some (.slice a1 cols.length c1) := (B3.out.1.2 9 (by simp)).1
    have g10 : w3.cell? ⟨w.heap.size, 10, none⟩ = some (.slice a2 rules.length c2) := (B3.out.1.2 10 (by simp)).1
    have g11 : w3.cell? ⟨w.heap.size, 11, none⟩ = some (.slice a3 exprs.length c3) := (B3.out.1.2 11 (by simp)).1
    cases h2 : partsB 0 0 0 cols rules with
    | false =>
      have HV : Hid (v = false) := by unfold Hid; rw [← HVV.out]; simp only [h2, Bool.false_and, Bool.and_false]
      go_wp2_with fail
      go_ret
      exact ⟨by rw [HV.out] <;> rfl, B3.out.2⟩
    | true =>
      have HV : Hid ((on.toList.isEmpty && (namesB list 12 && ((!flag) && (tyEq ⟨ty.kind, ty.len, ty.name⟩ ⟨0, 0, ⟨#[]⟩⟩ && ((num == 0) && exprsB exprs 0 0))))) = v) := by unfold Hid; rw [← HVV.out]; simp only [nmB, h1, h2, Bool.true_and]
      go_wp2_with fail
      refine (specRest_0 name on list num flag ty cols rules exprs a0 a1 a2 a3 c0 c1 c2 c3 _ (HK.out _ B3.out.2).1 (HK.out _ B3.out.2).2.2.2 Zo.out Zt.out Zl.out Ze.out v HV.out).mono ?_
      rintro e w4 ⟨rfl, b4⟩
      have B4 := Lib.hid (B3.out.call b4)
      clear b4
      go_wp2_with fail
      go_ret
      exact ⟨rfl, B4.out.2⟩

set_option maxRecDepth 100000 in
set_option maxHeartbeats 4000000 in
theorem specStmtOk_1 (name on : ByteArray) (list : List ByteArray) (num : Int) (flag : Bool) (ty : Ty) (cols : List Co) (rules : List Ru) (exprs : List Ex) (a0 a1 a2 a3 : Option Addr) (c0 c1 c2 c3 : Nat) (w : World)
    (HK : Hid (∀ w', Below w.heap.size w w' → Ss 0 w' a0 c0 list ∧ Sl 6 RCo 0 w' a1 c1 cols ∧ Sl 6 RRu 0 w' a2 c2 rules ∧ Ks 0 w' a3 c3 exprs)) (Zn : Hid (name.size ≤ 1048576)) (Zo : Hid (on.size ≤ 1048576)) (Zt : Hid (ty.name.size ≤ 1048576)) (Zl : Hid (lets list ≤ 1048576)) (Ze : Hid (wtL exprs ≤ 1048576))
    (Zc : Hid (∀ x ∈ cols, x.wt ≤ 1048576)) (Zr : Hid (∀ x ∈ rules, x.wt ≤ 1048576)) (v : Bool) (hv : stB ⟨1, name, on, list, num, flag, ty, cols, rules, exprs⟩ = v) :
    Calls Tryz.prog 49 #[.agg #[.int .i64 1, .string name, .string on, .slice a0 list.length c0, .int .i64 num, .bool flag, .int .i64 ty.kind, .int .i64 ty.len, .string ty.name, .slice a1 cols.length c1, .slice a2 rules.length c2, .slice a3 exprs.length c3]] w fun e w' => e = .returned (.bool v) ∧ Below w.heap.size w w' := by
  have HVV := Lib.hid ((agree_1 name on list num flag ty cols rules exprs).symm.trans hv)
  have HB := Lib.hid (boxV_new w [.int .i64 1, .string name, .string on, .slice a0 list.length c0, .int .i64 num, .bool flag, .int .i64 ty.kind, .int .i64 ty.len, .string ty.name, .slice a1 cols.length c1, .slice a2 rules.length c2, .slice a3 exprs.length c3] 55)
  clear hv
  go_enter Tryz.func49, Tryz.ntmps49
  go_wp2_with fail
  refine (specInIs 1 0 16 _ true (by decide)).mono ?_
  rintro e w1 ⟨rfl, rfl⟩
  generalize w.alloc (.cells #[.int .i64 1, .string name, .string on, .slice a0 list.length c0, .int .i64 num, .bool flag, .int .i64 ty.kind, .int .i64 ty.len, .string ty.name, .slice a1 cols.length c1, .slice a2 rules.length c2, .slice a3 exprs.length c3] 55) = W0 at HB ⊢
  have g0 : W0.cell? ⟨w.heap.size, 0, none⟩ = some (.int .i64 1) := (HB.out.1.2 0 (by simp)).1
  have g1 : W0.cell? ⟨w.heap.size, 1, none⟩ = some (.string name) := (HB.out.1.2 1 (by simp)).1
  have g2 : W0.cell? ⟨w.heap.size, 2, none⟩ = some (.string on) := (HB.out.1.2 2 (by simp)).1
  have g3 : W0.cell? ⟨w.heap.size, 3, none⟩ = some (.slice a0 list.length c0) := (HB.out.1.2 3 (by simp)).1
  have g4 : W0.cell? ⟨w.heap.size, 4, none⟩ = some (.int .i64 num) := (HB.out.1.2 4 (by simp)).1
  have g5 : W0.cell? ⟨w.heap.size, 5, none⟩ = some (.bool flag) := (HB.out.1.2 5 (by simp)).1
  have g6 : W0.cell? ⟨w.heap.size, 6, none⟩ = some (.int .i64 ty.kind) := (HB.out.1.2 6 (by simp)).1
  have g7 : W0.cell? ⟨w.heap.size, 7, none⟩ = some (.int .i64 ty.len) := (HB.out.1.2 7 (by simp)).1
  have g8 : W0.cell? ⟨w.heap.size, 8, none⟩ = some (.string ty.name) := (HB.out.1.2 8 (by simp)).1
  have g9 : W0.cell? ⟨w.heap.size, 9, none⟩ = some (.slice a1 cols.length c1) := (HB.out.1.2 9 (by simp)).1
  have g10 : W0.cell? ⟨w.heap.size, 10, none⟩ = some (.slice a2 rules.length c2) := (HB.out.1.2 10 (by simp)).1
  have g11 : W0.cell? ⟨w.heap.size, 11, none⟩ = some (.slice a3 exprs.length c3) := (HB.out.1.2 11 (by simp)).1
  go_wp2_with fail
  refine (specNameOk name _ Zn.out _ rfl).mono ?_
  rintro e w2 ⟨rfl, rfl⟩
  cases h1 : nameB name.data.toList with
  | false =>
    have HV : Hid (v = false) := by unfold Hid; rw [← HVV.out]; simp only [nmB, h1, Bool.false_and]
    go_wp2_with fail
    go_ret
    exact ⟨by rw [HV.out] <;> rfl, HB.out.2⟩
  | true =>
    go_wp2_with fail
    refine (specParts_o 1 name on list num flag ty cols rules exprs a0 a1 a2 a3 c0 c1 c2 c3 _ (by decide) (by decide) (by decide) (HK.out _ HB.out.2).2.1 (HK.out _ HB.out.2).2.2.1 Zc.out Zr.out _ rfl).mono ?_
    rintro e w3 ⟨rfl, b3⟩
    have B3 := Lib.hid (HB.out.call b3)
    clear b3 g0 g1 g2 g3 g4 g5 g6 g7 g8 g9 g10 g11
    have g0 : w3.cell? ⟨w.heap.size, 0, none⟩ = some (.int .i64 1) := (B3.out.1.2 0 (by simp)).1
    have g1 : w3.cell? ⟨w.heap.size, 1, none⟩ = some (.string name) := (B3.out.1.2 1 (by simp)).1
    have g2 : w3.cell? ⟨w.heap.size, 2, none⟩ = some (.string on) := (B3.out.1.2 2 (by simp)).1
    have g3 : w3.cell? ⟨w.heap.size, 3, none⟩ = some (.slice a0 list.length c0) := (B3.out.1.2 3 (by simp)).1
    have g4 : w3.cell? ⟨w.heap.size, 4, none⟩ = some (.int .i64 num) := (B3.out.1.2 4 (by simp)).1
    have g5 : w3.cell? ⟨w.heap.size, 5, none⟩ = some (.bool flag) := (B3.out.1.2 5 (by simp)).1
    have g6 : w3.cell? ⟨w.heap.size, 6, none⟩ = some (.int .i64 ty.kind) := (B3.out.1.2 6 (by simp)).1
    have g7 : w3.cell? ⟨w.heap.size, 7, none⟩ = some (.int .i64 ty.len) := (B3.out.1.2 7 (by simp)).1
    have g8 : w3.cell? ⟨w.heap.size, 8, none⟩ = some (.string ty.name) := (B3.out.1.2 8 (by simp)).1
    have g9 : w3.cell? ⟨w.heap.size, 9, none⟩ = some (.slice a1 cols.length c1) := (B3.out.1.2 9 (by simp)).1
    have g10 : w3.cell? ⟨w.heap.size, 10, none⟩ = some (.slice a2 rules.length c2) := (B3.out.1.2 10 (by simp)).1
    have g11 : w3.cell? ⟨w.heap.size, 11, none⟩ = some (.slice a3 exprs.length c3) := (B3.out.1.2 11 (by simp)).1
    cases h2 : partsB 0 0 0 cols rules with
    | false =>
      have HV : Hid (v = false) := by unfold Hid; rw [← HVV.out]; simp only [h2, Bool.false_and, Bool.and_false]
      go_wp2_with fail
      go_ret
      exact ⟨by rw [HV.out] <;> rfl, B3.out.2⟩
    | true =>
      have HV : Hid ((on.toList.isEmpty && ((((list.length : Nat) : Int) == 0) && ((!flag) && (tyEq ⟨ty.kind, ty.len, ty.name⟩ ⟨0, 0, ⟨#[]⟩⟩ && ((num == 0) && exprsB exprs 0 0))))) = v) := by unfold Hid; rw [← HVV.out]; simp only [nmB, h1, h2, Bool.true_and]
      go_wp2_with fail
      refine (specRest_o 1 name on list num flag ty cols rules exprs a0 a1 a2 a3 c0 c1 c2 c3 _ (by decide) (by decide) (by decide) (by decide) (by decide) (by decide) (by decide) (by decide) (by decide) (HK.out _ B3.out.2).1 (HK.out _ B3.out.2).2.2.2 Zo.out Zt.out Zl.out Ze.out v HV.out).mono ?_
      rintro e w4 ⟨rfl, b4⟩
      have B4 := Lib.hid (B3.out.call b4)
      clear b4
      go_wp2_with fail
      go_ret
      exact ⟨rfl, B4.out.2⟩

set_option maxRecDepth 100000 in
set_option maxHeartbeats 4000000 in
theorem specStmtOk_2 (name on : ByteArray) (list : List ByteArray) (num : Int) (flag : Bool) (ty : Ty) (cols : List Co) (rules : List Ru) (exprs : List Ex) (a0 a1 a2 a3 : Option Addr) (c0 c1 c2 c3 : Nat) (w : World)
    (HK : Hid (∀ w', Below w.heap.size w w' → Ss 0 w' a0 c0 list ∧ Sl 6 RCo 0 w' a1 c1 cols ∧ Sl 6 RRu 0 w' a2 c2 rules ∧ Ks 0 w' a3 c3 exprs)) (Zn : Hid (name.size ≤ 1048576)) (Zo : Hid (on.size ≤ 1048576)) (Zt : Hid (ty.name.size ≤ 1048576)) (Zl : Hid (lets list ≤ 1048576)) (Ze : Hid (wtL exprs ≤ 1048576))
    (Zc : Hid (∀ x ∈ cols, x.wt ≤ 1048576)) (Zr : Hid (∀ x ∈ rules, x.wt ≤ 1048576)) (v : Bool) (hv : stB ⟨2, name, on, list, num, flag, ty, cols, rules, exprs⟩ = v) :
    Calls Tryz.prog 49 #[.agg #[.int .i64 2, .string name, .string on, .slice a0 list.length c0, .int .i64 num, .bool flag, .int .i64 ty.kind, .int .i64 ty.len, .string ty.name, .slice a1 cols.length c1, .slice a2 rules.length c2, .slice a3 exprs.length c3]] w fun e w' => e = .returned (.bool v) ∧ Below w.heap.size w w' := by
  have HVV := Lib.hid ((agree_2 name on list num flag ty cols rules exprs).symm.trans hv)
  have HB := Lib.hid (boxV_new w [.int .i64 2, .string name, .string on, .slice a0 list.length c0, .int .i64 num, .bool flag, .int .i64 ty.kind, .int .i64 ty.len, .string ty.name, .slice a1 cols.length c1, .slice a2 rules.length c2, .slice a3 exprs.length c3] 55)
  clear hv
  go_enter Tryz.func49, Tryz.ntmps49
  go_wp2_with fail
  refine (specInIs 2 0 16 _ true (by decide)).mono ?_
  rintro e w1 ⟨rfl, rfl⟩
  generalize w.alloc (.cells #[.int .i64 2, .string name, .string on, .slice a0 list.length c0, .int .i64 num, .bool flag, .int .i64 ty.kind, .int .i64 ty.len, .string ty.name, .slice a1 cols.length c1, .slice a2 rules.length c2, .slice a3 exprs.length c3] 55) = W0 at HB ⊢
  have g0 : W0.cell? ⟨w.heap.size, 0, none⟩ = some (.int .i64 2) := (HB.out.1.2 0 (by simp)).1
  have g1 : W0.cell? ⟨w.heap.size, 1, none⟩ = some (.string name) := (HB.out.1.2 1 (by simp)).1
  have g2 : W0.cell? ⟨w.heap.size, 2, none⟩ = some (.string on) := (HB.out.1.2 2 (by simp)).1
  have g3 : W0.cell? ⟨w.heap.size, 3, none⟩ = some (.slice a0 list.length c0) := (HB.out.1.2 3 (by simp)).1
  have g4 : W0.cell? ⟨w.heap.size, 4, none⟩ = some (.int .i64 num) := (HB.out.1.2 4 (by simp)).1
  have g5 : W0.cell? ⟨w.heap.size, 5, none⟩ = some (.bool flag) := (HB.out.1.2 5 (by simp)).1
  have g6 : W0.cell? ⟨w.heap.size, 6, none⟩ = some (.int .i64 ty.kind) := (HB.out.1.2 6 (by simp)).1
  have g7 : W0.cell? ⟨w.heap.size, 7, none⟩ = some (.int .i64 ty.len) := (HB.out.1.2 7 (by simp)).1
  have g8 : W0.cell? ⟨w.heap.size, 8, none⟩ = some (.string ty.name) := (HB.out.1.2 8 (by simp)).1
  have g9 : W0.cell? ⟨w.heap.size, 9, none⟩ = some (.slice a1 cols.length c1) := (HB.out.1.2 9 (by simp)).1
  have g10 : W0.cell? ⟨w.heap.size, 10, none⟩ = some (.slice a2 rules.length c2) := (HB.out.1.2 10 (by simp)).1
  have g11 : W0.cell? ⟨w.heap.size, 11, none⟩ = some (.slice a3 exprs.length c3) := (HB.out.1.2 11 (by simp)).1
  go_wp2_with fail
  refine (specNameOk name _ Zn.out _ rfl).mono ?_
  rintro e w2 ⟨rfl, rfl⟩
  cases h1 : nameB name.data.toList with
  | false =>
    have HV : Hid (v = false) := by unfold Hid; rw [← HVV.out]; simp only [nmB, h1, Bool.false_and]
    go_wp2_with fail
    go_ret
    exact ⟨by rw [HV.out] <;> rfl, HB.out.2⟩
  | true =>
    go_wp2_with fail
    refine (specParts_o 2 name on list num flag ty cols rules exprs a0 a1 a2 a3 c0 c1 c2 c3 _ (by decide) (by decide) (by decide) (HK.out _ HB.out.2).2.1 (HK.out _ HB.out.2).2.2.1 Zc.out Zr.out _ rfl).mono ?_
    rintro e w3 ⟨rfl, b3⟩
    have B3 := Lib.hid (HB.out.call b3)
    clear b3 g0 g1 g2 g3 g4 g5 g6 g7 g8 g9 g10 g11
    have g0 : w3.cell? ⟨w.heap.size, 0, none⟩ = some (.int .i64 2) := (B3.out.1.2 0 (by simp)).1
    have g1 : w3.cell? ⟨w.heap.size, 1, none⟩ = some (.string name) := (B3.out.1.2 1 (by simp)).1
    have g2 : w3.cell? ⟨w.heap.size, 2, none⟩ = some (.string on) := (B3.out.1.2 2 (by simp)).1
    have g3 : w3.cell? ⟨w.heap.size, 3, none⟩ = some (.slice a0 list.length c0) := (B3.out.1.2 3 (by simp)).1
    have g4 : w3.cell? ⟨w.heap.size, 4, none⟩ = some (.int .i64 num) := (B3.out.1.2 4 (by simp)).1
    have g5 : w3.cell? ⟨w.heap.size, 5, none⟩ = some (.bool flag) := (B3.out.1.2 5 (by simp)).1
    have g6 : w3.cell? ⟨w.heap.size, 6, none⟩ = some (.int .i64 ty.kind) := (B3.out.1.2 6 (by simp)).1
    have g7 : w3.cell? ⟨w.heap.size, 7, none⟩ = some (.int .i64 ty.len) := (B3.out.1.2 7 (by simp)).1
    have g8 : w3.cell? ⟨w.heap.size, 8, none⟩ = some (.string ty.name) := (B3.out.1.2 8 (by simp)).1
    have g9 : w3.cell? ⟨w.heap.size, 9, none⟩ = some (.slice a1 cols.length c1) := (B3.out.1.2 9 (by simp)).1
    have g10 : w3.cell? ⟨w.heap.size, 10, none⟩ = some (.slice a2 rules.length c2) := (B3.out.1.2 10 (by simp)).1
    have g11 : w3.cell? ⟨w.heap.size, 11, none⟩ = some (.slice a3 exprs.length c3) := (B3.out.1.2 11 (by simp)).1
    cases h2 : partsB 0 0 0 cols rules with
    | false =>
      have HV : Hid (v = false) := by unfold Hid; rw [← HVV.out]; simp only [h2, Bool.false_and, Bool.and_false]
      go_wp2_with fail
      go_ret
      exact ⟨by rw [HV.out] <;> rfl, B3.out.2⟩
    | true =>
      have HV : Hid ((on.toList.isEmpty && ((((list.length : Nat) : Int) == 0) && ((!flag) && (tyEq ⟨ty.kind, ty.len, ty.name⟩ ⟨0, 0, ⟨#[]⟩⟩ && (((num == 0) || inI num 0 999999999) && exprsB exprs 0 0))))) = v) := by unfold Hid; rw [← HVV.out]; simp only [nmB, h1, h2, Bool.true_and]
      go_wp2_with fail
      refine (specRest_2 name on list num flag ty cols rules exprs a0 a1 a2 a3 c0 c1 c2 c3 _ (HK.out _ B3.out.2).1 (HK.out _ B3.out.2).2.2.2 Zo.out Zt.out Zl.out Ze.out v HV.out).mono ?_
      rintro e w4 ⟨rfl, b4⟩
      have B4 := Lib.hid (B3.out.call b4)
      clear b4
      go_wp2_with fail
      go_ret
      exact ⟨rfl, B4.out.2⟩

set_option maxRecDepth 100000 in
set_option maxHeartbeats 4000000 in
theorem specStmtOk_3 (name on : ByteArray) (list : List ByteArray) (num : Int) (flag : Bool) (ty : Ty) (cols : List Co) (rules : List Ru) (exprs : List Ex) (a0 a1 a2 a3 : Option Addr) (c0 c1 c2 c3 : Nat) (w : World)
    (HK : Hid (∀ w', Below w.heap.size w w' → Ss 0 w' a0 c0 list ∧ Sl 6 RCo 0 w' a1 c1 cols ∧ Sl 6 RRu 0 w' a2 c2 rules ∧ Ks 0 w' a3 c3 exprs)) (Zn : Hid (name.size ≤ 1048576)) (Zo : Hid (on.size ≤ 1048576)) (Zt : Hid (ty.name.size ≤ 1048576)) (Zl : Hid (lets list ≤ 1048576)) (Ze : Hid (wtL exprs ≤ 1048576))
    (Zc : Hid (∀ x ∈ cols, x.wt ≤ 1048576)) (Zr : Hid (∀ x ∈ rules, x.wt ≤ 1048576)) (v : Bool) (hv : stB ⟨3, name, on, list, num, flag, ty, cols, rules, exprs⟩ = v) :
    Calls Tryz.prog 49 #[.agg #[.int .i64 3, .string name, .string on, .slice a0 list.length c0, .int .i64 num, .bool flag, .int .i64 ty.kind, .int .i64 ty.len, .string ty.name, .slice a1 cols.length c1, .slice a2 rules.length c2, .slice a3 exprs.length c3]] w fun e w' => e = .returned (.bool v) ∧ Below w.heap.size w w' := by
  have HVV := Lib.hid ((agree_3 name on list num flag ty cols rules exprs).symm.trans hv)
  have HB := Lib.hid (boxV_new w [.int .i64 3, .string name, .string on, .slice a0 list.length c0, .int .i64 num, .bool flag, .int .i64 ty.kind, .int .i64 ty.len, .string ty.name, .slice a1 cols.length c1, .slice a2 rules.length c2, .slice a3 exprs.length c3] 55)
  clear hv
  go_enter Tryz.func49, Tryz.ntmps49
  go_wp2_with fail
  refine (specInIs 3 0 16 _ true (by decide)).mono ?_
  rintro e w1 ⟨rfl, rfl⟩
  generalize w.alloc (.cells #[.int .i64 3, .string name, .string on, .slice a0 list.length c0, .int .i64 num, .bool flag, .int .i64 ty.kind, .int .i64 ty.len, .string ty.name, .slice a1 cols.length c1, .slice a2 rules.length c2, .slice a3 exprs.length c3] 55) = W0 at HB ⊢
  have g0 : W0.cell? ⟨w.heap.size, 0, none⟩ = some (.int .i64 3) := (HB.out.1.2 0 (by simp)).1
  have g1 : W0.cell? ⟨w.heap.size, 1, none⟩ = some (.string name) := (HB.out.1.2 1 (by simp)).1
  have g2 : W0.cell? ⟨w.heap.size, 2, none⟩ = some (.string on) := (HB.out.1.2 2 (by simp)).1
  have g3 : W0.cell? ⟨w.heap.size, 3, none⟩ = some (.slice a0 list.length c0) := (HB.out.1.2 3 (by simp)).1
  have g4 : W0.cell? ⟨w.heap.size, 4, none⟩ = some (.int .i64 num) := (HB.out.1.2 4 (by simp)).1
  have g5 : W0.cell? ⟨w.heap.size, 5, none⟩ = some (.bool flag) := (HB.out.1.2 5 (by simp)).1
  have g6 : W0.cell? ⟨w.heap.size, 6, none⟩ = some (.int .i64 ty.kind) := (HB.out.1.2 6 (by simp)).1
  have g7 : W0.cell? ⟨w.heap.size, 7, none⟩ = some (.int .i64 ty.len) := (HB.out.1.2 7 (by simp)).1
  have g8 : W0.cell? ⟨w.heap.size, 8, none⟩ = some (.string ty.name) := (HB.out.1.2 8 (by simp)).1
  have g9 : W0.cell? ⟨w.heap.size, 9, none⟩ = some (.slice a1 cols.length c1) := (HB.out.1.2 9 (by simp)).1
  have g10 : W0.cell? ⟨w.heap.size, 10, none⟩ = some (.slice a2 rules.length c2) := (HB.out.1.2 10 (by simp)).1
  have g11 : W0.cell? ⟨w.heap.size, 11, none⟩ = some (.slice a3 exprs.length c3) := (HB.out.1.2 11 (by simp)).1
  go_wp2_with fail
  refine (specNameOk name _ Zn.out _ rfl).mono ?_
  rintro e w2 ⟨rfl, rfl⟩
  cases h1 : nameB name.data.toList with
  | false =>
    have HV : Hid (v = false) := by unfold Hid; rw [← HVV.out]; simp only [nmB, h1, Bool.false_and]
    go_wp2_with fail
    go_ret
    exact ⟨by rw [HV.out] <;> rfl, HB.out.2⟩
  | true =>
    go_wp2_with fail
    refine (specParts_o 3 name on list num flag ty cols rules exprs a0 a1 a2 a3 c0 c1 c2 c3 _ (by decide) (by decide) (by decide) (HK.out _ HB.out.2).2.1 (HK.out _ HB.out.2).2.2.1 Zc.out Zr.out _ rfl).mono ?_
    rintro e w3 ⟨rfl, b3⟩
    have B3 := Lib.hid (HB.out.call b3)
    clear b3 g0 g1 g2 g3 g4 g5 g6 g7 g8 g9 g10 g11
    have g0 : w3.cell? ⟨w.heap.size, 0, none⟩ = some (.int .i64 3) := (B3.out.1.2 0 (by simp)).1
    have g1 : w3.cell? ⟨w.heap.size, 1, none⟩ = some (.string name) := (B3.out.1.2 1 (by simp)).1
    have g2 : w3.cell? ⟨w.heap.size, 2, none⟩ = some (.string on) := (B3.out.1.2 2 (by simp)).1
    have g3 : w3.cell? ⟨w.heap.size, 3, none⟩ = some (.slice a0 list.length c0) := (B3.out.1.2 3 (by simp)).1
    have g4 : w3.cell? ⟨w.heap.size, 4, none⟩ = some (.int .i64 num) := (B3.out.1.2 4 (by simp)).1
    have g5 : w3.cell? ⟨w.heap.size, 5, none⟩ = some (.bool flag) := (B3.out.1.2 5 (by simp)).1
    have g6 : w3.cell? ⟨w.heap.size, 6, none⟩ = some (.int .i64 ty.kind) := (B3.out.1.2 6 (by simp)).1
    have g7 : w3.cell? ⟨w.heap.size, 7, none⟩ = some (.int .i64 ty.len) := (B3.out.1.2 7 (by simp)).1
    have g8 : w3.cell? ⟨w.heap.size, 8, none⟩ = some (.string ty.name) := (B3.out.1.2 8 (by simp)).1
    have g9 : w3.cell? ⟨w.heap.size, 9, none⟩ = some (.slice a1 cols.length c1) := (B3.out.1.2 9 (by simp)).1
    have g10 : w3.cell? ⟨w.heap.size, 10, none⟩ = some (.slice a2 rules.length c2) := (B3.out.1.2 10 (by simp)).1
    have g11 : w3.cell? ⟨w.heap.size, 11, none⟩ = some (.slice a3 exprs.length c3) := (B3.out.1.2 11 (by simp)).1
    cases h2 : partsB 0 0 0 cols rules with
    | false =>
      have HV : Hid (v = false) := by unfold Hid; rw [← HVV.out]; simp only [h2, Bool.false_and, Bool.and_false]
      go_wp2_with fail
      go_ret
      exact ⟨by rw [HV.out] <;> rfl, B3.out.2⟩
    | true =>
      have HV : Hid ((on.toList.isEmpty && ((((list.length : Nat) : Int) == 0) && ((!flag) && (tyEq ⟨ty.kind, ty.len, ty.name⟩ ⟨0, 0, ⟨#[]⟩⟩ && ((num == 0) && exprsB exprs 0 0))))) = v) := by unfold Hid; rw [← HVV.out]; simp only [nmB, h1, h2, Bool.true_and]
      go_wp2_with fail
      refine (specRest_o 3 name on list num flag ty cols rules exprs a0 a1 a2 a3 c0 c1 c2 c3 _ (by decide) (by decide) (by decide) (by decide) (by decide) (by decide) (by decide) (by decide) (by decide) (HK.out _ B3.out.2).1 (HK.out _ B3.out.2).2.2.2 Zo.out Zt.out Zl.out Ze.out v HV.out).mono ?_
      rintro e w4 ⟨rfl, b4⟩
      have B4 := Lib.hid (B3.out.call b4)
      clear b4
      go_wp2_with fail
      go_ret
      exact ⟨rfl, B4.out.2⟩

set_option maxRecDepth 100000 in
set_option maxHeartbeats 4000000 in
theorem specStmtOk_4 (name on : ByteArray) (list : List ByteArray) (num : Int) (flag : Bool) (ty : Ty) (cols : List Co) (rules : List Ru) (exprs : List Ex) (a0 a1 a2 a3 : Option Addr) (c0 c1 c2 c3 : Nat) (w : World)
    (HK : Hid (∀ w', Below w.heap.size w w' → Ss 0 w' a0 c0 list ∧ Sl 6 RCo 0 w' a1 c1 cols ∧ Sl 6 RRu 0 w' a2 c2 rules ∧ Ks 0 w' a3 c3 exprs)) (Zn : Hid (name.size ≤ 1048576)) (Zo : Hid (on.size ≤ 1048576)) (Zt : Hid (ty.name.size ≤ 1048576)) (Zl : Hid (lets list ≤ 1048576)) (Ze : Hid (wtL exprs ≤ 1048576))
    (Zc : Hid (∀ x ∈ cols, x.wt ≤ 1048576)) (Zr : Hid (∀ x ∈ rules, x.wt ≤ 1048576)) (v : Bool) (hv : stB ⟨4, name, on, list, num, flag, ty, cols, rules, exprs⟩ = v) :
    Calls Tryz.prog 49 #[.agg #[.int .i64 4, .string name, .string on, .slice a0 list.length c0, .int .i64 num, .bool flag, .int .i64 ty.kind, .int .i64 ty.len, .string ty.name, .slice a1 cols.length c1, .slice a2 rules.length c2, .slice a3 exprs.length c3]] w fun e w' => e = .returned (.bool v) ∧ Below w.heap.size w w' := by
  have HVV := Lib.hid ((agree_4 name on list num flag ty cols rules exprs).symm.trans hv)
  have HB := Lib.hid (boxV_new w [.int .i64 4, .string name, .string on, .slice a0 list.length c0, .int .i64 num, .bool flag, .int .i64 ty.kind, .int .i64 ty.len, .string ty.name, .slice a1 cols.length c1, .slice a2 rules.length c2, .slice a3 exprs.length c3] 55)
  clear hv
  go_enter Tryz.func49, Tryz.ntmps49
  go_wp2_with fail
  refine (specInIs 4 0 16 _ true (by decide)).mono ?_
  rintro e w1 ⟨rfl, rfl⟩
  generalize w.alloc (.cells #[.int .i64 4, .string name, .string on, .slice a0 list.length c0, .int .i64 num, .bool flag, .int .i64 ty.kind, .int .i64 ty.len, .string ty.name, .slice a1 cols.length c1, .slice a2 rules.length c2, .slice a3 exprs.length c3] 55) = W0 at HB ⊢
  have g0 : W0.cell? ⟨w.heap.size, 0, none⟩ = some (.int .i64 4) := (HB.out.1.2 0 (by simp)).1
  have g1 : W0.cell? ⟨w.heap.size, 1, none⟩ = some (.string name) := (HB.out.1.2 1 (by simp)).1
  have g2 : W0.cell? ⟨w.heap.size, 2, none⟩ = some (.string on) := (HB.out.1.2 2 (by simp)).1
  have g3 : W0.cell? ⟨w.heap.size, 3, none⟩ = some (.slice a0 list.length c0) := (HB.out.1.2 3 (by simp)).1
  have g4 : W0.cell? ⟨w.heap.size, 4, none⟩ = some (.int .i64 num) := (HB.out.1.2 4 (by simp)).1
  have g5 : W0.cell? ⟨w.heap.size, 5, none⟩ = some (.bool flag) := (HB.out.1.2 5 (by simp)).1
  have g6 : W0.cell? ⟨w.heap.size, 6, none⟩ = some (.int .i64 ty.kind) := (HB.out.1.2 6 (by simp)).1
  have g7 : W0.cell? ⟨w.heap.size, 7, none⟩ = some (.int .i64 ty.len) := (HB.out.1.2 7 (by simp)).1
  have g8 : W0.cell? ⟨w.heap.size, 8, none⟩ = some (.string ty.name) := (HB.out.1.2 8 (by simp)).1
  have g9 : W0.cell? ⟨w.heap.size, 9, none⟩ = some (.slice a1 cols.length c1) := (HB.out.1.2 9 (by simp)).1
  have g10 : W0.cell? ⟨w.heap.size, 10, none⟩ = some (.slice a2 rules.length c2) := (HB.out.1.2 10 (by simp)).1
  have g11 : W0.cell? ⟨w.heap.size, 11, none⟩ = some (.slice a3 exprs.length c3) := (HB.out.1.2 11 (by simp)).1
  go_wp2_with fail
  refine (specNameOk name _ Zn.out _ rfl).mono ?_
  rintro e w2 ⟨rfl, rfl⟩
  cases h1 : nameB name.data.toList with
  | false =>
    have HV : Hid (v = false) := by unfold Hid; rw [← HVV.out]; simp only [nmB, h1, Bool.false_and]
    go_wp2_with fail
    go_ret
    exact ⟨by rw [HV.out] <;> rfl, HB.out.2⟩
  | true =>
    go_wp2_with fail
    refine (specParts_4 name on list num flag ty cols rules exprs a0 a1 a2 a3 c0 c1 c2 c3 _ (HK.out _ HB.out.2).2.1 (HK.out _ HB.out.2).2.2.1 Zc.out Zr.out _ rfl).mono ?_
    rintro e w3 ⟨rfl, b3⟩
    have B3 := Lib.hid (HB.out.call b3)
    clear b3 g0 g1 g2 g3 g4 g5 g6 g7 g8 g9 g10 g11
    have g0 : w3.cell? ⟨w.heap.size, 0, none⟩ = some (.int .i64 4) := (B3.out.1.2 0 (by simp)).1
    have g1 : w3.cell? ⟨w.heap.size, 1, none⟩ = some (.string name) := (B3.out.1.2 1 (by simp)).1
    have g2 : w3.cell? ⟨w.heap.size, 2, none⟩ = some (.string on) := (B3.out.1.2 2 (by simp)).1
    have g3 : w3.cell? ⟨w.heap.size, 3, none⟩ = some (.slice a0 list.length c0) := (B3.out.1.2 3 (by simp)).1
    have g4 : w3.cell? ⟨w.heap.size, 4, none⟩ = some (.int .i64 num) := (B3.out.1.2 4 (by simp)).1
    have g5 : w3.cell? ⟨w.heap.size, 5, none⟩ = some (.bool flag) := (B3.out.1.2 5 (by simp)).1
    have g6 : w3.cell? ⟨w.heap.size, 6, none⟩ = some (.int .i64 ty.kind) := (B3.out.1.2 6 (by simp)).1
    have g7 : w3.cell? ⟨w.heap.size, 7, none⟩ = some (.int .i64 ty.len) := (B3.out.1.2 7 (by simp)).1
    have g8 : w3.cell? ⟨w.heap.size, 8, none⟩ = some (.string ty.name) := (B3.out.1.2 8 (by simp)).1
    have g9 : w3.cell? ⟨w.heap.size, 9, none⟩ = some (.slice a1 cols.length c1) := (B3.out.1.2 9 (by simp)).1
    have g10 : w3.cell? ⟨w.heap.size, 10, none⟩ = some (.slice a2 rules.length c2) := (B3.out.1.2 10 (by simp)).1
    have g11 : w3.cell? ⟨w.heap.size, 11, none⟩ = some (.slice a3 exprs.length c3) := (B3.out.1.2 11 (by simp)).1
    cases h2 : partsB 12 8 0 cols rules with
    | false =>
      have HV : Hid (v = false) := by unfold Hid; rw [← HVV.out]; simp only [h2, Bool.false_and, Bool.and_false]
      go_wp2_with fail
      go_ret
      exact ⟨by rw [HV.out] <;> rfl, B3.out.2⟩
    | true =>
      have HV : Hid ((on.toList.isEmpty && ((((list.length : Nat) : Int) == 0) && ((!flag) && (tyEq ⟨ty.kind, ty.len, ty.name⟩ ⟨0, 0, ⟨#[]⟩⟩ && ((num == 0) && exprsB exprs 0 0))))) = v) := by unfold Hid; rw [← HVV.out]; simp only [nmB, h1, h2, Bool.true_and]
      go_wp2_with fail
      refine (specRest_o 4 name on list num flag ty cols rules exprs a0 a1 a2 a3 c0 c1 c2 c3 _ (by decide) (by decide) (by decide) (by decide) (by decide) (by decide) (by decide) (by decide) (by decide) (HK.out _ B3.out.2).1 (HK.out _ B3.out.2).2.2.2 Zo.out Zt.out Zl.out Ze.out v HV.out).mono ?_
      rintro e w4 ⟨rfl, b4⟩
      have B4 := Lib.hid (B3.out.call b4)
      clear b4
      go_wp2_with fail
      go_ret
      exact ⟨rfl, B4.out.2⟩

set_option maxRecDepth 100000 in
set_option maxHeartbeats 4000000 in
theorem specStmtOk_5 (name on : ByteArray) (list : List ByteArray) (num : Int) (flag : Bool) (ty : Ty) (cols : List Co) (rules : List Ru) (exprs : List Ex) (a0 a1 a2 a3 : Option Addr) (c0 c1 c2 c3 : Nat) (w : World)
    (HK : Hid (∀ w', Below w.heap.size w w' → Ss 0 w' a0 c0 list ∧ Sl 6 RCo 0 w' a1 c1 cols ∧ Sl 6 RRu 0 w' a2 c2 rules ∧ Ks 0 w' a3 c3 exprs)) (Zn : Hid (name.size ≤ 1048576)) (Zo : Hid (on.size ≤ 1048576)) (Zt : Hid (ty.name.size ≤ 1048576)) (Zl : Hid (lets list ≤ 1048576)) (Ze : Hid (wtL exprs ≤ 1048576))
    (Zc : Hid (∀ x ∈ cols, x.wt ≤ 1048576)) (Zr : Hid (∀ x ∈ rules, x.wt ≤ 1048576)) (v : Bool) (hv : stB ⟨5, name, on, list, num, flag, ty, cols, rules, exprs⟩ = v) :
    Calls Tryz.prog 49 #[.agg #[.int .i64 5, .string name, .string on, .slice a0 list.length c0, .int .i64 num, .bool flag, .int .i64 ty.kind, .int .i64 ty.len, .string ty.name, .slice a1 cols.length c1, .slice a2 rules.length c2, .slice a3 exprs.length c3]] w fun e w' => e = .returned (.bool v) ∧ Below w.heap.size w w' := by
  have HVV := Lib.hid ((agree_5 name on list num flag ty cols rules exprs).symm.trans hv)
  have HB := Lib.hid (boxV_new w [.int .i64 5, .string name, .string on, .slice a0 list.length c0, .int .i64 num, .bool flag, .int .i64 ty.kind, .int .i64 ty.len, .string ty.name, .slice a1 cols.length c1, .slice a2 rules.length c2, .slice a3 exprs.length c3] 55)
  clear hv
  go_enter Tryz.func49, Tryz.ntmps49
  go_wp2_with fail
  refine (specInIs 5 0 16 _ true (by decide)).mono ?_
  rintro e w1 ⟨rfl, rfl⟩
  generalize w.alloc (.cells #[.int .i64 5, .string name, .string on, .slice a0 list.length c0, .int .i64 num, .bool flag, .int .i64 ty.kind, .int .i64 ty.len, .string ty.name, .slice a1 cols.length c1, .slice a2 rules.length c2, .slice a3 exprs.length c3] 55) = W0 at HB ⊢
  have g0 : W0.cell? ⟨w.heap.size, 0, none⟩ = some (.int .i64 5) := (HB.out.1.2 0 (by simp)).1
  have g1 : W0.cell? ⟨w.heap.size, 1, none⟩ = some (.string name) := (HB.out.1.2 1 (by simp)).1
  have g2 : W0.cell? ⟨w.heap.size, 2, none⟩ = some (.string on) := (HB.out.1.2 2 (by simp)).1
  have g3 : W0.cell? ⟨w.heap.size, 3, none⟩ = some (.slice a0 list.length c0) := (HB.out.1.2 3 (by simp)).1
  have g4 : W0.cell? ⟨w.heap.size, 4, none⟩ = some (.int .i64 num) := (HB.out.1.2 4 (by simp)).1
  have g5 : W0.cell? ⟨w.heap.size, 5, none⟩ = some (.bool flag) := (HB.out.1.2 5 (by simp)).1
  have g6 : W0.cell? ⟨w.heap.size, 6, none⟩ = some (.int .i64 ty.kind) := (HB.out.1.2 6 (by simp)).1
  have g7 : W0.cell? ⟨w.heap.size, 7, none⟩ = some (.int .i64 ty.len) := (HB.out.1.2 7 (by simp)).1
  have g8 : W0.cell? ⟨w.heap.size, 8, none⟩ = some (.string ty.name) := (HB.out.1.2 8 (by simp)).1
  have g9 : W0.cell? ⟨w.heap.size, 9, none⟩ = some (.slice a1 cols.length c1) := (HB.out.1.2 9 (by simp)).1
  have g10 : W0.cell? ⟨w.heap.size, 10, none⟩ = some (.slice a2 rules.length c2) := (HB.out.1.2 10 (by simp)).1
  have g11 : W0.cell? ⟨w.heap.size, 11, none⟩ = some (.slice a3 exprs.length c3) := (HB.out.1.2 11 (by simp)).1
  go_wp2_with fail
  refine (specNameOk name _ Zn.out _ rfl).mono ?_
  rintro e w2 ⟨rfl, rfl⟩
  cases h1 : nameB name.data.toList with
  | false =>
    have HV : Hid (v = false) := by unfold Hid; rw [← HVV.out]; simp only [nmB, h1, Bool.false_and]
    go_wp2_with fail
    go_ret
    exact ⟨by rw [HV.out] <;> rfl, HB.out.2⟩
  | true =>
    go_wp2_with fail
    refine (specParts_o 5 name on list num flag ty cols rules exprs a0 a1 a2 a3 c0 c1 c2 c3 _ (by decide) (by decide) (by decide) (HK.out _ HB.out.2).2.1 (HK.out _ HB.out.2).2.2.1 Zc.out Zr.out _ rfl).mono ?_
    rintro e w3 ⟨rfl, b3⟩
    have B3 := Lib.hid (HB.out.call b3)
    clear b3 g0 g1 g2 g3 g4 g5 g6 g7 g8 g9 g10 g11
    have g0 : w3.cell? ⟨w.heap.size, 0, none⟩ = some (.int .i64 5) := (B3.out.1.2 0 (by simp)).1
    have g1 : w3.cell? ⟨w.heap.size, 1, none⟩ = some (.string name) := (B3.out.1.2 1 (by simp)).1
    have g2 : w3.cell? ⟨w.heap.size, 2, none⟩ = some (.string on) := (B3.out.1.2 2 (by simp)).1
    have g3 : w3.cell? ⟨w.heap.size, 3, none⟩ = some (.slice a0 list.length c0) := (B3.out.1.2 3 (by simp)).1
    have g4 : w3.cell? ⟨w.heap.size, 4, none⟩ = some (.int .i64 num) := (B3.out.1.2 4 (by simp)).1
    have g5 : w3.cell? ⟨w.heap.size, 5, none⟩ = some (.bool flag) := (B3.out.1.2 5 (by simp)).1
    have g6 : w3.cell? ⟨w.heap.size, 6, none⟩ = some (.int .i64 ty.kind) := (B3.out.1.2 6 (by simp)).1
    have g7 : w3.cell? ⟨w.heap.size, 7, none⟩ = some (.int .i64 ty.len) := (B3.out.1.2 7 (by simp)).1
    have g8 : w3.cell? ⟨w.heap.size, 8, none⟩ = some (.string ty.name) := (B3.out.1.2 8 (by simp)).1
    have g9 : w3.cell? ⟨w.heap.size, 9, none⟩ = some (.slice a1 cols.length c1) := (B3.out.1.2 9 (by simp)).1
    have g10 : w3.cell? ⟨w.heap.size, 10, none⟩ = some (.slice a2 rules.length c2) := (B3.out.1.2 10 (by simp)).1
    have g11 : w3.cell? ⟨w.heap.size, 11, none⟩ = some (.slice a3 exprs.length c3) := (B3.out.1.2 11 (by simp)).1
    cases h2 : partsB 0 0 0 cols rules with
    | false =>
      have HV : Hid (v = false) := by unfold Hid; rw [← HVV.out]; simp only [h2, Bool.false_and, Bool.and_false]
      go_wp2_with fail
      go_ret
      exact ⟨by rw [HV.out] <;> rfl, B3.out.2⟩
    | true =>
      have HV : Hid ((on.toList.isEmpty && ((((list.length : Nat) : Int) == 0) && ((!flag) && (tyEq ⟨ty.kind, ty.len, ty.name⟩ ⟨0, 0, ⟨#[]⟩⟩ && ((num == 0) && exprsB exprs 0 0))))) = v) := by unfold Hid; rw [← HVV.out]; simp only [nmB, h1, h2, Bool.true_and]
      go_wp2_with fail
      refine (specRest_o 5 name on list num flag ty cols rules exprs a0 a1 a2 a3 c0 c1 c2 c3 _ (by decide) (by decide) (by decide) (by decide) (by decide) (by decide) (by decide) (by decide) (by decide) (HK.out _ B3.out.2).1 (HK.out _ B3.out.2).2.2.2 Zo.out Zt.out Zl.out Ze.out v HV.out).mono ?_
      rintro e w4 ⟨rfl, b4⟩
      have B4 := Lib.hid (B3.out.call b4)
      clear b4
      go_wp2_with fail
      go_ret
      exact ⟨rfl, B4.out.2⟩

set_option maxRecDepth 100000 in
set_option maxHeartbeats 4000000 in
theorem specStmtOk_6 (name on : ByteArray) (list : List ByteArray) (num : Int) (flag : Bool) (ty : Ty) (cols : List Co) (rules : List Ru) (exprs : List Ex) (a0 a1 a2 a3 : Option Addr) (c0 c1 c2 c3 : Nat) (w : World)
    (HK : Hid (∀ w', Below w.heap.size w w' → Ss 0 w' a0 c0 list ∧ Sl 6 RCo 0 w' a1 c1 cols ∧ Sl 6 RRu 0 w' a2 c2 rules ∧ Ks 0 w' a3 c3 exprs)) (Zn : Hid (name.size ≤ 1048576)) (Zo : Hid (on.size ≤ 1048576)) (Zt : Hid (ty.name.size ≤ 1048576)) (Zl : Hid (lets list ≤ 1048576)) (Ze : Hid (wtL exprs ≤ 1048576))
    (Zc : Hid (∀ x ∈ cols, x.wt ≤ 1048576)) (Zr : Hid (∀ x ∈ rules, x.wt ≤ 1048576)) (v : Bool) (hv : stB ⟨6, name, on, list, num, flag, ty, cols, rules, exprs⟩ = v) :
    Calls Tryz.prog 49 #[.agg #[.int .i64 6, .string name, .string on, .slice a0 list.length c0, .int .i64 num, .bool flag, .int .i64 ty.kind, .int .i64 ty.len, .string ty.name, .slice a1 cols.length c1, .slice a2 rules.length c2, .slice a3 exprs.length c3]] w fun e w' => e = .returned (.bool v) ∧ Below w.heap.size w w' := by
  have HVV := Lib.hid ((agree_6 name on list num flag ty cols rules exprs).symm.trans hv)
  have HB := Lib.hid (boxV_new w [.int .i64 6, .string name, .string on, .slice a0 list.length c0, .int .i64 num, .bool flag, .int .i64 ty.kind, .int .i64 ty.len, .string ty.name, .slice a1 cols.length c1, .slice a2 rules.length c2, .slice a3 exprs.length c3] 55)
  clear hv
  go_enter Tryz.func49, Tryz.ntmps49
  go_wp2_with fail
  refine (specInIs 6 0 16 _ true (by decide)).mono ?_
  rintro e w1 ⟨rfl, rfl⟩
  generalize w.alloc (.cells #[.int .i64 6, .string name, .string on, .slice a0 list.length c0, .int .i64 num, .bool flag, .int .i64 ty.kind, .int .i64 ty.len, .string ty.name, .slice a1 cols.length c1, .slice a2 rules.length c2, .slice a3 exprs.length c3] 55) = W0 at HB ⊢
  have g0 : W0.cell? ⟨w.heap.size, 0, none⟩ = some (.int .i64 6) := (HB.out.1.2 0 (by simp)).1
  have g1 : W0.cell? ⟨w.heap.size, 1, none⟩ = some (.string name) := (HB.out.1.2 1 (by simp)).1
  have g2 : W0.cell? ⟨w.heap.size, 2, none⟩ = some (.string on) := (HB.out.1.2 2 (by simp)).1
  have g3 : W0.cell? ⟨w.heap.size, 3, none⟩ = some (.slice a0 list.length c0) := (HB.out.1.2 3 (by simp)).1
  have g4 : W0.cell? ⟨w.heap.size, 4, none⟩ = some (.int .i64 num) := (HB.out.1.2 4 (by simp)).1
  have g5 : W0.cell? ⟨w.heap.size, 5, none⟩ = some (.bool flag) := (HB.out.1.2 5 (by simp)).1
  have g6 : W0.cell? ⟨w.heap.size, 6, none⟩ = some (.int .i64 ty.kind) := (HB.out.1.2 6 (by simp)).1
  have g7 : W0.cell? ⟨w.heap.size, 7, none⟩ = some (.int .i64 ty.len) := (HB.out.1.2 7 (by simp)).1
  have g8 : W0.cell? ⟨w.heap.size, 8, none⟩ = some (.string ty.name) := (HB.out.1.2 8 (by simp)).1
  have g9 : W0.cell? ⟨w.heap.size, 9, none⟩ = some (.slice a1 cols.length c1) := (HB.out.1.2 9 (by simp)).1
  have g10 : W0.cell? ⟨w.heap.size, 10, none⟩ = some (.slice a2 rules.length c2) := (HB.out.1.2 10 (by simp)).1
  have g11 : W0.cell? ⟨w.heap.size, 11, none⟩ = some (.slice a3 exprs.length c3) := (HB.out.1.2 11 (by simp)).1
  go_wp2_with fail
  refine (specNameOk name _ Zn.out _ rfl).mono ?_
  rintro e w2 ⟨rfl, rfl⟩
  cases h1 : nameB name.data.toList with
  | false =>
    have HV : Hid (v = false) := by unfold Hid; rw [← HVV.out]; simp only [nmB, h1, Bool.false_and]
    go_wp2_with fail
    go_ret
    exact ⟨by rw [HV.out] <;> rfl, HB.out.2⟩
  | true =>
    go_wp2_with fail
    refine (specParts_6 name on list num flag ty cols rules exprs a0 a1 a2 a3 c0 c1 c2 c3 _ (HK.out _ HB.out.2).2.1 (HK.out _ HB.out.2).2.2.1 Zc.out Zr.out _ rfl).mono ?_
    rintro e w3 ⟨rfl, b3⟩
    have B3 := Lib.hid (HB.out.call b3)
    clear b3 g0 g1 g2 g3 g4 g5 g6 g7 g8 g9 g10 g11
    have g0 : w3.cell? ⟨w.heap.size, 0, none⟩ = some (.int .i64 6) := (B3.out.1.2 0 (by simp)).1
    have g1 : w3.cell? ⟨w.heap.size, 1, none⟩ = some (.string name) := (B3.out.1.2 1 (by simp)).1
    have g2 : w3.cell? ⟨w.heap.size, 2, none⟩ = some (.string on) := (B3.out.1.2 2 (by simp)).1
    have g3 : w3.cell? ⟨w.heap.size, 3, none⟩ = some (.slice a0 list.length c0) := (B3.out.1.2 3 (by simp)).1
    have g4 : w3.cell? ⟨w.heap.size, 4, none⟩ = some (.int .i64 num) := (B3.out.1.2 4 (by simp)).1
    have g5 : w3.cell? ⟨w.heap.size, 5, none⟩ = some (.bool flag) := (B3.out.1.2 5 (by simp)).1
    have g6 : w3.cell? ⟨w.heap.size, 6, none⟩ = some (.int .i64 ty.kind) := (B3.out.1.2 6 (by simp)).1
    have g7 : w3.cell? ⟨w.heap.size, 7, none⟩ = some (.int .i64 ty.len) := (B3.out.1.2 7 (by simp)).1
    have g8 : w3.cell? ⟨w.heap.size, 8, none⟩ = some (.string ty.name) := (B3.out.1.2 8 (by simp)).1
    have g9 : w3.cell? ⟨w.heap.size, 9, none⟩ = some (.slice a1 cols.length c1) := (B3.out.1.2 9 (by simp)).1
    have g10 : w3.cell? ⟨w.heap.size, 10, none⟩ = some (.slice a2 rules.length c2) := (B3.out.1.2 10 (by simp)).1
    have g11 : w3.cell? ⟨w.heap.size, 11, none⟩ = some (.slice a3 exprs.length c3) := (B3.out.1.2 11 (by simp)).1
    cases h2 : partsB 1 0 1 cols rules with
    | false =>
      have HV : Hid (v = false) := by unfold Hid; rw [← HVV.out]; simp only [h2, Bool.false_and, Bool.and_false]
      go_wp2_with fail
      go_ret
      exact ⟨by rw [HV.out] <;> rfl, B3.out.2⟩
    | true =>
      have HV : Hid ((on.toList.isEmpty && ((((list.length : Nat) : Int) == 0) && ((!flag) && (tyEq ⟨ty.kind, ty.len, ty.name⟩ ⟨0, 0, ⟨#[]⟩⟩ && ((num == 0) && exprsB exprs 0 0))))) = v) := by unfold Hid; rw [← HVV.out]; simp only [nmB, h1, h2, Bool.true_and]
      go_wp2_with fail
      refine (specRest_o 6 name on list num flag ty cols rules exprs a0 a1 a2 a3 c0 c1 c2 c3 _ (by decide) (by decide) (by decide) (by decide) (by decide) (by decide) (by decide) (by decide) (by decide) (HK.out _ B3.out.2).1 (HK.out _ B3.out.2).2.2.2 Zo.out Zt.out Zl.out Ze.out v HV.out).mono ?_
      rintro e w4 ⟨rfl, b4⟩
      have B4 := Lib.hid (B3.out.call b4)
      clear b4
      go_wp2_with fail
      go_ret
      exact ⟨rfl, B4.out.2⟩

set_option maxRecDepth 100000 in
set_option maxHeartbeats 4000000 in
theorem specStmtOk_7 (name on : ByteArray) (list : List ByteArray) (num : Int) (flag : Bool) (ty : Ty) (cols : List Co) (rules : List Ru) (exprs : List Ex) (a0 a1 a2 a3 : Option Addr) (c0 c1 c2 c3 : Nat) (w : World)
    (HK : Hid (∀ w', Below w.heap.size w w' → Ss 0 w' a0 c0 list ∧ Sl 6 RCo 0 w' a1 c1 cols ∧ Sl 6 RRu 0 w' a2 c2 rules ∧ Ks 0 w' a3 c3 exprs)) (Zn : Hid (name.size ≤ 1048576)) (Zo : Hid (on.size ≤ 1048576)) (Zt : Hid (ty.name.size ≤ 1048576)) (Zl : Hid (lets list ≤ 1048576)) (Ze : Hid (wtL exprs ≤ 1048576))
    (Zc : Hid (∀ x ∈ cols, x.wt ≤ 1048576)) (Zr : Hid (∀ x ∈ rules, x.wt ≤ 1048576)) (v : Bool) (hv : stB ⟨7, name, on, list, num, flag, ty, cols, rules, exprs⟩ = v) :
    Calls Tryz.prog 49 #[.agg #[.int .i64 7, .string name, .string on, .slice a0 list.length c0, .int .i64 num, .bool flag, .int .i64 ty.kind, .int .i64 ty.len, .string ty.name, .slice a1 cols.length c1, .slice a2 rules.length c2, .slice a3 exprs.length c3]] w fun e w' => e = .returned (.bool v) ∧ Below w.heap.size w w' := by
  have HVV := Lib.hid ((agree_7 name on list num flag ty cols rules exprs).symm.trans hv)
  have HB := Lib.hid (boxV_new w [.int .i64 7, .string name, .string on, .slice a0 list.length c0, .int .i64 num, .bool flag, .int .i64 ty.kind, .int .i64 ty.len, .string ty.name, .slice a1 cols.length c1, .slice a2 rules.length c2, .slice a3 exprs.length c3] 55)
  clear hv
  go_enter Tryz.func49, Tryz.ntmps49
  go_wp2_with fail
  refine (specInIs 7 0 16 _ true (by decide)).mono ?_
  rintro e w1 ⟨rfl, rfl⟩
  generalize w.alloc (.cells #[.int .i64 7, .string name, .string on, .slice a0 list.length c0, .int .i64 num, .bool flag, .int .i64 ty.kind, .int .i64 ty.len, .string ty.name, .slice a1 cols.length c1, .slice a2 rules.length c2, .slice a3 exprs.length c3] 55) = W0 at HB ⊢
  have g0 : W0.cell? ⟨w.heap.size, 0, none⟩ = some (.int .i64 7) := (HB.out.1.2 0 (by simp)).1
  have g1 : W0.cell? ⟨w.heap.size, 1, none⟩ = some (.string name) := (HB.out.1.2 1 (by simp)).1
  have g2 : W0.cell? ⟨w.heap.size, 2, none⟩ = some (.string on) := (HB.out.1.2 2 (by simp)).1
  have g3 : W0.cell? ⟨w.heap.size, 3, none⟩ = some (.slice a0 list.length c0) := (HB.out.1.2 3 (by simp)).1
  have g4 : W0.cell? ⟨w.heap.size, 4, none⟩ = some (.int .i64 num) := (HB.out.1.2 4 (by simp)).1
  have g5 : W0.cell? ⟨w.heap.size, 5, none⟩ = some (.bool flag) := (HB.out.1.2 5 (by simp)).1
  have g6 : W0.cell? ⟨w.heap.size, 6, none⟩ = some (.int .i64 ty.kind) := (HB.out.1.2 6 (by simp)).1
  have g7 : W0.cell? ⟨w.heap.size, 7, none⟩ = some (.int .i64 ty.len) := (HB.out.1.2 7 (by simp)).1
  have g8 : W0.cell? ⟨w.heap.size, 8, none⟩ = some (.string ty.name) := (HB.out.1.2 8 (by simp)).1
  have g9 : W0.cell? ⟨w.heap.size, 9, none⟩ = some (.slice a1 cols.length c1) := (HB.out.1.2 9 (by simp)).1
  have g10 : W0.cell? ⟨w.heap.size, 10, none⟩ = some (.slice a2 rules.length c2) := (HB.out.1.2 10 (by simp)).1
  have g11 : W0.cell? ⟨w.heap.size, 11, none⟩ = some (.slice a3 exprs.length c3) := (HB.out.1.2 11 (by simp)).1
  go_wp2_with fail
  refine (specNameOk name _ Zn.out _ rfl).mono ?_
  rintro e w2 ⟨rfl, rfl⟩
  cases h1 : nameB name.data.toList with
  | false =>
    have HV : Hid (v = false) := by unfold Hid; rw [← HVV.out]; simp only [nmB, h1, Bool.false_and]
    go_wp2_with fail
    go_ret
    exact ⟨by rw [HV.out] <;> rfl, HB.out.2⟩
  | true =>
    go_wp2_with fail
    refine (specParts_o 7 name on list num flag ty cols rules exprs a0 a1 a2 a3 c0 c1 c2 c3 _ (by decide) (by decide) (by decide) (HK.out _ HB.out.2).2.1 (HK.out _ HB.out.2).2.2.1 Zc.out Zr.out _ rfl).mono ?_
    rintro e w3 ⟨rfl, b3⟩
    have B3 := Lib.hid (HB.out.call b3)
    clear b3 g0 g1 g2 g3 g4 g5 g6 g7 g8 g9 g10 g11
    have g0 : w3.cell? ⟨w.heap.size, 0, none⟩ = some (.int .i64 7) := (B3.out.1.2 0 (by simp)).1
    have g1 : w3.cell? ⟨w.heap.size, 1, none⟩ = some (.string name) := (B3.out.1.2 1 (by simp)).1
    have g2 : w3.cell? ⟨w.heap.size, 2, none⟩ = some (.string on) := (B3.out.1.2 2 (by simp)).1
    have g3 : w3.cell? ⟨w.heap.size, 3, none⟩ = some (.slice a0 list.length c0) := (B3.out.1.2 3 (by simp)).1
    have g4 : w3.cell? ⟨w.heap.size, 4, none⟩ = some (.int .i64 num) := (B3.out.1.2 4 (by simp)).1
    have g5 : w3.cell? ⟨w.heap.size, 5, none⟩ = some (.bool flag) := (B3.out.1.2 5 (by simp)).1
    have g6 : w3.cell? ⟨w.heap.size, 6, none⟩ = some (.int .i64 ty.kind) := (B3.out.1.2 6 (by simp)).1
    have g7 : w3.cell? ⟨w.heap.size, 7, none⟩ = some (.int .i64 ty.len) := (B3.out.1.2 7 (by simp)).1
    have g8 : w3.cell? ⟨w.heap.size, 8, none⟩ = some (.string ty.name) := (B3.out.1.2 8 (by simp)).1
    have g9 : w3.cell? ⟨w.heap.size, 9, none⟩ = some (.slice a1 cols.length c1) := (B3.out.1.2 9 (by simp)).1
    have g10 : w3.cell? ⟨w.heap.size, 10, none⟩ = some (.slice a2 rules.length c2) := (B3.out.1.2 10 (by simp)).1
    have g11 : w3.cell? ⟨w.heap.size, 11, none⟩ = some (.slice a3 exprs.length c3) := (B3.out.1.2 11 (by simp)).1
    cases h2 : partsB 0 0 0 cols rules with
    | false =>
      have HV : Hid (v = false) := by unfold Hid; rw [← HVV.out]; simp only [h2, Bool.false_and, Bool.and_false]
      go_wp2_with fail
      go_ret
      exact ⟨by rw [HV.out] <;> rfl, B3.out.2⟩
    | true =>
      have HV : Hid ((nameB on.data.toList && ((((list.length : Nat) : Int) == 0) && ((!flag) && (tyEq ⟨ty.kind, ty.len, ty.name⟩ ⟨0, 0, ⟨#[]⟩⟩ && ((num == 0) && exprsB exprs 0 0))))) = v) := by unfold Hid; rw [← HVV.out]; simp only [nmB, h1, h2, Bool.true_and]
      go_wp2_with fail
      refine (specRest_7 name on list num flag ty cols rules exprs a0 a1 a2 a3 c0 c1 c2 c3 _ (HK.out _ B3.out.2).1 (HK.out _ B3.out.2).2.2.2 Zo.out Zt.out Zl.out Ze.out v HV.out).mono ?_
      rintro e w4 ⟨rfl, b4⟩
      have B4 := Lib.hid (B3.out.call b4)
      clear b4
      go_wp2_with fail
      go_ret
      exact ⟨rfl, B4.out.2⟩

set_option maxRecDepth 100000 in
set_option maxHeartbeats 4000000 in
theorem specStmtOk_8 (name on : ByteArray) (list : List ByteArray) (num : Int) (flag : Bool) (ty : Ty) (cols : List Co) (rules : List Ru) (exprs : List Ex) (a0 a1 a2 a3 : Option Addr) (c0 c1 c2 c3 : Nat) (w : World)
    (HK : Hid (∀ w', Below w.heap.size w w' → Ss 0 w' a0 c0 list ∧ Sl 6 RCo 0 w' a1 c1 cols ∧ Sl 6 RRu 0 w' a2 c2 rules ∧ Ks 0 w' a3 c3 exprs)) (Zn : Hid (name.size ≤ 1048576)) (Zo : Hid (on.size ≤ 1048576)) (Zt : Hid (ty.name.size ≤ 1048576)) (Zl : Hid (lets list ≤ 1048576)) (Ze : Hid (wtL exprs ≤ 1048576))
    (Zc : Hid (∀ x ∈ cols, x.wt ≤ 1048576)) (Zr : Hid (∀ x ∈ rules, x.wt ≤ 1048576)) (v : Bool) (hv : stB ⟨8, name, on, list, num, flag, ty, cols, rules, exprs⟩ = v) :
    Calls Tryz.prog 49 #[.agg #[.int .i64 8, .string name, .string on, .slice a0 list.length c0, .int .i64 num, .bool flag, .int .i64 ty.kind, .int .i64 ty.len, .string ty.name, .slice a1 cols.length c1, .slice a2 rules.length c2, .slice a3 exprs.length c3]] w fun e w' => e = .returned (.bool v) ∧ Below w.heap.size w w' := by
  have HVV := Lib.hid ((agree_8 name on list num flag ty cols rules exprs).symm.trans hv)
  have HB := Lib.hid (boxV_new w [.int .i64 8, .string name, .string on, .slice a0 list.length c0, .int .i64 num, .bool flag, .int .i64 ty.kind, .int .i64 ty.len, .string ty.name, .slice a1 cols.length c1, .slice a2 rules.length c2, .slice a3 exprs.length c3] 55)
  clear hv
  go_enter Tryz.func49, Tryz.ntmps49
  go_wp2_with fail
  refine (specInIs 8 0 16 _ true (by decide)).mono ?_
  rintro e w1 ⟨rfl, rfl⟩
  generalize w.alloc (.cells #[.int .i64 8, .string name, .string on, .slice a0 list.length c0, .int .i64 num, .bool flag, .int .i64 ty.kind, .int .i64 ty.len, .string ty.name, .slice a1 cols.length c1, .slice a2 rules.length c2, .slice a3 exprs.length c3] 55) = W0 at HB ⊢
  have g0 : W0.cell? ⟨w.heap.size, 0, none⟩ = some (.int .i64 8) := (HB.out.1.2 0 (by simp)).1
  have g1 : W0.cell? ⟨w.heap.size, 1, none⟩ = some (.string name) := (HB.out.1.2 1 (by simp)).1
  have g2 : W0.cell? ⟨w.heap.size, 2, none⟩ = some (.string on) := (HB.out.1.2 2 (by simp)).1
  have g3 : W0.cell? ⟨w.heap.size, 3, none⟩ = some (.slice a0 list.length c0) := (HB.out.1.2 3 (by simp)).1
  have g4 : W0.cell? ⟨w.heap.size, 4, none⟩ = some (.int .i64 num) := (HB.out.1.2 4 (by simp)).1
  have g5 : W0.cell? ⟨w.heap.size, 5, none⟩ = some (.bool flag) := (HB.out.1.2 5 (by simp)).1
  have g6 : W0.cell? ⟨w.heap.size, 6, none⟩ = some (.int .i64 ty.kind) := (HB.out.1.2 6 (by simp)).1
  have g7 : W0.cell? ⟨w.heap.size, 7, none⟩ = some (.int .i64 ty.len) := (HB.out.1.2 7 (by simp)).1
  have g8 : W0.cell? ⟨w.heap.size, 8, none⟩ = some (.string ty.name) := (HB.out.1.2 8 (by simp)).1
  have g9 : W0.cell? ⟨w.heap.size, 9, none⟩ = some (.slice a1 cols.length c1) := (HB.out.1.2 9 (by simp)).1
  have g10 : W0.cell? ⟨w.heap.size, 10, none⟩ = some (.slice a2 rules.length c2) := (HB.out.1.2 10 (by simp)).1
  have g11 : W0.cell? ⟨w.heap.size, 11, none⟩ = some (.slice a3 exprs.length c3) := (HB.out.1.2 11 (by simp)).1
  go_wp2_with fail
  refine (specNameOk name _ Zn.out _ rfl).mono ?_
  rintro e w2 ⟨rfl, rfl⟩
  cases h1 : nameB name.data.toList with
  | false =>
    have HV : Hid (v = false) := by unfold Hid; rw [← HVV.out]; simp only [nmB, h1, Bool.false_and]
    go_wp2_with fail
    go_ret
    exact ⟨by rw [HV.out] <;> rfl, HB.out.2⟩
  | true =>
    go_wp2_with fail
    refine (specParts_o 8 name on list num flag ty cols rules exprs a0 a1 a2 a3 c0 c1 c2 c3 _ (by decide) (by decide) (by decide) (HK.out _ HB.out.2).2.1 (HK.out _ HB.out.2).2.2.1 Zc.out Zr.out _ rfl).mono ?_
    rintro e w3 ⟨rfl, b3⟩
    have B3 := Lib.hid (HB.out.call b3)
    clear b3 g0 g1 g2 g3 g4 g5 g6 g7 g8 g9 g10 g11
    have g0 : w3.cell? ⟨w.heap.size, 0, none⟩ = some (.int .i64 8) := (B3.out.1.2 0 (by simp)).1
    have g1 : w3.cell? ⟨w.heap.size, 1, none⟩ = some (.string name) := (B3.out.1.2 1 (by simp)).1
    have g2 : w3.cell? ⟨w.heap.size, 2, none⟩ = some (.string on) := (B3.out.1.2 2 (by simp)).1
    have g3 : w3.cell? ⟨w.heap.size, 3, none⟩ = some (.slice a0 list.length c0) := (B3.out.1.2 3 (by simp)).1
    have g4 : w3.cell? ⟨w.heap.size, 4, none⟩ = some (.int .i64 num) := (B3.out.1.2 4 (by simp)).1
    have g5 : w3.cell? ⟨w.heap.size, 5, none⟩ = some (.bool flag) := (B3.out.1.2 5 (by simp)).1
    have g6 : w3.cell? ⟨w.heap.size, 6, none⟩ = some (.int .i64 ty.kind) := (B3.out.1.2 6 (by simp)).1
    have g7 : w3.cell? ⟨w.heap.size, 7, none⟩ = some (.int .i64 ty.len) := (B3.out.1.2 7 (by simp)).1
    have g8 : w3.cell? ⟨w.heap.size, 8, none⟩ = some (.string ty.name) := (B3.out.1.2 8 (by simp)).1
    have g9 : w3.cell? ⟨w.heap.size, 9, none⟩ = some (.slice a1 cols.length c1) := (B3.out.1.2 9 (by simp)).1
    have g10 : w3.cell? ⟨w.heap.size, 10, none⟩ = some (.slice a2 rules.length c2) := (B3.out.1.2 10 (by simp)).1
    have g11 : w3.cell? ⟨w.heap.size, 11, none⟩ = some (.slice a3 exprs.length c3) := (B3.out.1.2 11 (by simp)).1
    cases h2 : partsB 0 0 0 cols rules with
    | false =>
      have HV : Hid (v = false) := by unfold Hid; rw [← HVV.out]; simp only [h2, Bool.false_and, Bool.and_false]
      go_wp2_with fail
      go_ret
      exact ⟨by rw [HV.out] <;> rfl, B3.out.2⟩
    | true =>
      have HV : Hid ((nameB on.data.toList && ((((list.length : Nat) : Int) == 0) && ((!flag) && (typeOkB ty.kind ty.len ty.name && ((num == 0) && exprsB exprs 0 0))))) = v) := by unfold Hid; rw [← HVV.out]; simp only [nmB, h1, h2, Bool.true_and]
      go_wp2_with fail
      refine (specRest_8 name on list num flag ty cols rules exprs a0 a1 a2 a3 c0 c1 c2 c3 _ (HK.out _ B3.out.2).1 (HK.out _ B3.out.2).2.2.2 Zo.out Zt.out Zl.out Ze.out v HV.out).mono ?_
      rintro e w4 ⟨rfl, b4⟩
      have B4 := Lib.hid (B3.out.call b4)
      clear b4
      go_wp2_with fail
      go_ret
      exact ⟨rfl, B4.out.2⟩

set_option maxRecDepth 100000 in
set_option maxHeartbeats 4000000 in
theorem specStmtOk_9 (name on : ByteArray) (list : List ByteArray) (num : Int) (flag : Bool) (ty : Ty) (cols : List Co) (rules : List Ru) (exprs : List Ex) (a0 a1 a2 a3 : Option Addr) (c0 c1 c2 c3 : Nat) (w : World)
    (HK : Hid (∀ w', Below w.heap.size w w' → Ss 0 w' a0 c0 list ∧ Sl 6 RCo 0 w' a1 c1 cols ∧ Sl 6 RRu 0 w' a2 c2 rules ∧ Ks 0 w' a3 c3 exprs)) (Zn : Hid (name.size ≤ 1048576)) (Zo : Hid (on.size ≤ 1048576)) (Zt : Hid (ty.name.size ≤ 1048576)) (Zl : Hid (lets list ≤ 1048576)) (Ze : Hid (wtL exprs ≤ 1048576))
    (Zc : Hid (∀ x ∈ cols, x.wt ≤ 1048576)) (Zr : Hid (∀ x ∈ rules, x.wt ≤ 1048576)) (v : Bool) (hv : stB ⟨9, name, on, list, num, flag, ty, cols, rules, exprs⟩ = v) :
    Calls Tryz.prog 49 #[.agg #[.int .i64 9, .string name, .string on, .slice a0 list.length c0, .int .i64 num, .bool flag, .int .i64 ty.kind, .int .i64 ty.len, .string ty.name, .slice a1 cols.length c1, .slice a2 rules.length c2, .slice a3 exprs.length c3]] w fun e w' => e = .returned (.bool v) ∧ Below w.heap.size w w' := by
  have HVV := Lib.hid ((agree_9 name on list num flag ty cols rules exprs).symm.trans hv)
  have HB := Lib.hid (boxV_new w [.int .i64 9, .string name, .string on, .slice a0 list.length c0, .int .i64 num, .bool flag, .int .i64 ty.kind, .int .i64 ty.len, .string ty.name, .slice a1 cols.length c1, .slice a2 rules.length c2, .slice a3 exprs.length c3] 55)
  clear hv
  go_enter Tryz.func49, Tryz.ntmps49
  go_wp2_with fail
  refine (specInIs 9 0 16 _ true (by decide)).mono ?_
  rintro e w1 ⟨rfl, rfl⟩
  generalize w.alloc (.cells #[.int .i64 9, .string name, .string on, .slice a0 list.length c0, .int .i64 num, .bool flag, .int .i64 ty.kind, .int .i64 ty.len, .string ty.name, .slice a1 cols.length c1, .slice a2 rules.length c2, .slice a3 exprs.length c3] 55) = W0 at HB ⊢
  have g0 : W0.cell? ⟨w.heap.size, 0, none⟩ = some (.int .i64 9) := (HB.out.1.2 0 (by simp)).1
  have g1 : W0.cell? ⟨w.heap.size, 1, none⟩ = some (.string name) := (HB.out.1.2 1 (by simp)).1
  have g2 : W0.cell? ⟨w.heap.size, 2, none⟩ = some (.string on) := (HB.out.1.2 2 (by simp)).1
  have g3 : W0.cell? ⟨w.heap.size, 3, none⟩ = some (.slice a0 list.length c0) := (HB.out.1.2 3 (by simp)).1
  have g4 : W0.cell? ⟨w.heap.size, 4, none⟩ = some (.int .i64 num) := (HB.out.1.2 4 (by simp)).1
  have g5 : W0.cell? ⟨w.heap.size, 5, none⟩ = some (.bool flag) := (HB.out.1.2 5 (by simp)).1
  have g6 : W0.cell? ⟨w.heap.size, 6, none⟩ = some (.int .i64 ty.kind) := (HB.out.1.2 6 (by simp)).1
  have g7 : W0.cell? ⟨w.heap.size, 7, none⟩ = some (.int .i64 ty.len) := (HB.out.1.2 7 (by simp)).1
  have g8 : W0.cell? ⟨w.heap.size, 8, none⟩ = some (.string ty.name) := (HB.out.1.2 8 (by simp)).1
  have g9 : W0.cell? ⟨w.heap.size, 9, none⟩ = some (.slice a1 cols.length c1) := (HB.out.1.2 9 (by simp)).1
  have g10 : W0.cell? ⟨w.heap.size, 10, none⟩ = some (.slice a2 rules.length c2) := (HB.out.1.2 10 (by simp)).1
  have g11 : W0.cell? ⟨w.heap.size, 11, none⟩ = some (.slice a3 exprs.length c3) := (HB.out.1.2 11 (by simp)).1
  go_wp2_with fail
  refine (specNameOk name _ Zn.out _ rfl).mono ?_
  rintro e w2 ⟨rfl, rfl⟩
  cases h1 : nameB name.data.toList with
  | false =>
    have HV : Hid (v = false) := by unfold Hid; rw [← HVV.out]; simp only [nmB, h1, Bool.false_and]
    go_wp2_with fail
    go_ret
    exact ⟨by rw [HV.out] <;> rfl, HB.out.2⟩
  | true =>
    go_wp2_with fail
    refine (specParts_o 9 name on list num flag ty cols rules exprs a0 a1 a2 a3 c0 c1 c2 c3 _ (by decide) (by decide) (by decide) (HK.out _ HB.out.2).2.1 (HK.out _ HB.out.2).2.2.1 Zc.out Zr.out _ rfl).mono ?_
    rintro e w3 ⟨rfl, b3⟩
    have B3 := Lib.hid (HB.out.call b3)
    clear b3 g0 g1 g2 g3 g4 g5 g6 g7 g8 g9 g10 g11
    have g0 : w3.cell? ⟨w.heap.size, 0, none⟩ = some (.int .i64 9) := (B3.out.1.2 0 (by simp)).1
    have g1 : w3.cell? ⟨w.heap.size, 1, none⟩ = some (.string name) := (B3.out.1.2 1 (by simp)).1
    have g2 : w3.cell? ⟨w.heap.size, 2, none⟩ = some (.string on) := (B3.out.1.2 2 (by simp)).1
    have g3 : w3.cell? ⟨w.heap.size, 3, none⟩ = some (.slice a0 list.length c0) := (B3.out.1.2 3 (by simp)).1
    have g4 : w3.cell? ⟨w.heap.size, 4, none⟩ = some (.int .i64 num) := (B3.out.1.2 4 (by simp)).1
    have g5 : w3.cell? ⟨w.heap.size, 5, none⟩ = some (.bool flag) := (B3.out.1.2 5 (by simp)).1
    have g6 : w3.cell? ⟨w.heap.size, 6, none⟩ = some (.int .i64 ty.kind) := (B3.out.1.2 6 (by simp)).1
    have g7 : w3.cell? ⟨w.heap.size, 7, none⟩ = some (.int .i64 ty.len) := (B3.out.1.2 7 (by simp)).1
    have g8 : w3.cell? ⟨w.heap.size, 8, none⟩ = some (.string ty.name) := (B3.out.1.2 8 (by simp)).1
    have g9 : w3.cell? ⟨w.heap.size, 9, none⟩ = some (.slice a1 cols.length c1) := (B3.out.1.2 9 (by simp)).1
    have g10 : w3.cell? ⟨w.heap.size, 10, none⟩ = some (.slice a2 rules.length c2) := (B3.out.1.2 10 (by simp)).1
    have g11 : w3.cell? ⟨w.heap.size, 11, none⟩ = some (.slice a3 exprs.length c3) := (B3.out.1.2 11 (by simp)).1
    cases h2 : partsB 0 0 0 cols rules with
    | false =>
      have HV : Hid (v = false) := by unfold Hid; rw [← HVV.out]; simp only [h2, Bool.false_and, Bool.and_false]
      go_wp2_with fail
      go_ret
      exact ⟨by rw [HV.out] <;> rfl, B3.out.2⟩
    | true =>
      have HV : Hid ((nameB on.data.toList && ((((list.length : Nat) : Int) == 0) && (true && (tyEq ⟨ty.kind, ty.len, ty.name⟩ ⟨0, 0, ⟨#[]⟩⟩ && ((num == 0) && exprsB exprs 0 0))))) = v) := by unfold Hid; rw [← HVV.out]; simp only [nmB, h1, h2, Bool.true_and]
      go_wp2_with fail
      refine (specRest_9 name on list num flag ty cols rules exprs a0 a1 a2 a3 c0 c1 c2 c3 _ (HK.out _ B3.out.2).1 (HK.out _ B3.out.2).2.2.2 Zo.out Zt.out Zl.out Ze.out v HV.out).mono ?_
      rintro e w4 ⟨rfl, b4⟩
      have B4 := Lib.hid (B3.out.call b4)
      clear b4
      go_wp2_with fail
      go_ret
      exact ⟨rfl, B4.out.2⟩

set_option maxRecDepth 100000 in
set_option maxHeartbeats 4000000 in
theorem specStmtOk_10 (name on : ByteArray) (list : List ByteArray) (num : Int) (flag : Bool) (ty : Ty) (cols : List Co) (rules : List Ru) (exprs : List Ex) (a0 a1 a2 a3 : Option Addr) (c0 c1 c2 c3 : Nat) (w : World)
    (HK : Hid (∀ w', Below w.heap.size w w' → Ss 0 w' a0 c0 list ∧ Sl 6 RCo 0 w' a1 c1 cols ∧ Sl 6 RRu 0 w' a2 c2 rules ∧ Ks 0 w' a3 c3 exprs)) (Zn : Hid (name.size ≤ 1048576)) (Zo : Hid (on.size ≤ 1048576)) (Zt : Hid (ty.name.size ≤ 1048576)) (Zl : Hid (lets list ≤ 1048576)) (Ze : Hid (wtL exprs ≤ 1048576))
    (Zc : Hid (∀ x ∈ cols, x.wt ≤ 1048576)) (Zr : Hid (∀ x ∈ rules, x.wt ≤ 1048576)) (v : Bool) (hv : stB ⟨10, name, on, list, num, flag, ty, cols, rules, exprs⟩ = v) :
    Calls Tryz.prog 49 #[.agg #[.int .i64 10, .string name, .string on, .slice a0 list.length c0, .int .i64 num, .bool flag, .int .i64 ty.kind, .int .i64 ty.len, .string ty.name, .slice a1 cols.length c1, .slice a2 rules.length c2, .slice a3 exprs.length c3]] w fun e w' => e = .returned (.bool v) ∧ Below w.heap.size w w' := by
  have HVV := Lib.hid ((agree_10 name on list num flag ty cols rules exprs).symm.trans hv)
  have HB := Lib.hid (boxV_new w [.int .i64 10, .string name, .string on, .slice a0 list.length c0, .int .i64 num, .bool flag, .int .i64 ty.kind, .int .i64 ty.len, .string ty.name, .slice a1 cols.length c1, .slice a2 rules.length c2, .slice a3 exprs.length c3] 55)
  clear hv
  go_enter Tryz.func49, Tryz.ntmps49
  go_wp2_with fail
  refine (specInIs 10 0 16 _ true (by decide)).mono ?_
  rintro e w1 ⟨rfl, rfl⟩
  generalize w.alloc (.cells #[.int .i64 10, .string name, .string on, .slice a0 list.length c0, .int .i64 num, .bool flag, .int .i64 ty.kind, .int .i64 ty.len, .string ty.name, .slice a1 cols.length c1, .slice a2 rules.length c2, .slice a3 exprs.length c3] 55) = W0 at HB ⊢
  have g0 : W0.cell? ⟨w.heap.size, 0, none⟩ = some (.int .i64 10) := (HB.out.1.2 0 (by simp)).1
  have g1 : W0.cell? ⟨w.heap.size, 1, none⟩ = some (.string name) := (HB.out.1.2 1 (by simp)).1
  have g2 : W0.cell? ⟨w.heap.size, 2, none⟩ = some (.string on) := (HB.out.1.2 2 (by simp)).1
  have g3 : W0.cell? ⟨w.heap.size, 3, none⟩ = some (.slice a0 list.length c0) := (HB.out.1.2 3 (by simp)).1
  have g4 : W0.cell? ⟨w.heap.size, 4, none⟩ = some (.int .i64 num) := (HB.out.1.2 4 (by simp)).1
  have g5 : W0.cell? ⟨w.heap.size, 5, none⟩ = some (.bool flag) := (HB.out.1.2 5 (by simp)).1
  have g6 : W0.cell? ⟨w.heap.size, 6, none⟩ = some (.int .i64 ty.kind) := (HB.out.1.2 6 (by simp)).1
  have g7 : W0.cell? ⟨w.heap.size, 7, none⟩ = some (.int .i64 ty.len) := (HB.out.1.2 7 (by simp)).1
  have g8 : W0.cell? ⟨w.heap.size, 8, none⟩ = some (.string ty.name) := (HB.out.1.2 8 (by simp)).1
  have g9 : W0.cell? ⟨w.heap.size, 9, none⟩ = some (.slice a1 cols.length c1) := (HB.out.1.2 9 (by simp)).1
  have g10 : W0.cell? ⟨w.heap.size, 10, none⟩ = some (.slice a2 rules.length c2) := (HB.out.1.2 10 (by simp)).1
  have g11 : W0.cell? ⟨w.heap.size, 11, none⟩ = some (.slice a3 exprs.length c3) := (HB.out.1.2 11 (by simp)).1
  go_wp2_with fail
  refine (specNameOk name _ Zn.out _ rfl).mono ?_
  rintro e w2 ⟨rfl, rfl⟩
  cases h1 : nameB name.data.toList with
  | false =>
    have HV : Hid (v = false) := by unfold Hid; rw [← HVV.out]; simp only [nmB, h1, Bool.false_and]
    go_wp2_with fail
    go_ret
    exact ⟨by rw [HV.out] <;> rfl, HB.out.2⟩
  | true =>
    go_wp2_with fail
    refine (specParts_o 10 name on list num flag ty cols rules exprs a0 a1 a2 a3 c0 c1 c2 c3 _ (by decide) (by decide) (by decide) (HK.out _ HB.out.2).2.1 (HK.out _ HB.out.2).2.2.1 Zc.out Zr.out _ rfl).mono ?_
    rintro e w3 ⟨rfl, b3⟩
    have B3 := Lib.hid (HB.out.call b3)
    clear b3 g0 g1 g2 g3 g4 g5 g6 g7 g8 g9 g10 g11
    have g0 : w3.cell? ⟨w.heap.size, 0, none⟩ = some (.int .i64 10) := (B3.out.1.2 0 (by simp)).1
    have g1 : w3.cell? ⟨w.heap.size, 1, none⟩ = some (.string name) := (B3.out.1.2 1 (by simp)).1
    have g2 : w3.cell? ⟨w.heap.size, 2, none⟩ = some (.string on) := (B3.out.1.2 2 (by simp)).1
    have g3 : w3.cell? ⟨w.heap.size, 3, none⟩ = some (.slice a0 list.length c0) := (B3.out.1.2 3 (by simp)).1
    have g4 : w3.cell? ⟨w.heap.size, 4, none⟩ = some (.int .i64 num) := (B3.out.1.2 4 (by simp)).1
    have g5 : w3.cell? ⟨w.heap.size, 5, none⟩ = some (.bool flag) := (B3.out.1.2 5 (by simp)).1
    have g6 : w3.cell? ⟨w.heap.size, 6, none⟩ = some (.int .i64 ty.kind) := (B3.out.1.2 6 (by simp)).1
    have g7 : w3.cell? ⟨w.heap.size, 7, none⟩ = some (.int .i64 ty.len) := (B3.out.1.2 7 (by simp)).1
    have g8 : w3.cell? ⟨w.heap.size, 8, none⟩ = some (.string ty.name) := (B3.out.1.2 8 (by simp)).1
    have g9 : w3.cell? ⟨w.heap.size, 9, none⟩ = some (.slice a1 cols.length c1) := (B3.out.1.2 9 (by simp)).1
    have g10 : w3.cell? ⟨w.heap.size, 10, none⟩ = some (.slice a2 rules.length c2) := (B3.out.1.2 10 (by simp)).1
    have g11 : w3.cell? ⟨w.heap.size, 11, none⟩ = some (.slice a3 exprs.length c3) := (B3.out.1.2 11 (by simp)).1
    cases h2 : partsB 0 0 0 cols rules with
    | false =>
      have HV : Hid (v = false) := by unfold Hid; rw [← HVV.out]; simp only [h2, Bool.false_and, Bool.and_false]
      go_wp2_with fail
      go_ret
      exact ⟨by rw [HV.out] <;> rfl, B3.out.2⟩
    | true =>
      have HV : Hid ((nameB on.data.toList && ((((list.length : Nat) : Int) == 0) && ((!flag) && (tyEq ⟨ty.kind, ty.len, ty.name⟩ ⟨0, 0, ⟨#[]⟩⟩ && ((num == 0) && exprsB exprs 0 1))))) = v) := by unfold Hid; rw [← HVV.out]; simp only [nmB, h1, h2, Bool.true_and]
      go_wp2_with fail
      refine (specRest_10 name on list num flag ty cols rules exprs a0 a1 a2 a3 c0 c1 c2 c3 _ (HK.out _ B3.out.2).1 (HK.out _ B3.out.2).2.2.2 Zo.out Zt.out Zl.out Ze.out v HV.out).mono ?_
      rintro e w4 ⟨rfl, b4⟩
      have B4 := Lib.hid (B3.out.call b4)
      clear b4
      go_wp2_with fail
      go_ret
      exact ⟨rfl, B4.out.2⟩

set_option maxRecDepth 100000 in
set_option maxHeartbeats 4000000 in
theorem specStmtOk_11 (name on : ByteArray) (list : List ByteArray) (num : Int) (flag : Bool) (ty : Ty) (cols : List Co) (rules : List Ru) (exprs : List Ex) (a0 a1 a2 a3 : Option Addr) (c0 c1 c2 c3 : Nat) (w : World)
    (HK : Hid (∀ w', Below w.heap.size w w' → Ss 0 w' a0 c0 list ∧ Sl 6 RCo 0 w' a1 c1 cols ∧ Sl 6 RRu 0 w' a2 c2 rules ∧ Ks 0 w' a3 c3 exprs)) (Zn : Hid (name.size ≤ 1048576)) (Zo : Hid (on.size ≤ 1048576)) (Zt : Hid (ty.name.size ≤ 1048576)) (Zl : Hid (lets list ≤ 1048576)) (Ze : Hid (wtL exprs ≤ 1048576))
    (Zc : Hid (∀ x ∈ cols, x.wt ≤ 1048576)) (Zr : Hid (∀ x ∈ rules, x.wt ≤ 1048576)) (v : Bool) (hv : stB ⟨11, name, on, list, num, flag, ty, cols, rules, exprs⟩ = v) :
    Calls Tryz.prog 49 #[.agg #[.int .i64 11, .string name, .string on, .slice a0 list.length c0, .int .i64 num, .bool flag, .int .i64 ty.kind, .int .i64 ty.len, .string ty.name, .slice a1 cols.length c1, .slice a2 rules.length c2, .slice a3 exprs.length c3]] w fun e w' => e = .returned (.bool v) ∧ Below w.heap.size w w' := by
  have HVV := Lib.hid ((agree_11 name on list num flag ty cols rules exprs).symm.trans hv)
  have HB := Lib.hid (boxV_new w [.int .i64 11, .string name, .string on, .slice a0 list.length c0, .int .i64 num, .bool flag, .int .i64 ty.kind, .int .i64 ty.len, .string ty.name, .slice a1 cols.length c1, .slice a2 rules.length c2, .slice a3 exprs.length c3] 55)
  clear hv
  go_enter Tryz.func49, Tryz.ntmps49
  go_wp2_with fail
  refine (specInIs 11 0 16 _ true (by decide)).mono ?_
  rintro e w1 ⟨rfl, rfl⟩
  generalize w.alloc (.cells #[.int .i64 11, .string name, .string on, .slice a0 list.length c0, .int .i64 num, .bool flag, .int .i64 ty.kind, .int .i64 ty.len, .string ty.name, .slice a1 cols.length c1, .slice a2 rules.length c2, .slice a3 exprs.length c3] 55) = W0 at HB ⊢
  have g0 : W0.cell? ⟨w.heap.size, 0, none⟩ = some (.int .i64 11) := (HB.out.1.2 0 (by simp)).1
  have g1 : W0.cell? ⟨w.heap.size, 1, none⟩ = some (.string name) := (HB.out.1.2 1 (by simp)).1
  have g2 : W0.cell? ⟨w.heap.size, 2, none⟩ = some (.string on) := (HB.out.1.2 2 (by simp)).1
  have g3 : W0.cell? ⟨w.heap.size, 3, none⟩ = some (.slice a0 list.length c0) := (HB.out.1.2 3 (by simp)).1
  have g4 : W0.cell? ⟨w.heap.size, 4, none⟩ = some (.int .i64 num) := (HB.out.1.2 4 (by simp)).1
  have g5 : W0.cell? ⟨w.heap.size, 5, none⟩ = some (.bool flag) := (HB.out.1.2 5 (by simp)).1
  have g6 : W0.cell? ⟨w.heap.size, 6, none⟩ = some (.int .i64 ty.kind) := (HB.out.1.2 6 (by simp)).1
  have g7 : W0.cell? ⟨w.heap.size, 7, none⟩ = some (.int .i64 ty.len) := (HB.out.1.2 7 (by simp)).1
  have g8 : W0.cell? ⟨w.heap.size, 8, none⟩ = some (.string ty.name) := (HB.out.1.2 8 (by simp)).1
  have g9 : W0.cell? ⟨w.heap.size, 9, none⟩ = some (.slice a1 cols.length c1) := (HB.out.1.2 9 (by simp)).1
  have g10 : W0.cell? ⟨w.heap.size, 10, none⟩ = some (.slice a2 rules.length c2) := (HB.out.1.2 10 (by simp)).1
  have g11 : W0.cell? ⟨w.heap.size, 11, none⟩ = some (.slice a3 exprs.length c3) := (HB.out.1.2 11 (by simp)).1
  go_wp2_with fail
  refine (specNameOk name _ Zn.out _ rfl).mono ?_
  rintro e w2 ⟨rfl, rfl⟩
  cases h1 : nameB name.data.toList with
  | false =>
    have HV : Hid (v = false) := by unfold Hid; rw [← HVV.out]; simp only [nmB, h1, Bool.false_and]
    go_wp2_with fail
    go_ret
    exact ⟨by rw [HV.out] <;> rfl, HB.out.2⟩
  | true =>
    go_wp2_with fail
    refine (specParts_11 name on list num flag ty cols rules exprs a0 a1 a2 a3 c0 c1 c2 c3 _ (HK.out _ HB.out.2).2.1 (HK.out _ HB.out.2).2.2.1 Zc.out Zr.out _ rfl).mono ?_
    rintro e w3 ⟨rfl, b3⟩
    have B3 := Lib.hid (HB.out.call b3)
    clear b3 g0 g1 g2 g3 g4 g5 g6 g7 g8 g9 g10 g11
    have g0 : w3.cell? ⟨w.heap.size, 0, none⟩ = some (.int .i64 11) := (B3.out.1.2 0 (by simp)).1
    have g1 : w3.cell? ⟨w.heap.size, 1, none⟩ = some (.string name) := (B3.out.1.2 1 (by simp)).1
    have g2 : w3.cell? ⟨w.heap.size, 2, none⟩ = some (.string on) := (B3.out.1.2 2 (by simp)).1
    have g3 : w3.cell? ⟨w.heap.size, 3, none⟩ = some (.slice a0 list.length c0) := (B3.out.1.2 3 (by simp)).1
    have g4 : w3.cell? ⟨w.heap.size, 4, none⟩ = some (.int .i64 num) := (B3.out.1.2 4 (by simp)).1
    have g5 : w3.cell? ⟨w.heap.size, 5, none⟩ = some (.bool flag) := (B3.out.1.2 5 (by simp)).1
    have g6 : w3.cell? ⟨w.heap.size, 6, none⟩ = some (.int .i64 ty.kind) := (B3.out.1.2 6 (by simp)).1
    have g7 : w3.cell? ⟨w.heap.size, 7, none⟩ = some (.int .i64 ty.len) := (B3.out.1.2 7 (by simp)).1
    have g8 : w3.cell? ⟨w.heap.size, 8, none⟩ = some (.string ty.name) := (B3.out.1.2 8 (by simp)).1
    have g9 : w3.cell? ⟨w.heap.size, 9, none⟩ = some (.slice a1 cols.length c1) := (B3.out.1.2 9 (by simp)).1
    have g10 : w3.cell? ⟨w.heap.size, 10, none⟩ = some (.slice a2 rules.length c2) := (B3.out.1.2 10 (by simp)).1
    have g11 : w3.cell? ⟨w.heap.size, 11, none⟩ = some (.slice a3 exprs.length c3) := (B3.out.1.2 11 (by simp)).1
    cases h2 : partsB 0 1 1 cols rules with
    | false =>
      have HV : Hid (v = false) := by unfold Hid; rw [← HVV.out]; simp only [h2, Bool.false_and, Bool.and_false]
      go_wp2_with fail
      go_ret
      exact ⟨by rw [HV.out] <;> rfl, B3.out.2⟩
    | true =>
      have HV : Hid ((on.toList.isEmpty && ((((list.length : Nat) : Int) == 0) && ((!flag) && (tyEq ⟨ty.kind, ty.len, ty.name⟩ ⟨0, 0, ⟨#[]⟩⟩ && ((num == 0) && exprsB exprs 0 0))))) = v) := by unfold Hid; rw [← HVV.out]; simp only [nmB, h1, h2, Bool.true_and]
      go_wp2_with fail
      refine (specRest_o 11 name on list num flag ty cols rules exprs a0 a1 a2 a3 c0 c1 c2 c3 _ (by decide) (by decide) (by decide) (by decide) (by decide) (by decide) (by decide) (by decide) (by decide) (HK.out _ B3.out.2).1 (HK.out _ B3.out.2).2.2.2 Zo.out Zt.out Zl.out Ze.out v HV.out).mono ?_
      rintro e w4 ⟨rfl, b4⟩
      have B4 := Lib.hid (B3.out.call b4)
      clear b4
      go_wp2_with fail
      go_ret
      exact ⟨rfl, B4.out.2⟩

set_option maxRecDepth 100000 in
set_option maxHeartbeats 4000000 in
theorem specStmtOk_12 (name on : ByteArray) (list : List ByteArray) (num : Int) (flag : Bool) (ty : Ty) (cols : List Co) (rules : List Ru) (exprs : List Ex) (a0 a1 a2 a3 : Option Addr) (c0 c1 c2 c3 : Nat) (w : World)
    (HK : Hid (∀ w', Below w.heap.size w w' → Ss 0 w' a0 c0 list ∧ Sl 6 RCo 0 w' a1 c1 cols ∧ Sl 6 RRu 0 w' a2 c2 rules ∧ Ks 0 w' a3 c3 exprs)) (Zn : Hid (name.size ≤ 1048576)) (Zo : Hid (on.size ≤ 1048576)) (Zt : Hid (ty.name.size ≤ 1048576)) (Zl : Hid (lets list ≤ 1048576)) (Ze : Hid (wtL exprs ≤ 1048576))
    (Zc : Hid (∀ x ∈ cols, x.wt ≤ 1048576)) (Zr : Hid (∀ x ∈ rules, x.wt ≤ 1048576)) (v : Bool) (hv : stB ⟨12, name, on, list, num, flag, ty, cols, rules, exprs⟩ = v) :
    Calls Tryz.prog 49 #[.agg #[.int .i64 12, .string name, .string on, .slice a0 list.length c0, .int .i64 num, .bool flag, .int .i64 ty.kind, .int .i64 ty.len, .string ty.name, .slice a1 cols.length c1, .slice a2 rules.length c2, .slice a3 exprs.length c3]] w fun e w' => e = .returned (.bool v) ∧ Below w.heap.size w w' := by
  have HVV := Lib.hid ((agree_12 name on list num flag ty cols rules exprs).symm.trans hv)
  have HB := Lib.hid (boxV_new w [.int .i64 12, .string name, .string on, .slice a0 list.length c0, .int .i64 num, .bool flag, .int .i64 ty.kind, .int .i64 ty.len, .string ty.name, .slice a1 cols.length c1, .slice a2 rules.length c2, .slice a3 exprs.length c3] 55)
  clear hv
  go_enter Tryz.func49, Tryz.ntmps49
  go_wp2_with fail
  refine (specInIs 12 0 16 _ true (by decide)).mono ?_
  rintro e w1 ⟨rfl, rfl⟩
  generalize w.alloc (.cells #[.int .i64 12, .string name, .string on, .slice a0 list.length c0, .int .i64 num, .bool flag, .int .i64 ty.kind, .int .i64 ty.len, .string ty.name, .slice a1 cols.length c1, .slice a2 rules.length c2, .slice a3 exprs.length c3] 55) = W0 at HB ⊢
  have g0 : W0.cell? ⟨w.heap.size, 0, none⟩ = some (.int .i64 12) := (HB.out.1.2 0 (by simp)).1
  have g1 : W0.cell? ⟨w.heap.size, 1, none⟩ = some (.string name) := (HB.out.1.2 1 (by simp)).1
  have g2 : W0.cell? ⟨w.heap.size, 2, none⟩ = some (.string on) := (HB.out.1.2 2 (by simp)).1
  have g3 : W0.cell? ⟨w.heap.size, 3, none⟩ = some (.slice a0 list.length c0) := (HB.out.1.2 3 (by simp)).1
  have g4 : W0.cell? ⟨w.heap.size, 4, none⟩ = some (.int .i64 num) := (HB.out.1.2 4 (by simp)).1
  have g5 : W0.cell? ⟨w.heap.size, 5, none⟩ = some (.bool flag) := (HB.out.1.2 5 (by simp)).1
  have g6 : W0.cell? ⟨w.heap.size, 6, none⟩ = some (.int .i64 ty.kind) := (HB.out.1.2 6 (by simp)).1
  have g7 : W0.cell? ⟨w.heap.size, 7, none⟩ = some (.int .i64 ty.len) := (HB.out.1.2 7 (by simp)).1
  have g8 : W0.cell? ⟨w.heap.size, 8, none⟩ = some (.string ty.name) := (HB.out.1.2 8 (by simp)).1
  have g9 : W0.cell? ⟨w.heap.size, 9, none⟩ = some (.slice a1 cols.length c1) := (HB.out.1.2 9 (by simp)).1
  have g10 : W0.cell? ⟨w.heap.size, 10, none⟩ = some (.slice a2 rules.length c2) := (HB.out.1.2 10 (by simp)).1
  have g11 : W0.cell? ⟨w.heap.size, 11, none⟩ = some (.slice a3 exprs.length c3) := (HB.out.1.2 11 (by simp)).1
  go_wp2_with fail
  refine (specNameOk name _ Zn.out _ rfl).mono ?_
  rintro e w2 ⟨rfl, rfl⟩
  cases h1 : nameB name.data.toList with
  | false =>
    have HV : Hid (v = false) := by unfold Hid; rw [← HVV.out]; simp only [nmB, h1, Bool.false_and]
    go_wp2_with fail
    go_ret
    exact ⟨by rw [HV.out] <;> rfl, HB.out.2⟩
  | true =>
    go_wp2_with fail
    refine (specParts_o 12 name on list num flag ty cols rules exprs a0 a1 a2 a3 c0 c1 c2 c3 _ (by decide) (by decide) (by decide) (HK.out _ HB.out.2).2.1 (HK.out _ HB.out.2).2.2.1 Zc.out Zr.out _ rfl).mono ?_
    rintro e w3 ⟨rfl, b3⟩
    have B3 := Lib.hid (HB.out.call b3)
    clear b3 g0 g1 g2 g3 g4 g5 g6 g7 g8 g9 g10 g11
    have g0 : w3.cell? ⟨w.heap.size, 0, none⟩ = some (.int .i64 12) := (B3.out.1.2 0 (by simp)).1
    have g1 : w3.cell? ⟨w.heap.size, 1, none⟩ = some (.string name) := (B3.out.1.2 1 (by simp)).1
    have g2 : w3.cell? ⟨w.heap.size, 2, none⟩ = some (.string on) := (B3.out.1.2 2 (by simp)).1
    have g3 : w3.cell? ⟨w.heap.size, 3, none⟩ = some (.slice a0 list.length c0) := (B3.out.1.2 3 (by simp)).1
    have g4 : w3.cell? ⟨w.heap.size, 4, none⟩ = some (.int .i64 num) := (B3.out.1.2 4 (by simp)).1
    have g5 : w3.cell? ⟨w.heap.size, 5, none⟩ = some (.bool flag) := (B3.out.1.2 5 (by simp)).1
    have g6 : w3.cell? ⟨w.heap.size, 6, none⟩ = some (.int .i64 ty.kind) := (B3.out.1.2 6 (by simp)).1
    have g7 : w3.cell? ⟨w.heap.size, 7, none⟩ = some (.int .i64 ty.len) := (B3.out.1.2 7 (by simp)).1
    have g8 : w3.cell? ⟨w.heap.size, 8, none⟩ = some (.string ty.name) := (B3.out.1.2 8 (by simp)).1
    have g9 : w3.cell? ⟨w.heap.size, 9, none⟩ = some (.slice a1 cols.length c1) := (B3.out.1.2 9 (by simp)).1
    have g10 : w3.cell? ⟨w.heap.size, 10, none⟩ = some (.slice a2 rules.length c2) := (B3.out.1.2 10 (by simp)).1
    have g11 : w3.cell? ⟨w.heap.size, 11, none⟩ = some (.slice a3 exprs.length c3) := (B3.out.1.2 11 (by simp)).1
    cases h2 : partsB 0 0 0 cols rules with
    | false =>
      have HV : Hid (v = false) := by unfold Hid; rw [← HVV.out]; simp only [h2, Bool.false_and, Bool.and_false]
      go_wp2_with fail
      go_ret
      exact ⟨by rw [HV.out] <;> rfl, B3.out.2⟩
    | true =>
      have HV : Hid ((nameB on.data.toList && ((((list.length : Nat) : Int) == 0) && ((!flag) && (tyEq ⟨ty.kind, ty.len, ty.name⟩ ⟨0, 0, ⟨#[]⟩⟩ && ((num == 0) && exprsB exprs 0 0))))) = v) := by unfold Hid; rw [← HVV.out]; simp only [nmB, h1, h2, Bool.true_and]
      go_wp2_with fail
      refine (specRest_12 name on list num flag ty cols rules exprs a0 a1 a2 a3 c0 c1 c2 c3 _ (HK.out _ B3.out.2).1 (HK.out _ B3.out.2).2.2.2 Zo.out Zt.out Zl.out Ze.out v HV.out).mono ?_
      rintro e w4 ⟨rfl, b4⟩
      have B4 := Lib.hid (B3.out.call b4)
      clear b4
      go_wp2_with fail
      go_ret
      exact ⟨rfl, B4.out.2⟩

set_option maxRecDepth 100000 in
set_option maxHeartbeats 4000000 in
theorem specStmtOk_13 (name on : ByteArray) (list : List ByteArray) (num : Int) (flag : Bool) (ty : Ty) (cols : List Co) (rules : List Ru) (exprs : List Ex) (a0 a1 a2 a3 : Option Addr) (c0 c1 c2 c3 : Nat) (w : World)
    (HK : Hid (∀ w', Below w.heap.size w w' → Ss 0 w' a0 c0 list ∧ Sl 6 RCo 0 w' a1 c1 cols ∧ Sl 6 RRu 0 w' a2 c2 rules ∧ Ks 0 w' a3 c3 exprs)) (Zn : Hid (name.size ≤ 1048576)) (Zo : Hid (on.size ≤ 1048576)) (Zt : Hid (ty.name.size ≤ 1048576)) (Zl : Hid (lets list ≤ 1048576)) (Ze : Hid (wtL exprs ≤ 1048576))
    (Zc : Hid (∀ x ∈ cols, x.wt ≤ 1048576)) (Zr : Hid (∀ x ∈ rules, x.wt ≤ 1048576)) (v : Bool) (hv : stB ⟨13, name, on, list, num, flag, ty, cols, rules, exprs⟩ = v) :
    Calls Tryz.prog 49 #[.agg #[.int .i64 13, .string name, .string on, .slice a0 list.length c0, .int .i64 num, .bool flag, .int .i64 ty.kind, .int .i64 ty.len, .string ty.name, .slice a1 cols.length c1, .slice a2 rules.length c2, .slice a3 exprs.length c3]] w fun e w' => e = .returned (.bool v) ∧ Below w.heap.size w w' := by
  have HVV := Lib.hid ((agree_13 name on list num flag ty cols rules exprs).symm.trans hv)
  have HB := Lib.hid (boxV_new w [.int .i64 13, .string name, .string on, .slice a0 list.length c0, .int .i64 num, .bool flag, .int .i64 ty.kind, .int .i64 ty.len, .string ty.name, .slice a1 cols.length c1, .slice a2 rules.length c2, .slice a3 exprs.length c3] 55)
  clear hv
  go_enter Tryz.func49, Tryz.ntmps49
  go_wp2_with fail
  refine (specInIs 13 0 16 _ true (by decide)).mono ?_
  rintro e w1 ⟨rfl, rfl⟩
  generalize w.alloc (.cells #[.int .i64 13, .string name, .string on, .slice a0 list.length c0, .int .i64 num, .bool flag, .int .i64 ty.kind, .int .i64 ty.len, .string ty.name, .slice a1 cols.length c1, .slice a2 rules.length c2, .slice a3 exprs.length c3] 55) = W0 at HB ⊢
  have g0 : W0.cell? ⟨w.heap.size, 0, none⟩ = some (.int .i64 13) := (HB.out.1.2 0 (by simp)).1
  have g1 : W0.cell? ⟨w.heap.size, 1, none⟩ = some (.string name) := (HB.out.1.2 1 (by simp)).1
  have g2 : W0.cell? ⟨w.heap.size, 2, none⟩ = some (.string on) := (HB.out.1.2 2 (by simp)).1
  have g3 : W0.cell? ⟨w.heap.size, 3, none⟩ = some (.slice a0 list.length c0) := (HB.out.1.2 3 (by simp)).1
  have g4 : W0.cell? ⟨w.heap.size, 4, none⟩ = some (.int .i64 num) := (HB.out.1.2 4 (by simp)).1
  have g5 : W0.cell? ⟨w.heap.size, 5, none⟩ = some (.bool flag) := (HB.out.1.2 5 (by simp)).1
  have g6 : W0.cell? ⟨w.heap.size, 6, none⟩ = some (.int .i64 ty.kind) := (HB.out.1.2 6 (by simp)).1
  have g7 : W0.cell? ⟨w.heap.size, 7, none⟩ = some (.int .i64 ty.len) := (HB.out.1.2 7 (by simp)).1
  have g8 : W0.cell? ⟨w.heap.size, 8, none⟩ = some (.string ty.name) := (HB.out.1.2 8 (by simp)).1
  have g9 : W0.cell? ⟨w.heap.size, 9, none⟩ = some (.slice a1 cols.length c1) := (HB.out.1.2 9 (by simp)).1
  have g10 : W0.cell? ⟨w.heap.size, 10, none⟩ = some (.slice a2 rules.length c2) := (HB.out.1.2 10 (by simp)).1
  have g11 : W0.cell? ⟨w.heap.size, 11, none⟩ = some (.slice a3 exprs.length c3) := (HB.out.1.2 11 (by simp)).1
  go_wp2_with fail
  refine (specNameOk name _ Zn.out _ rfl).mono ?_
  rintro e w2 ⟨rfl, rfl⟩
  cases h1 : nameB name.data.toList with
  | false =>
    have HV : Hid (v = false) := by unfold Hid; rw [← HVV.out]; simp only [nmB, h1, Bool.false_and]
    go_wp2_with fail
    go_ret
    exact ⟨by rw [HV.out] <;> rfl, HB.out.2⟩
  | true =>
    go_wp2_with fail
    refine (specParts_o 13 name on list num flag ty cols rules exprs a0 a1 a2 a3 c0 c1 c2 c3 _ (by decide) (by decide) (by decide) (HK.out _ HB.out.2).2.1 (HK.out _ HB.out.2).2.2.1 Zc.out Zr.out _ rfl).mono ?_
    rintro e w3 ⟨rfl, b3⟩
    have B3 := Lib.hid (HB.out.call b3)
    clear b3 g0 g1 g2 g3 g4 g5 g6 g7 g8 g9 g10 g11
    have g0 : w3.cell? ⟨w.heap.size, 0, none⟩ = some (.int .i64 13) := (B3.out.1.2 0 (by simp)).1
    have g1 : w3.cell? ⟨w.heap.size, 1, none⟩ = some (.string name) := (B3.out.1.2 1 (by simp)).1
    have g2 : w3.cell? ⟨w.heap.size, 2, none⟩ = some (.string on) := (B3.out.1.2 2 (by simp)).1
    have g3 : w3.cell? ⟨w.heap.size, 3, none⟩ = some (.slice a0 list.length c0) := (B3.out.1.2 3 (by simp)).1
    have g4 : w3.cell? ⟨w.heap.size, 4, none⟩ = some (.int .i64 num) := (B3.out.1.2 4 (by simp)).1
    have g5 : w3.cell? ⟨w.heap.size, 5, none⟩ = some (.bool flag) := (B3.out.1.2 5 (by simp)).1
    have g6 : w3.cell? ⟨w.heap.size, 6, none⟩ = some (.int .i64 ty.kind) := (B3.out.1.2 6 (by simp)).1
    have g7 : w3.cell? ⟨w.heap.size, 7, none⟩ = some (.int .i64 ty.len) := (B3.out.1.2 7 (by simp)).1
    have g8 : w3.cell? ⟨w.heap.size, 8, none⟩ = some (.string ty.name) := (B3.out.1.2 8 (by simp)).1
    have g9 : w3.cell? ⟨w.heap.size, 9, none⟩ = some (.slice a1 cols.length c1) := (B3.out.1.2 9 (by simp)).1
    have g10 : w3.cell? ⟨w.heap.size, 10, none⟩ = some (.slice a2 rules.length c2) := (B3.out.1.2 10 (by simp)).1
    have g11 : w3.cell? ⟨w.heap.size, 11, none⟩ = some (.slice a3 exprs.length c3) := (B3.out.1.2 11 (by simp)).1
    cases h2 : partsB 0 0 0 cols rules with
    | false =>
      have HV : Hid (v = false) := by unfold Hid; rw [← HVV.out]; simp only [h2, Bool.false_and, Bool.and_false]
      go_wp2_with fail
      go_ret
      exact ⟨by rw [HV.out] <;> rfl, B3.out.2⟩
    | true =>
      have HV : Hid ((nameB on.data.toList && (namesB list 12 && (true && (tyEq ⟨ty.kind, ty.len, ty.name⟩ ⟨0, 0, ⟨#[]⟩⟩ && ((num == 0) && exprsB exprs 0 0))))) = v) := by unfold Hid; rw [← HVV.out]; simp only [nmB, h1, h2, Bool.true_and]
      go_wp2_with fail
      refine (specRest_13 name on list num flag ty cols rules exprs a0 a1 a2 a3 c0 c1 c2 c3 _ (HK.out _ B3.out.2).1 (HK.out _ B3.out.2).2.2.2 Zo.out Zt.out Zl.out Ze.out v HV.out).mono ?_
      rintro e w4 ⟨rfl, b4⟩
      have B4 := Lib.hid (B3.out.call b4)
      clear b4
      go_wp2_with fail
      go_ret
      exact ⟨rfl, B4.out.2⟩

set_option maxRecDepth 100000 in
set_option maxHeartbeats 4000000 in
theorem specStmtOk_14 (name on : ByteArray) (list : List ByteArray) (num : Int) (flag : Bool) (ty : Ty) (cols : List Co) (rules : List Ru) (exprs : List Ex) (a0 a1 a2 a3 : Option Addr) (c0 c1 c2 c3 : Nat) (w : World)
    (HK : Hid (∀ w', Below w.heap.size w w' → Ss 0 w' a0 c0 list ∧ Sl 6 RCo 0 w' a1 c1 cols ∧ Sl 6 RRu 0 w' a2 c2 rules ∧ Ks 0 w' a3 c3 exprs)) (Zn : Hid (name.size ≤ 1048576)) (Zo : Hid (on.size ≤ 1048576)) (Zt : Hid (ty.name.size ≤ 1048576)) (Zl : Hid (lets list ≤ 1048576)) (Ze : Hid (wtL exprs ≤ 1048576))
    (Zc : Hid (∀ x ∈ cols, x.wt ≤ 1048576)) (Zr : Hid (∀ x ∈ rules, x.wt ≤ 1048576)) (v : Bool) (hv : stB ⟨14, name, on, list, num, flag, ty, cols, rules, exprs⟩ = v) :
    Calls Tryz.prog 49 #[.agg #[.int .i64 14, .string name, .string on, .slice a0 list.length c0, .int .i64 num, .bool flag, .int .i64 ty.kind, .int .i64 ty.len, .string ty.name, .slice a1 cols.length c1, .slice a2 rules.length c2, .slice a3 exprs.length c3]] w fun e w' => e = .returned (.bool v) ∧ Below w.heap.size w w' := by
  have HVV := Lib.hid ((agree_14 name on list num flag ty cols rules exprs).symm.trans hv)
  have HB := Lib.hid (boxV_new w [.int .i64 14, .string name, .string on, .slice a0 list.length c0, .int .i64 num, .bool flag, .int .i64 ty.kind, .int .i64 ty.len, .string ty.name, .slice a1 cols.length c1, .slice a2 rules.length c2, .slice a3 exprs.length c3] 55)
  clear hv
  go_enter Tryz.func49, Tryz.ntmps49
  go_wp2_with fail
  refine (specInIs 14 0 16 _ true (by decide)).mono ?_
  rintro e w1 ⟨rfl, rfl⟩
  generalize w.alloc (.cells #[.int .i64 14, .string name, .string on, .slice a0 list.length c0, .int .i64 num, .bool flag, .int .i64 ty.kind, .int .i64 ty.len, .string ty.name, .slice a1 cols.length c1, .slice a2 rules.length c2, .slice a3 exprs.length c3] 55) = W0 at HB ⊢
  have g0 : W0.cell? ⟨w.heap.size, 0, none⟩ = some (.int .i64 14) := (HB.out.1.2 0 (by simp)).1
  have g1 : W0.cell? ⟨w.heap.size, 1, none⟩ = some (.string name) := (HB.out.1.2 1 (by simp)).1
  have g2 : W0.cell? ⟨w.heap.size, 2, none⟩ = some (.string on) := (HB.out.1.2 2 (by simp)).1
  have g3 : W0.cell? ⟨w.heap.size, 3, none⟩ = some (.slice a0 list.length c0) := (HB.out.1.2 3 (by simp)).1
  have g4 : W0.cell? ⟨w.heap.size, 4, none⟩ = some (.int .i64 num) := (HB.out.1.2 4 (by simp)).1
  have g5 : W0.cell? ⟨w.heap.size, 5, none⟩ = some (.bool flag) := (HB.out.1.2 5 (by simp)).1
  have g6 : W0.cell? ⟨w.heap.size, 6, none⟩ = some (.int .i64 ty.kind) := (HB.out.1.2 6 (by simp)).1
  have g7 : W0.cell? ⟨w.heap.size, 7, none⟩ = some (.int .i64 ty.len) := (HB.out.1.2 7 (by simp)).1
  have g8 : W0.cell? ⟨w.heap.size, 8, none⟩ = some (.string ty.name) := (HB.out.1.2 8 (by simp)).1
  have g9 : W0.cell? ⟨w.heap.size, 9, none⟩ = some (.slice a1 cols.length c1) := (HB.out.1.2 9 (by simp)).1
  have g10 : W0.cell? ⟨w.heap.size, 10, none⟩ = some (.slice a2 rules.length c2) := (HB.out.1.2 10 (by simp)).1
  have g11 : W0.cell? ⟨w.heap.size, 11, none⟩ = some (.slice a3 exprs.length c3) := (HB.out.1.2 11 (by simp)).1
  go_wp2_with fail
  refine (specNameOk name _ Zn.out _ rfl).mono ?_
  rintro e w2 ⟨rfl, rfl⟩
  cases h1 : nameB name.data.toList with
  | false =>
    have HV : Hid (v = false) := by unfold Hid; rw [← HVV.out]; simp only [nmB, h1, Bool.false_and]
    go_wp2_with fail
    go_ret
    exact ⟨by rw [HV.out] <;> rfl, HB.out.2⟩
  | true =>
    go_wp2_with fail
    refine (specParts_o 14 name on list num flag ty cols rules exprs a0 a1 a2 a3 c0 c1 c2 c3 _ (by decide) (by decide) (by decide) (HK.out _ HB.out.2).2.1 (HK.out _ HB.out.2).2.2.1 Zc.out Zr.out _ rfl).mono ?_
    rintro e w3 ⟨rfl, b3⟩
    have B3 := Lib.hid (HB.out.call b3)
    clear b3 g0 g1 g2 g3 g4 g5 g6 g7 g8 g9 g10 g11
    have g0 : w3.cell? ⟨w.heap.size, 0, none⟩ = some (.int .i64 14) := (B3.out.1.2 0 (by simp)).1
    have g1 : w3.cell? ⟨w.heap.size, 1, none⟩ = some (.string name) := (B3.out.1.2 1 (by simp)).1
    have g2 : w3.cell? ⟨w.heap.size, 2, none⟩ = some (.string on) := (B3.out.1.2 2 (by simp)).1
    have g3 : w3.cell? ⟨w.heap.size, 3, none⟩ = some (.slice a0 list.length c0) := (B3.out.1.2 3 (by simp)).1
    have g4 : w3.cell? ⟨w.heap.size, 4, none⟩ = some (.int .i64 num) := (B3.out.1.2 4 (by simp)).1
    have g5 : w3.cell? ⟨w.heap.size, 5, none⟩ = some (.bool flag) := (B3.out.1.2 5 (by simp)).1
    have g6 : w3.cell? ⟨w.heap.size, 6, none⟩ = some (.int .i64 ty.kind) := (B3.out.1.2 6 (by simp)).1
    have g7 : w3.cell? ⟨w.heap.size, 7, none⟩ = some (.int .i64 ty.len) := (B3.out.1.2 7 (by simp)).1
    have g8 : w3.cell? ⟨w.heap.size, 8, none⟩ = some (.string ty.name) := (B3.out.1.2 8 (by simp)).1
    have g9 : w3.cell? ⟨w.heap.size, 9, none⟩ = some (.slice a1 cols.length c1) := (B3.out.1.2 9 (by simp)).1
    have g10 : w3.cell? ⟨w.heap.size, 10, none⟩ = some (.slice a2 rules.length c2) := (B3.out.1.2 10 (by simp)).1
    have g11 : w3.cell? ⟨w.heap.size, 11, none⟩ = some (.slice a3 exprs.length c3) := (B3.out.1.2 11 (by simp)).1
    cases h2 : partsB 0 0 0 cols rules with
    | false =>
      have HV : Hid (v = false) := by unfold Hid; rw [← HVV.out]; simp only [h2, Bool.false_and, Bool.and_false]
      go_wp2_with fail
      go_ret
      exact ⟨by rw [HV.out] <;> rfl, B3.out.2⟩
    | true =>
      have HV : Hid ((on.toList.isEmpty && ((((list.length : Nat) : Int) == 0) && ((!flag) && (tyEq ⟨ty.kind, ty.len, ty.name⟩ ⟨0, 0, ⟨#[]⟩⟩ && ((num == 0) && exprsB exprs 0 0))))) = v) := by unfold Hid; rw [← HVV.out]; simp only [nmB, h1, h2, Bool.true_and]
      go_wp2_with fail
      refine (specRest_o 14 name on list num flag ty cols rules exprs a0 a1 a2 a3 c0 c1 c2 c3 _ (by decide) (by decide) (by decide) (by decide) (by decide) (by decide) (by decide) (by decide) (by decide) (HK.out _ B3.out.2).1 (HK.out _ B3.out.2).2.2.2 Zo.out Zt.out Zl.out Ze.out v HV.out).mono ?_
      rintro e w4 ⟨rfl, b4⟩
      have B4 := Lib.hid (B3.out.call b4)
      clear b4
      go_wp2_with fail
      go_ret
      exact ⟨rfl, B4.out.2⟩

set_option maxRecDepth 100000 in
set_option maxHeartbeats 4000000 in
theorem specStmtOk_15 (name on : ByteArray) (list : List ByteArray) (num : Int) (flag : Bool) (ty : Ty) (cols : List Co) (rules : List Ru) (exprs : List Ex) (a0 a1 a2 a3 : Option Addr) (c0 c1 c2 c3 : Nat) (w : World)
    (HK : Hid (∀ w', Below w.heap.size w w' → Ss 0 w' a0 c0 list ∧ Sl 6 RCo 0 w' a1 c1 cols ∧ Sl 6 RRu 0 w' a2 c2 rules ∧ Ks 0 w' a3 c3 exprs)) (Zn : Hid (name.size ≤ 1048576)) (Zo : Hid (on.size ≤ 1048576)) (Zt : Hid (ty.name.size ≤ 1048576)) (Zl : Hid (lets list ≤ 1048576)) (Ze : Hid (wtL exprs ≤ 1048576))
    (Zc : Hid (∀ x ∈ cols, x.wt ≤ 1048576)) (Zr : Hid (∀ x ∈ rules, x.wt ≤ 1048576)) (v : Bool) (hv : stB ⟨15, name, on, list, num, flag, ty, cols, rules, exprs⟩ = v) :
    Calls Tryz.prog 49 #[.agg #[.int .i64 15, .string name, .string on, .slice a0 list.length c0, .int .i64 num, .bool flag, .int .i64 ty.kind, .int .i64 ty.len, .string ty.name, .slice a1 cols.length c1, .slice a2 rules.length c2, .slice a3 exprs.length c3]] w fun e w' => e = .returned (.bool v) ∧ Below w.heap.size w w' := by
  have HVV := Lib.hid ((agree_15 name on list num flag ty cols rules exprs).symm.trans hv)
  have HB := Lib.hid (boxV_new w [.int .i64 15, .string name, .string on, .slice a0 list.length c0, .int .i64 num, .bool flag, .int .i64 ty.kind, .int .i64 ty.len, .string ty.name, .slice a1 cols.length c1, .slice a2 rules.length c2, .slice a3 exprs.length c3] 55)
  clear hv
  go_enter Tryz.func49, Tryz.ntmps49
  go_wp2_with fail
  refine (specInIs 15 0 16 _ true (by decide)).mono ?_
  rintro e w1 ⟨rfl, rfl⟩
  generalize w.alloc (.cells #[.int .i64 15, .string name, .string on, .slice a0 list.length c0, .int .i64 num, .bool flag, .int .i64 ty.kind, .int .i64 ty.len, .string ty.name, .slice a1 cols.length c1, .slice a2 rules.length c2, .slice a3 exprs.length c3] 55) = W0 at HB ⊢
  have g0 : W0.cell? ⟨w.heap.size, 0, none⟩ = some (.int .i64 15) := (HB.out.1.2 0 (by simp)).1
  have g1 : W0.cell? ⟨w.heap.size, 1, none⟩ = some (.string name) := (HB.out.1.2 1 (by simp)).1
  have g2 : W0.cell? ⟨w.heap.size, 2, none⟩ = some (.string on) := (HB.out.1.2 2 (by simp)).1
  have g3 : W0.cell? ⟨w.heap.size, 3, none⟩ = some (.slice a0 list.length c0) := (HB.out.1.2 3 (by simp)).1
  have g4 : W0.cell? ⟨w.heap.size, 4, none⟩ = some (.int .i64 num) := (HB.out.1.2 4 (by simp)).1
  have g5 : W0.cell? ⟨w.heap.size, 5, none⟩ = some (.bool flag) := (HB.out.1.2 5 (by simp)).1
  have g6 : W0.cell? ⟨w.heap.size, 6, none⟩ = some (.int .i64 ty.kind) := (HB.out.1.2 6 (by simp)).1
  have g7 : W0.cell? ⟨w.heap.size, 7, none⟩ = some (.int .i64 ty.len) := (HB.out.1.2 7 (by simp)).1
  have g8 : W0.cell? ⟨w.heap.size, 8, none⟩ = some (.string ty.name) := (HB.out.1.2 8 (by simp)).1
  have g9 : W0.cell? ⟨w.heap.size, 9, none⟩ = some (.slice a1 cols.length c1) := (HB.out.1.2 9 (by simp)).1
  have g10 : W0.cell? ⟨w.heap.size, 10, none⟩ = some (.slice a2 rules.length c2) := (HB.out.1.2 10 (by simp)).1
  have g11 : W0.cell? ⟨w.heap.size, 11, none⟩ = some (.slice a3 exprs.length c3) := (HB.out.1.2 11 (by simp)).1
  go_wp2_with fail
  refine (specNameOk name _ Zn.out _ rfl).mono ?_
  rintro e w2 ⟨rfl, rfl⟩
  cases h1 : nameB name.data.toList with
  | false =>
    have HV : Hid (v = false) := by unfold Hid; rw [← HVV.out]; simp only [nmB, h1, Bool.false_and]
    go_wp2_with fail
    go_ret
    exact ⟨by rw [HV.out] <;> rfl, HB.out.2⟩
  | true =>
    go_wp2_with fail
    refine (specParts_o 15 name on list num flag ty cols rules exprs a0 a1 a2 a3 c0 c1 c2 c3 _ (by decide) (by decide) (by decide) (HK.out _ HB.out.2).2.1 (HK.out _ HB.out.2).2.2.1 Zc.out Zr.out _ rfl).mono ?_
    rintro e w3 ⟨rfl, b3⟩
    have B3 := Lib.hid (HB.out.call b3)
    clear b3 g0 g1 g2 g3 g4 g5 g6 g7 g8 g9 g10 g11
    have g0 : w3.cell? ⟨w.heap.size, 0, none⟩ = some (.int .i64 15) := (B3.out.1.2 0 (by simp)).1
    have g1 : w3.cell? ⟨w.heap.size, 1, none⟩ = some (.string name) := (B3.out.1.2 1 (by simp)).1
    have g2 : w3.cell? ⟨w.heap.size, 2, none⟩ = some (.string on) := (B3.out.1.2 2 (by simp)).1
    have g3 : w3.cell? ⟨w.heap.size, 3, none⟩ = some (.slice a0 list.length c0) := (B3.out.1.2 3 (by simp)).1
    have g4 : w3.cell? ⟨w.heap.size, 4, none⟩ = some (.int .i64 num) := (B3.out.1.2 4 (by simp)).1
    have g5 : w3.cell? ⟨w.heap.size, 5, none⟩ = some (.bool flag) := (B3.out.1.2 5 (by simp)).1
    have g6 : w3.cell? ⟨w.heap.size, 6, none⟩ = some (.int .i64 ty.kind) := (B3.out.1.2 6 (by simp)).1
    have g7 : w3.cell? ⟨w.heap.size, 7, none⟩ = some (.int .i64 ty.len) := (B3.out.1.2 7 (by simp)).1
    have g8 : w3.cell? ⟨w.heap.size, 8, none⟩ = some (.string ty.name) := (B3.out.1.2 8 (by simp)).1
    have g9 : w3.cell? ⟨w.heap.size, 9, none⟩ = some (.slice a1 cols.length c1) := (B3.out.1.2 9 (by simp)).1
    have g10 : w3.cell? ⟨w.heap.size, 10, none⟩ = some (.slice a2 rules.length c2) := (B3.out.1.2 10 (by simp)).1
    have g11 : w3.cell? ⟨w.heap.size, 11, none⟩ = some (.slice a3 exprs.length c3) := (B3.out.1.2 11 (by simp)).1
    cases h2 : partsB 0 0 0 cols rules with
    | false =>
      have HV : Hid (v = false) := by unfold Hid; rw [← HVV.out]; simp only [h2, Bool.false_and, Bool.and_false]
      go_wp2_with fail
      go_ret
      exact ⟨by rw [HV.out] <;> rfl, B3.out.2⟩
    | true =>
      have HV : Hid ((nameB on.data.toList && (namesB list 12 && ((!flag) && (tyEq ⟨ty.kind, ty.len, ty.name⟩ ⟨0, 0, ⟨#[]⟩⟩ && ((num == 0) && exprsB exprs 0 1))))) = v) := by unfold Hid; rw [← HVV.out]; simp only [nmB, h1, h2, Bool.true_and]
      go_wp2_with fail
      refine (specRest_15 name on list num flag ty cols rules exprs a0 a1 a2 a3 c0 c1 c2 c3 _ (HK.out _ B3.out.2).1 (HK.out _ B3.out.2).2.2.2 Zo.out Zt.out Zl.out Ze.out v HV.out).mono ?_
      rintro e w4 ⟨rfl, b4⟩
      have B4 := Lib.hid (B3.out.call b4)
      clear b4
      go_wp2_with fail
      go_ret
      exact ⟨rfl, B4.out.2⟩

set_option maxRecDepth 100000 in
set_option maxHeartbeats 4000000 in
theorem specStmtOk_16 (name on : ByteArray) (list : List ByteArray) (num : Int) (flag : Bool) (ty : Ty) (cols : List Co) (rules : List Ru) (exprs : List Ex) (a0 a1 a2 a3 : Option Addr) (c0 c1 c2 c3 : Nat) (w : World)
    (HK : Hid (∀ w', Below w.heap.size w w' → Ss 0 w' a0 c0 list ∧ Sl 6 RCo 0 w' a1 c1 cols ∧ Sl 6 RRu 0 w' a2 c2 rules ∧ Ks 0 w' a3 c3 exprs)) (Zn : Hid (name.size ≤ 1048576)) (Zo : Hid (on.size ≤ 1048576)) (Zt : Hid (ty.name.size ≤ 1048576)) (Zl : Hid (lets list ≤ 1048576)) (Ze : Hid (wtL exprs ≤ 1048576))
    (Zc : Hid (∀ x ∈ cols, x.wt ≤ 1048576)) (Zr : Hid (∀ x ∈ rules, x.wt ≤ 1048576)) (v : Bool) (hv : stB ⟨16, name, on, list, num, flag, ty, cols, rules, exprs⟩ = v) :
    Calls Tryz.prog 49 #[.agg #[.int .i64 16, .string name, .string on, .slice a0 list.length c0, .int .i64 num, .bool flag, .int .i64 ty.kind, .int .i64 ty.len, .string ty.name, .slice a1 cols.length c1, .slice a2 rules.length c2, .slice a3 exprs.length c3]] w fun e w' => e = .returned (.bool v) ∧ Below w.heap.size w w' := by
  have HVV := Lib.hid ((agree_16 name on list num flag ty cols rules exprs).symm.trans hv)
  have HB := Lib.hid (boxV_new w [.int .i64 16, .string name, .string on, .slice a0 list.length c0, .int .i64 num, .bool flag, .int .i64 ty.kind, .int .i64 ty.len, .string ty.name, .slice a1 cols.length c1, .slice a2 rules.length c2, .slice a3 exprs.length c3] 55)
  clear hv
  go_enter Tryz.func49, Tryz.ntmps49
  go_wp2_with fail
  refine (specInIs 16 0 16 _ true (by decide)).mono ?_
  rintro e w1 ⟨rfl, rfl⟩
  generalize w.alloc (.cells #[.int .i64 16, .string name, .string on, .slice a0 list.length c0, .int .i64 num, .bool flag, .int .i64 ty.kind, .int .i64 ty.len, .string ty.name, .slice a1 cols.length c1, .slice a2 rules.length c2, .slice a3 exprs.length c3] 55) = W0 at HB ⊢
  have g0 : W0.cell? ⟨w.heap.size, 0, none⟩ = some (.int .i64 16) := (HB.out.1.2 0 (by simp)).1
  have g1 : W0.cell? ⟨w.heap.size, 1, none⟩ = some (.string name) := (HB.out.1.2 1 (by simp)).1
  have g2 : W0.cell? ⟨w.heap.size, 2, none⟩ = some (.string on) := (HB.out.1.2 2 (by simp)).1
  have g3 : W0.cell? ⟨w.heap.size, 3, none⟩ = some (.slice a0 list.length c0) := (HB.out.1.2 3 (by simp)).1
  have g4 : W0.cell? ⟨w.heap.size, 4, none⟩ = some (.int .i64 num) := (HB.out.1.2 4 (by simp)).1
  have g5 : W0.cell? ⟨w.heap.size, 5, none⟩ = some (.bool flag) := (HB.out.1.2 5 (by simp)).1
  have g6 : W0.cell? ⟨w.heap.size, 6, none⟩ = some (.int .i64 ty.kind) := (HB.out.1.2 6 (by simp)).1
  have g7 : W0.cell? ⟨w.heap.size, 7, none⟩ = some (.int .i64 ty.len) := (HB.out.1.2 7 (by simp)).1
  have g8 : W0.cell? ⟨w.heap.size, 8, none⟩ = some (.string ty.name) := (HB.out.1.2 8 (by simp)).1
  have g9 : W0.cell? ⟨w.heap.size, 9, none⟩ = some (.slice a1 cols.length c1) := (HB.out.1.2 9 (by simp)).1
  have g10 : W0.cell? ⟨w.heap.size, 10, none⟩ = some (.slice a2 rules.length c2) := (HB.out.1.2 10 (by simp)).1
  have g11 : W0.cell? ⟨w.heap.size, 11, none⟩ = some (.slice a3 exprs.length c3) := (HB.out.1.2 11 (by simp)).1
  go_wp2_with fail
  refine (specNameOk name _ Zn.out _ rfl).mono ?_
  rintro e w2 ⟨rfl, rfl⟩
  cases h1 : nameB name.data.toList with
  | false =>
    have HV : Hid (v = false) := by unfold Hid; rw [← HVV.out]; simp only [nmB, h1, Bool.false_and]
    go_wp2_with fail
    go_ret
    exact ⟨by rw [HV.out] <;> rfl, HB.out.2⟩
  | true =>
    go_wp2_with fail
    refine (specParts_o 16 name on list num flag ty cols rules exprs a0 a1 a2 a3 c0 c1 c2 c3 _ (by decide) (by decide) (by decide) (HK.out _ HB.out.2).2.1 (HK.out _ HB.out.2).2.2.1 Zc.out Zr.out _ rfl).mono ?_
    rintro e w3 ⟨rfl, b3⟩
    have B3 := Lib.hid (HB.out.call b3)
    clear b3 g0 g1 g2 g3 g4 g5 g6 g7 g8 g9 g10 g11
    have g0 : w3.cell? ⟨w.heap.size, 0, none⟩ = some (.int .i64 16) := (B3.out.1.2 0 (by simp)).1
    have g1 : w3.cell? ⟨w.heap.size, 1, none⟩ = some (.string name) := (B3.out.1.2 1 (by simp)).1
    have g2 : w3.cell? ⟨w.heap.size, 2, none⟩ = some (.string on) := (B3.out.1.2 2 (by simp)).1
    have g3 : w3.cell? ⟨w.heap.size, 3, none⟩ = some (.slice a0 list.length c0) := (B3.out.1.2 3 (by simp)).1
    have g4 : w3.cell? ⟨w.heap.size, 4, none⟩ = some (.int .i64 num) := (B3.out.1.2 4 (by simp)).1
    have g5 : w3.cell? ⟨w.heap.size, 5, none⟩ = some (.bool flag) := (B3.out.1.2 5 (by simp)).1
    have g6 : w3.cell? ⟨w.heap.size, 6, none⟩ = some (.int .i64 ty.kind) := (B3.out.1.2 6 (by simp)).1
    have g7 : w3.cell? ⟨w.heap.size, 7, none⟩ = some (.int .i64 ty.len) := (B3.out.1.2 7 (by simp)).1
    have g8 : w3.cell? ⟨w.heap.size, 8, none⟩ = some (.string ty.name) := (B3.out.1.2 8 (by simp)).1
    have g9 : w3.cell? ⟨w.heap.size, 9, none⟩ = some (.slice a1 cols.length c1) := (B3.out.1.2 9 (by simp)).1
    have g10 : w3.cell? ⟨w.heap.size, 10, none⟩ = some (.slice a2 rules.length c2) := (B3.out.1.2 10 (by simp)).1
    have g11 : w3.cell? ⟨w.heap.size, 11, none⟩ = some (.slice a3 exprs.length c3) := (B3.out.1.2 11 (by simp)).1
    cases h2 : partsB 0 0 0 cols rules with
    | false =>
      have HV : Hid (v = false) := by unfold Hid; rw [← HVV.out]; simp only [h2, Bool.false_and, Bool.and_false]
      go_wp2_with fail
      go_ret
      exact ⟨by rw [HV.out] <;> rfl, B3.out.2⟩
    | true =>
      have HV : Hid ((on.toList.isEmpty && ((((list.length : Nat) : Int) == 0) && ((!flag) && (tyEq ⟨ty.kind, ty.len, ty.name⟩ ⟨0, 0, ⟨#[]⟩⟩ && ((num == 0) && exprsB exprs 0 0))))) = v) := by unfold Hid; rw [← HVV.out]; simp only [nmB, h1, h2, Bool.true_and]
      go_wp2_with fail
      refine (specRest_o 16 name on list num flag ty cols rules exprs a0 a1 a2 a3 c0 c1 c2 c3 _ (by decide) (by decide) (by decide) (by decide) (by decide) (by decide) (by decide) (by decide) (by decide) (HK.out _ B3.out.2).1 (HK.out _ B3.out.2).2.2.2 Zo.out Zt.out Zl.out Ze.out v HV.out).mono ?_
      rintro e w4 ⟨rfl, b4⟩
      have B4 := Lib.hid (B3.out.call b4)
      clear b4
      go_wp2_with fail
      go_ret
      exact ⟨rfl, B4.out.2⟩

set_option maxRecDepth 100000 in
set_option maxHeartbeats 4000000 in
theorem specStmtOk (vs : List Value) (x : St) (w : World) (hR : RSt 0 w vs x) (hwt : x.wt ≤ 1048576) (v : Bool) (hv : stB x = v) :
    Calls Tryz.prog 49 #[.agg vs.toArray] w fun e w' => e = .returned (.bool v) ∧ Below w.heap.size w w' := by
  obtain ⟨kind, name, on, list, num, flag, ty, cols, rules, exprs⟩ := x
  obtain ⟨a0, c0, a1, c1, a2, c2, a3, c3, rfl, hfit, k0, k1, k2, k3⟩ := hR
  simp only at k0 k1 k2 k3
  have HK := Lib.hid (fun w' (hb : Below w.heap.size w w') => (show Ss 0 w' a0 c0 list ∧ Sl 6 RCo 0 w' a1 c1 cols ∧ Sl 6 RRu 0 w' a2 c2 rules ∧ Ks 0 w' a3 c3 exprs from ⟨k0.kept (Kept.below hb), k1.kept goodCo (Kept.below hb), k2.kept goodRu (Kept.below hb), k3.kept (Kept.below hb)⟩))
  have hW : (St.mk kind name on list num flag ty cols rules exprs).wt = name.size + on.size + (list.length + lets list) + ty.name.size + (cols.length + wtS Co.wt cols) + (rules.length + wtS Ru.wt rules) + (exprs.length + wtL exprs) := rfl
  have Zn := Lib.hid (show name.size ≤ 1048576 by omega)
  have Zo := Lib.hid (show on.size ≤ 1048576 by omega)
  have Zt := Lib.hid (show ty.name.size ≤ 1048576 by omega)
  have Zl := Lib.hid (show lets list ≤ 1048576 by omega)
  have Ze := Lib.hid (show wtL exprs ≤ 1048576 by omega)
  have Zc := Lib.hid (fun (x : Co) (hm : x ∈ cols) => (show x.wt ≤ 1048576 by have := wtS_mem Co.wt hm; omega))
  have Zr := Lib.hid (fun (x : Ru) (hm : x ∈ rules) => (show x.wt ≤ 1048576 by have := wtS_mem Ru.wt hm; omega))
  have Zx := Lib.hid (fun (x : Ex) (hm : x ∈ exprs) => (show x.wt ≤ 1048576 by have := wtL_mem hm; omega))
  simp only
  clear k0 k1 k2 k3 hW
  by_cases hin : 0 ≤ kind ∧ kind ≤ 16
  · have hc : kind = 0 ∨ kind = 1 ∨ kind = 2 ∨ kind = 3 ∨ kind = 4 ∨ kind = 5 ∨ kind = 6 ∨ kind = 7 ∨ kind = 8 ∨ kind = 9 ∨ kind = 10 ∨ kind = 11 ∨ kind = 12 ∨ kind = 13 ∨ kind = 14 ∨ kind = 15 ∨ kind = 16 := by omega
    clear hin
    rcases hc with rfl | rfl | rfl | rfl | rfl | rfl | rfl | rfl | rfl | rfl | rfl | rfl | rfl | rfl | rfl | rfl | rfl
    · exact specStmtOk_0 name on list num flag ty cols rules exprs a0 a1 a2 a3 c0 c1 c2 c3 w HK Zn Zo Zt Zl Ze Zc Zr v hv
    · exact specStmtOk_1 name on list num flag ty cols rules exprs a0 a1 a2 a3 c0 c1 c2 c3 w HK Zn Zo Zt Zl Ze Zc Zr v hv
    · exact specStmtOk_2 name on list num flag ty cols rules exprs a0 a1 a2 a3 c0 c1 c2 c3 w HK Zn Zo Zt Zl Ze Zc Zr v hv
    · exact specStmtOk_3 name on list num flag ty cols rules exprs a0 a1 a2 a3 c0 c1 c2 c3 w HK Zn Zo Zt Zl Ze Zc Zr v hv
    · exact specStmtOk_4 name on list num flag ty cols rules exprs a0 a1 a2 a3 c0 c1 c2 c3 w HK Zn Zo Zt Zl Ze Zc Zr v hv
    · exact specStmtOk_5 name on list num flag ty cols rules exprs a0 a1 a2 a3 c0 c1 c2 c3 w HK Zn Zo Zt Zl Ze Zc Zr v hv
    · exact specStmtOk_6 name on list num flag ty cols rules exprs a0 a1 a2 a3 c0 c1 c2 c3 w HK Zn Zo Zt Zl Ze Zc Zr v hv
    · exact specStmtOk_7 name on list num flag ty cols rules exprs a0 a1 a2 a3 c0 c1 c2 c3 w HK Zn Zo Zt Zl Ze Zc Zr v hv
    · exact specStmtOk_8 name on list num flag ty cols rules exprs a0 a1 a2 a3 c0 c1 c2 c3 w HK Zn Zo Zt Zl Ze Zc Zr v hv
    · exact specStmtOk_9 name on list num flag ty cols rules exprs a0 a1 a2 a3 c0 c1 c2 c3 w HK Zn Zo Zt Zl Ze Zc Zr v hv
    · exact specStmtOk_10 name on list num flag ty cols rules exprs a0 a1 a2 a3 c0 c1 c2 c3 w HK Zn Zo Zt Zl Ze Zc Zr v hv
    · exact specStmtOk_11 name on list num flag ty cols rules exprs a0 a1 a2 a3 c0 c1 c2 c3 w HK Zn Zo Zt Zl Ze Zc Zr v hv
    · exact specStmtOk_12 name on list num flag ty cols rules exprs a0 a1 a2 a3 c0 c1 c2 c3 w HK Zn Zo Zt Zl Ze Zc Zr v hv
    · exact specStmtOk_13 name on list num flag ty cols rules exprs a0 a1 a2 a3 c0 c1 c2 c3 w HK Zn Zo Zt Zl Ze Zc Zr v hv
    · exact specStmtOk_14 name on list num flag ty cols rules exprs a0 a1 a2 a3 c0 c1 c2 c3 w HK Zn Zo Zt Zl Ze Zc Zr v hv
    · exact specStmtOk_15 name on list num flag ty cols rules exprs a0 a1 a2 a3 c0 c1 c2 c3 w HK Zn Zo Zt Zl Ze Zc Zr v hv
    · exact specStmtOk_16 name on list num flag ty cols rules exprs a0 a1 a2 a3 c0 c1 c2 c3 w HK Zn Zo Zt Zl Ze Zc Zr v hv
  · have HV : Hid (v = false) := by unfold Hid; rw [← hv, stB_out _ hin]
    have hi : inI kind 0 16 = false := by
      unfold inI
      by_cases h0 : 0 ≤ kind
      · rw [decide_eq_false (show ¬ kind ≤ 16 by omega)]; simp
      · rw [decide_eq_false h0]; rfl
    clear hv hin
    go_enter Tryz.func49, Tryz.ntmps49
    go_wp2_with fail
    refine (specInIs kind 0 16 _ false hi).mono ?_
    rintro e w1 ⟨rfl, rfl⟩
    go_wp2_with fail
    go_ret
    exact ⟨by rw [HV.out] <;> rfl, (Below.refl _ _).alloc (Nat.le_refl _) _⟩

end Go.Proofs.YtpdcmmhhgnackaaGreatDoor
