/- The model's l08Alter. Written by tools/gen_ps.py. -/
import Derived.Test.YtpdcmmhhgnackaaGreatDoorMTypeTextJ
import Derived.Test.YtpdcmmhhgnackaaGreatDoorMRulePS
namespace Go.Proofs.YtpdcmmhhgnackaaGreatDoor
open Go.RowKit

set_option maxRecDepth 100000 in
set_option maxHeartbeats 4000000 in
theorem specAlter_6 (name on : ByteArray) (list : List ByteArray) (num : Int) (flag : Bool) (ty : Ty) (cols : List Co) (rules : List Ru) (exprs : List Ex) (a0 a1 a2 a3 : Option Addr) (c0 c1 c2 c3 : Nat) (w : World) (e1 : Co) (hcols : cols = [e1]) (hok : colB e1 = true) (HK : Hid (∀ w', Below w.heap.size w w' → Ss 0 w' a0 c0 list ∧ Sl 6 RCo 0 w' a1 c1 cols ∧ Sl 6 RRu 0 w' a2 c2 rules ∧ Ks 0 w' a3 c3 exprs)) (Zn : Hid (name.size ≤ 1048576)) (Zo : Hid (on.size ≤ 1048576)) (Zt : Hid (ty.name.size ≤ 1048576)) (Zc : Hid (∀ x ∈ cols, x.wt ≤ 1048576)) (Zr : Hid (∀ x ∈ rules, x.wt ≤ 1048576)) (Zx : Hid (∀ x ∈ exprs, x.wt ≤ 1048576)) (qn : nmB name = true) (r : ByteArray) (hr : joinT (parts_6 name on list num flag ty cols rules exprs) (txt [32]) = r) :
    Calls Tryz.prog 51 #[.agg #[.int .i64 6, .string name, .string on, .slice a0 list.length c0, .int .i64 num, .bool flag, .int .i64 ty.kind, .int .i64 ty.len, .string ty.name, .slice a1 cols.length c1, .slice a2 rules.length c2, .slice a3 exprs.length c3]] w fun e w' => e = .returned (.string r) ∧ Below w.heap.size w w' := by
  subst hcols
  have HB := Lib.hid (boxV_new w [.int .i64 6, .string name, .string on, .slice a0 list.length c0, .int .i64 num, .bool flag, .int .i64 ty.kind, .int .i64 ty.len, .string ty.name, .slice a1 [e1].length c1, .slice a2 rules.length c2, .slice a3 exprs.length c3] 55)
  obtain ⟨N, hN⟩ : ∃ N, nameT name = N := ⟨_, rfl⟩
  have zN : N.size ≤ 82 := by rw [← hN]; exact nameT_small qn
  obtain ⟨M, hM⟩ : ∃ M, nameT on = M := ⟨_, rfl⟩
  have zM : M.size ≤ 3000000 := by rw [← hM]; have := nameT_size on; have := Zo.out; omega
  have HN := Lib.hid hN
  have HM := Lib.hid hM
  have y1 : (ByteArray.mk #[97, 108, 116, 101, 114, 32, 116, 97, 98, 108, 101, 32]).size = 12 := rfl
  have y2 : (ByteArray.mk #[32, 97, 108, 116, 101, 114, 32, 99, 111, 108, 117, 109, 110, 32]).size = 14 := rfl
  obtain ⟨p1, hp1⟩ : ∃ p, p = (ByteArray.mk #[97, 108, 116, 101, 114, 32, 116, 97, 98, 108, 101, 32]) ++ N := ⟨_, rfl⟩
  have zp1 : p1.size ≤ 94 := by rw [hp1, ByteArray.size_append]; omega
  have adp1 := run_add Tryz.prog (ByteArray.mk #[97, 108, 116, 101, 114, 32, 116, 97, 98, 108, 101, 32]) N p1 hp1 (by omega)
  obtain ⟨q1, hq1⟩ : ∃ p, p = p1 ++ (ByteArray.mk #[32, 97, 108, 116, 101, 114, 32, 99, 111, 108, 117, 109, 110, 32]) := ⟨_, rfl⟩
  have zq1 : q1.size ≤ 108 := by rw [hq1, ByteArray.size_append]; omega
  have adq1 := run_add Tryz.prog p1 (ByteArray.mk #[32, 97, 108, 116, 101, 114, 32, 99, 111, 108, 117, 109, 110, 32]) q1 hq1 (by omega)
  obtain ⟨q2, hq2⟩ : ∃ p, p = q1 ++ M := ⟨_, rfl⟩
  have zq2 : q2.size ≤ 3000108 := by rw [hq2, ByteArray.size_append]; omega
  have adq2 := run_add Tryz.prog q1 M q2 hq2 (by omega)
  obtain ⟨E, hE⟩ : ∃ E, colT e1 = E := ⟨_, rfl⟩
  have zE : E.size ≤ 9000 := by rw [← hE]; exact colT_small hok
  have HE := Lib.hid hE
  have y3 : (ByteArray.mk #[32, 97, 100, 100, 32, 99, 111, 108, 117, 109, 110, 32]).size = 12 := rfl
  obtain ⟨s1, hs1⟩ : ∃ p, p = p1 ++ (ByteArray.mk #[32, 97, 100, 100, 32, 99, 111, 108, 117, 109, 110, 32]) := ⟨_, rfl⟩
  have zs1 : s1.size ≤ 106 := by rw [hs1, ByteArray.size_append]; omega
  have ads1 := run_add Tryz.prog p1 (ByteArray.mk #[32, 97, 100, 100, 32, 99, 111, 108, 117, 109, 110, 32]) s1 hs1 (by omega)
  obtain ⟨s2, hs2⟩ : ∃ p, p = s1 ++ E := ⟨_, rfl⟩
  have zs2 : s2.size ≤ 9106 := by rw [hs2, ByteArray.size_append]; omega
  have ads2 := run_add Tryz.prog s1 E s2 hs2 (by omega)
  have HV : Hid (r = s2) := by
    unfold Hid
    rw [← hr, hs2, hs1, hp1]
    unfold parts_6
    simp only [firstT, dflT, if_true, if_false, Bool.false_eq_true, List.cons_append, List.nil_append]
    rw [hN, hE]
    rw [joinT_cons, joinT_cons, joinT_cons, joinT_one]
    apply ba_ext
    simp only [ba_list, List.append_assoc]
    rfl
  clear hr hN hM hE hp1 hq1 hq2 hs1 hs2
  go_enter Tryz.func51, Tryz.ntmps51
  go_wp2_with fail
  generalize w.alloc (.cells #[.int .i64 6, .string name, .string on, .slice a0 list.length c0, .int .i64 num, .bool flag, .int .i64 ty.kind, .int .i64 ty.len, .string ty.name, .slice a1 [e1].length c1, .slice a2 rules.length c2, .slice a3 exprs.length c3] 55) = W0 at HB ⊢
  have g0 : W0.cell? ⟨w.heap.size, 0, none⟩ = some (.int .i64 6) := (HB.out.1.2 0 (by simp)).1
  have g1 : W0.cell? ⟨w.heap.size, 1, none⟩ = some (.string name) := (HB.out.1.2 1 (by simp)).1
  have g2 : W0.cell? ⟨w.heap.size, 2, none⟩ = some (.string on) := (HB.out.1.2 2 (by simp)).1
  have g3 : W0.cell? ⟨w.heap.size, 3, none⟩ = some (.slice a0 list.length c0) := (HB.out.1.2 3 (by simp)).1
  have g4 : W0.cell? ⟨w.heap.size, 4, none⟩ = some (.int .i64 num) := (HB.out.1.2 4 (by simp)).1
  have g5 : W0.cell? ⟨w.heap.size, 5, none⟩ = some (.bool flag) := (HB.out.1.2 5 (by simp)).1
  have g6 : W0.cell? ⟨w.heap.size, 6, none⟩ = some (.int .i64 ty.kind) := (HB.out.1.2 6 (by simp)).1
  have g7 : W0.cell? ⟨w.heap.size, 7, none⟩ = some (.int .i64 ty.len) := (HB.out.1.2 7 (by simp)).1
  have g8 : W0.cell? ⟨w.heap.size, 8, none⟩ = some (.string ty.name) := (HB.out.1.2 8 (by simp)).1
  have g9 : W0.cell? ⟨w.heap.size, 9, none⟩ = some (.slice a1 [e1].length c1) := (HB.out.1.2 9 (by simp)).1
  have g10 : W0.cell? ⟨w.heap.size, 10, none⟩ = some (.slice a2 rules.length c2) := (HB.out.1.2 10 (by simp)).1
  have g11 : W0.cell? ⟨w.heap.size, 11, none⟩ = some (.slice a3 exprs.length c3) := (HB.out.1.2 11 (by simp)).1
  refine (specPutName name _ Zn.out N HN.out).mono ?_
  rintro e w1 ⟨rfl, b1⟩
  have B1 := Lib.hid (HB.out.call b1)
  clear b1 g0 g1 g2 g3 g4 g5 g6 g7 g8 g9 g10 g11
  have g0 : w1.cell? ⟨w.heap.size, 0, none⟩ = some (.int .i64 6) := (B1.out.1.2 0 (by simp)).1
  have g1 : w1.cell? ⟨w.heap.size, 1, none⟩ = some (.string name) := (B1.out.1.2 1 (by simp)).1
  have g2 : w1.cell? ⟨w.heap.size, 2, none⟩ = some (.string on) := (B1.out.1.2 2 (by simp)).1
  have g3 : w1.cell? ⟨w.heap.size, 3, none⟩ = some (.slice a0 list.length c0) := (B1.out.1.2 3 (by simp)).1
  have g4 : w1.cell? ⟨w.heap.size, 4, none⟩ = some (.int .i64 num) := (B1.out.1.2 4 (by simp)).1
  have g5 : w1.cell? ⟨w.heap.size, 5, none⟩ = some (.bool flag) := (B1.out.1.2 5 (by simp)).1
  have g6 : w1.cell? ⟨w.heap.size, 6, none⟩ = some (.int .i64 ty.kind) := (B1.out.1.2 6 (by simp)).1
  have g7 : w1.cell? ⟨w.heap.size, 7, none⟩ = some (.int .i64 ty.len) := (B1.out.1.2 7 (by simp)).1
  have g8 : w1.cell? ⟨w.heap.size, 8, none⟩ = some (.string ty.name) := (B1.out.1.2 8 (by simp)).1
  have g9 : w1.cell? ⟨w.heap.size, 9, none⟩ = some (.slice a1 [e1].length c1) := (B1.out.1.2 9 (by simp)).1
  have g10 : w1.cell? ⟨w.heap.size, 10, none⟩ = some (.slice a2 rules.length c2) := (B1.out.1.2 10 (by simp)).1
  have g11 : w1.cell? ⟨w.heap.size, 11, none⟩ = some (.slice a3 exprs.length c3) := (B1.out.1.2 11 (by simp)).1
  go_wp2_with fail
  refine (specPutName on _ Zo.out M HM.out).mono ?_
  rintro e w2 ⟨rfl, b2⟩
  have B2 := Lib.hid (B1.out.call b2)
  clear b2 g0 g1 g2 g3 g4 g5 g6 g7 g8 g9 g10 g11
  have g0 : w2.cell? ⟨w.heap.size, 0, none⟩ = some (.int .i64 6) := (B2.out.1.2 0 (by simp)).1
  have g1 : w2.cell? ⟨w.heap.size, 1, none⟩ = some (.string name) := (B2.out.1.2 1 (by simp)).1
  have g2 : w2.cell? ⟨w.heap.size, 2, none⟩ = some (.string on) := (B2.out.1.2 2 (by simp)).1
  have g3 : w2.cell? ⟨w.heap.size, 3, none⟩ = some (.slice a0 list.length c0) := (B2.out.1.2 3 (by simp)).1
  have g4 : w2.cell? ⟨w.heap.size, 4, none⟩ = some (.int .i64 num) := (B2.out.1.2 4 (by simp)).1
  have g5 : w2.cell? ⟨w.heap.size, 5, none⟩ = some (.bool flag) := (B2.out.1.2 5 (by simp)).1
  have g6 : w2.cell? ⟨w.heap.size, 6, none⟩ = some (.int .i64 ty.kind) := (B2.out.1.2 6 (by simp)).1
  have g7 : w2.cell? ⟨w.heap.size, 7, none⟩ = some (.int .i64 ty.len) := (B2.out.1.2 7 (by simp)).1
  have g8 : w2.cell? ⟨w.heap.size, 8, none⟩ = some (.string ty.name) := (B2.out.1.2 8 (by simp)).1
  have g9 : w2.cell? ⟨w.heap.size, 9, none⟩ = some (.slice a1 [e1].length c1) := (B2.out.1.2 9 (by simp)).1
  have g10 : w2.cell? ⟨w.heap.size, 10, none⟩ = some (.slice a2 rules.length c2) := (B2.out.1.2 10 (by simp)).1
  have g11 : w2.cell? ⟨w.heap.size, 11, none⟩ = some (.slice a3 exprs.length c3) := (B2.out.1.2 11 (by simp)).1
  obtain ⟨eb, eoff, evs, rfl, hbl, hcs, hRe⟩ := ((HK.out _ B2.out.2).2.1).spot (i := 0) (by simp)
  simp only [List.getElem_cons_zero] at hRe
  have HRe := Lib.hid hRe
  obtain ⟨x0, y0, rfl, _⟩ := hRe
  have hc0 : w2.cell? ⟨eb, eoff, none⟩ = some (.string e1.name) := by have := hcs 0 (by simp); simpa using this
  have hc1 : w2.cell? ⟨eb, eoff + 1, none⟩ = some (.int .i64 e1.ty.kind) := by have := hcs 1 (by simp); simpa using this
  have hc2 : w2.cell? ⟨eb, eoff + 2, none⟩ = some (.int .i64 e1.ty.len) := by have := hcs 2 (by simp); simpa using this
  have hc3 : w2.cell? ⟨eb, eoff + 3, none⟩ = some (.string e1.ty.name) := by have := hcs 3 (by simp); simpa using this
  have hc4 : w2.cell? ⟨eb, eoff + 4, none⟩ = some (.bool e1.notNull) := by have := hcs 4 (by simp); simpa using this
  have hc5 : w2.cell? ⟨eb, eoff + 5, none⟩ = some (.slice x0 e1.dflt.length y0) := by have := hcs 5 (by simp); simpa using this
  clear hcs
  simp only [List.length_cons, List.length_nil] at g9
  go_wp2_with fail
  refine (specPutCol _ e1 _ HRe.out (Zc.out _ (by simp)) E HE.out).mono ?_
  rintro e w3 ⟨rfl, b3⟩
  have B3 := Lib.hid (B2.out.call b3)
  clear b3
  go_wp2_with fail
  go_ret
  exact ⟨by rw [HV.out] <;> rfl, B3.out.2⟩

set_option maxRecDepth 100000 in
set_option maxHeartbeats 4000000 in
theorem specAlter_7 (name on : ByteArray) (list : List ByteArray) (num : Int) (flag : Bool) (ty : Ty) (cols : List Co) (rules : List Ru) (exprs : List Ex) (a0 a1 a2 a3 : Option Addr) (c0 c1 c2 c3 : Nat) (w : World) (HK : Hid (∀ w', Below w.heap.size w w' → Ss 0 w' a0 c0 list ∧ Sl 6 RCo 0 w' a1 c1 cols ∧ Sl 6 RRu 0 w' a2 c2 rules ∧ Ks 0 w' a3 c3 exprs)) (Zn : Hid (name.size ≤ 1048576)) (Zo : Hid (on.size ≤ 1048576)) (Zt : Hid (ty.name.size ≤ 1048576)) (Zc : Hid (∀ x ∈ cols, x.wt ≤ 1048576)) (Zr : Hid (∀ x ∈ rules, x.wt ≤ 1048576)) (Zx : Hid (∀ x ∈ exprs, x.wt ≤ 1048576)) (qn : nmB name = true) (r : ByteArray) (hr : joinT (parts_7 name on list num flag ty cols rules exprs) (txt [32]) = r) :
    Calls Tryz.prog 51 #[.agg #[.int .i64 7, .string name, .string on, .slice a0 list.length c0, .int .i64 num, .bool flag, .int .i64 ty.kind, .int .i64 ty.len, .string ty.name, .slice a1 cols.length c1, .slice a2 rules.length c2, .slice a3 exprs.length c3]] w fun e w' => e = .returned (.string r) ∧ Below w.heap.size w w' := by
  have HB := Lib.hid (boxV_new w [.int .i64 7, .string name, .string on, .slice a0 list.length c0, .int .i64 num, .bool flag, .int .i64 ty.kind, .int .i64 ty.len, .string ty.name, .slice a1 cols.length c1, .slice a2 rules.length c2, .slice a3 exprs.length c3] 55)
  obtain ⟨N, hN⟩ : ∃ N, nameT name = N := ⟨_, rfl⟩
  have zN : N.size ≤ 82 := by rw [← hN]; exact nameT_small qn
  obtain ⟨M, hM⟩ : ∃ M, nameT on = M := ⟨_, rfl⟩
  have zM : M.size ≤ 3000000 := by rw [← hM]; have := nameT_size on; have := Zo.out; omega
  have HN := Lib.hid hN
  have HM := Lib.hid hM
  have y1 : (ByteArray.mk #[97, 108, 116, 101, 114, 32, 116, 97, 98, 108, 101, 32]).size = 12 := rfl
  have y2 : (ByteArray.mk #[32, 97, 108, 116, 101, 114, 32, 99, 111, 108, 117, 109, 110, 32]).size = 14 := rfl
  obtain ⟨p1, hp1⟩ : ∃ p, p = (ByteArray.mk #[97, 108, 116, 101, 114, 32, 116, 97, 98, 108, 101, 32]) ++ N := ⟨_, rfl⟩
  have zp1 : p1.size ≤ 94 := by rw [hp1, ByteArray.size_append]; omega
  have adp1 := run_add Tryz.prog (ByteArray.mk #[97, 108, 116, 101, 114, 32, 116, 97, 98, 108, 101, 32]) N p1 hp1 (by omega)
  obtain ⟨q1, hq1⟩ : ∃ p, p = p1 ++ (ByteArray.mk #[32, 97, 108, 116, 101, 114, 32, 99, 111, 108, 117, 109, 110, 32]) := ⟨_, rfl⟩
  have zq1 : q1.size ≤ 108 := by rw [hq1, ByteArray.size_append]; omega
  have adq1 := run_add Tryz.prog p1 (ByteArray.mk #[32, 97, 108, 116, 101, 114, 32, 99, 111, 108, 117, 109, 110, 32]) q1 hq1 (by omega)
  obtain ⟨q2, hq2⟩ : ∃ p, p = q1 ++ M := ⟨_, rfl⟩
  have zq2 : q2.size ≤ 3000108 := by rw [hq2, ByteArray.size_append]; omega
  have adq2 := run_add Tryz.prog q1 M q2 hq2 (by omega)
  have y3 : (ByteArray.mk #[32, 100, 114, 111, 112, 32, 99, 111, 108, 117, 109, 110, 32]).size = 13 := rfl
  obtain ⟨s1, hs1⟩ : ∃ p, p = p1 ++ (ByteArray.mk #[32, 100, 114, 111, 112, 32, 99, 111, 108, 117, 109, 110, 32]) := ⟨_, rfl⟩
  have zs1 : s1.size ≤ 107 := by rw [hs1, ByteArray.size_append]; omega
  have ads1 := run_add Tryz.prog p1 (ByteArray.mk #[32, 100, 114, 111, 112, 32, 99, 111, 108, 117, 109, 110, 32]) s1 hs1 (by omega)
  obtain ⟨s2, hs2⟩ : ∃ p, p = s1 ++ M := ⟨_, rfl⟩
  have zs2 : s2.size ≤ 3000107 := by rw [hs2, ByteArray.size_append]; omega
  have ads2 := run_add Tryz.prog s1 M s2 hs2 (by omega)
  have HV : Hid (r = s2) := by
    unfold Hid
    rw [← hr, hs2, hs1, hp1]
    unfold parts_7
    simp only [firstT, dflT, if_true, if_false, Bool.false_eq_true, List.cons_append, List.nil_append]
    rw [hN, hM]
    rw [joinT_cons, joinT_cons, joinT_cons, joinT_one]
    apply ba_ext
    simp only [ba_list, List.append_assoc]
    rfl
  clear hr hN hM hp1 hq1 hq2 hs1 hs2
  go_enter Tryz.func51, Tryz.ntmps51
  go_wp2_with fail
  generalize w.alloc (.cells #[.int .i64 7, .string name, .string on, .slice a0 list.length c0, .int .i64 num, .bool flag, .int .i64 ty.kind, .int .i64 ty.len, .string ty.name, .slice a1 cols.length c1, .slice a2 rules.length c2, .slice a3 exprs.length c3] 55) = W0 at HB ⊢
  have g0 : W0.cell? ⟨w.heap.size, 0, none⟩ = some (.int .i64 7) := (HB.out.1.2 0 (by simp)).1
  have g1 : W0.cell? ⟨w.heap.size, 1, none⟩ = some (.string name) := (HB.out.1.2 1 (by simp)).1
  have g2 : W0.cell? ⟨w.heap.size, 2, none⟩ = some (.string on) := (HB.out.1.2 2 (by simp)).1
  have g3 : W0.cell? ⟨w.heap.size, 3, none⟩ = some (.slice a0 list.length c0) := (HB.out.1.2 3 (by simp)).1
  have g4 : W0.cell? ⟨w.heap.size, 4, none⟩ = some (.int .i64 num) := (HB.out.1.2 4 (by simp)).1
  have g5 : W0.cell? ⟨w.heap.size, 5, none⟩ = some (.bool flag) := (HB.out.1.2 5 (by simp)).1
  have g6 : W0.cell? ⟨w.heap.size, 6, none⟩ = some (.int .i64 ty.kind) := (HB.out.1.2 6 (by simp)).1
  have g7 : W0.cell? ⟨w.heap.size, 7, none⟩ = some (.int .i64 ty.len) := (HB.out.1.2 7 (by simp)).1
  have g8 : W0.cell? ⟨w.heap.size, 8, none⟩ = some (.string ty.name) := (HB.out.1.2 8 (by simp)).1
  have g9 : W0.cell? ⟨w.heap.size, 9, none⟩ = some (.slice a1 cols.length c1) := (HB.out.1.2 9 (by simp)).1
  have g10 : W0.cell? ⟨w.heap.size, 10, none⟩ = some (.slice a2 rules.length c2) := (HB.out.1.2 10 (by simp)).1
  have g11 : W0.cell? ⟨w.heap.size, 11, none⟩ = some (.slice a3 exprs.length c3) := (HB.out.1.2 11 (by simp)).1
  refine (specPutName name _ Zn.out N HN.out).mono ?_
  rintro e w1 ⟨rfl, b1⟩
  have B1 := Lib.hid (HB.out.call b1)
  clear b1 g0 g1 g2 g3 g4 g5 g6 g7 g8 g9 g10 g11
  have g0 : w1.cell? ⟨w.heap.size, 0, none⟩ = some (.int .i64 7) := (B1.out.1.2 0 (by simp)).1
  have g1 : w1.cell? ⟨w.heap.size, 1, none⟩ = some (.string name) := (B1.out.1.2 1 (by simp)).1
  have g2 : w1.cell? ⟨w.heap.size, 2, none⟩ = some (.string on) := (B1.out.1.2 2 (by simp)).1
  have g3 : w1.cell? ⟨w.heap.size, 3, none⟩ = some (.slice a0 list.length c0) := (B1.out.1.2 3 (by simp)).1
  have g4 : w1.cell? ⟨w.heap.size, 4, none⟩ = some (.int .i64 num) := (B1.out.1.2 4 (by simp)).1
  have g5 : w1.cell? ⟨w.heap.size, 5, none⟩ = some (.bool flag) := (B1.out.1.2 5 (by simp)).1
  have g6 : w1.cell? ⟨w.heap.size, 6, none⟩ = some (.int .i64 ty.kind) := (B1.out.1.2 6 (by simp)).1
  have g7 : w1.cell? ⟨w.heap.size, 7, none⟩ = some (.int .i64 ty.len) := (B1.out.1.2 7 (by simp)).1
  have g8 : w1.cell? ⟨w.heap.size, 8, none⟩ = some (.string ty.name) := (B1.out.1.2 8 (by simp)).1
  have g9 : w1.cell? ⟨w.heap.size, 9, none⟩ = some (.slice a1 cols.length c1) := (B1.out.1.2 9 (by simp)).1
  have g10 : w1.cell? ⟨w.heap.size, 10, none⟩ = some (.slice a2 rules.length c2) := (B1.out.1.2 10 (by simp)).1
  have g11 : w1.cell? ⟨w.heap.size, 11, none⟩ = some (.slice a3 exprs.length c3) := (B1.out.1.2 11 (by simp)).1
  go_wp2_with fail
  refine (specPutName on _ Zo.out M HM.out).mono ?_
  rintro e w2 ⟨rfl, b2⟩
  have B2 := Lib.hid (B1.out.call b2)
  clear b2 g0 g1 g2 g3 g4 g5 g6 g7 g8 g9 g10 g11
  have g0 : w2.cell? ⟨w.heap.size, 0, none⟩ = some (.int .i64 7) := (B2.out.1.2 0 (by simp)).1
  have g1 : w2.cell? ⟨w.heap.size, 1, none⟩ = some (.string name) := (B2.out.1.2 1 (by simp)).1
  have g2 : w2.cell? ⟨w.heap.size, 2, none⟩ = some (.string on) := (B2.out.1.2 2 (by simp)).1
  have g3 : w2.cell? ⟨w.heap.size, 3, none⟩ = some (.slice a0 list.length c0) := (B2.out.1.2 3 (by simp)).1
  have g4 : w2.cell? ⟨w.heap.size, 4, none⟩ = some (.int .i64 num) := (B2.out.1.2 4 (by simp)).1
  have g5 : w2.cell? ⟨w.heap.size, 5, none⟩ = some (.bool flag) := (B2.out.1.2 5 (by simp)).1
  have g6 : w2.cell? ⟨w.heap.size, 6, none⟩ = some (.int .i64 ty.kind) := (B2.out.1.2 6 (by simp)).1
  have g7 : w2.cell? ⟨w.heap.size, 7, none⟩ = some (.int .i64 ty.len) := (B2.out.1.2 7 (by simp)).1
  have g8 : w2.cell? ⟨w.heap.size, 8, none⟩ = some (.string ty.name) := (B2.out.1.2 8 (by simp)).1
  have g9 : w2.cell? ⟨w.heap.size, 9, none⟩ = some (.slice a1 cols.length c1) := (B2.out.1.2 9 (by simp)).1
  have g10 : w2.cell? ⟨w.heap.size, 10, none⟩ = some (.slice a2 rules.length c2) := (B2.out.1.2 10 (by simp)).1
  have g11 : w2.cell? ⟨w.heap.size, 11, none⟩ = some (.slice a3 exprs.length c3) := (B2.out.1.2 11 (by simp)).1
  go_wp2_with fail
  refine (specPutName on _ Zo.out M HM.out).mono ?_
  rintro e w3 ⟨rfl, b3⟩
  have B3 := Lib.hid (B2.out.call b3)
  clear b3
  go_wp2_with fail
  go_ret
  exact ⟨by rw [HV.out] <;> rfl, B3.out.2⟩

set_option maxRecDepth 100000 in
set_option maxHeartbeats 4000000 in
theorem specAlter_8 (name on : ByteArray) (list : List ByteArray) (num : Int) (flag : Bool) (ty : Ty) (cols : List Co) (rules : List Ru) (exprs : List Ex) (a0 a1 a2 a3 : Option Addr) (c0 c1 c2 c3 : Nat) (w : World) (hok : tyB ty = true) (HK : Hid (∀ w', Below w.heap.size w w' → Ss 0 w' a0 c0 list ∧ Sl 6 RCo 0 w' a1 c1 cols ∧ Sl 6 RRu 0 w' a2 c2 rules ∧ Ks 0 w' a3 c3 exprs)) (Zn : Hid (name.size ≤ 1048576)) (Zo : Hid (on.size ≤ 1048576)) (Zt : Hid (ty.name.size ≤ 1048576)) (Zc : Hid (∀ x ∈ cols, x.wt ≤ 1048576)) (Zr : Hid (∀ x ∈ rules, x.wt ≤ 1048576)) (Zx : Hid (∀ x ∈ exprs, x.wt ≤ 1048576)) (qn : nmB name = true) (r : ByteArray) (hr : joinT (parts_8 name on list num flag ty cols rules exprs) (txt [32]) = r) :
    Calls Tryz.prog 51 #[.agg #[.int .i64 8, .string name, .string on, .slice a0 list.length c0, .int .i64 num, .bool flag, .int .i64 ty.kind, .int .i64 ty.len, .string ty.name, .slice a1 cols.length c1, .slice a2 rules.length c2, .slice a3 exprs.length c3]] w fun e w' => e = .returned (.string r) ∧ Below w.heap.size w w' := by
  have HB := Lib.hid (boxV_new w [.int .i64 8, .string name, .string on, .slice a0 list.length c0, .int .i64 num, .bool flag, .int .i64 ty.kind, .int .i64 ty.len, .string ty.name, .slice a1 cols.length c1, .slice a2 rules.length c2, .slice a3 exprs.length c3] 55)
  obtain ⟨N, hN⟩ : ∃ N, nameT name = N := ⟨_, rfl⟩
  have zN : N.size ≤ 82 := by rw [← hN]; exact nameT_small qn
  obtain ⟨M, hM⟩ : ∃ M, nameT on = M := ⟨_, rfl⟩
  have zM : M.size ≤ 3000000 := by rw [← hM]; have := nameT_size on; have := Zo.out; omega
  have HN := Lib.hid hN
  have HM := Lib.hid hM
  have y1 : (ByteArray.mk #[97, 108, 116, 101, 114, 32, 116, 97, 98, 108, 101, 32]).size = 12 := rfl
  have y2 : (ByteArray.mk #[32, 97, 108, 116, 101, 114, 32, 99, 111, 108, 117, 109, 110, 32]).size = 14 := rfl
  obtain ⟨p1, hp1⟩ : ∃ p, p = (ByteArray.mk #[97, 108, 116, 101, 114, 32, 116, 97, 98, 108, 101, 32]) ++ N := ⟨_, rfl⟩
  have zp1 : p1.size ≤ 94 := by rw [hp1, ByteArray.size_append]; omega
  have adp1 := run_add Tryz.prog (ByteArray.mk #[97, 108, 116, 101, 114, 32, 116, 97, 98, 108, 101, 32]) N p1 hp1 (by omega)
  obtain ⟨q1, hq1⟩ : ∃ p, p = p1 ++ (ByteArray.mk #[32, 97, 108, 116, 101, 114, 32, 99, 111, 108, 117, 109, 110, 32]) := ⟨_, rfl⟩
  have zq1 : q1.size ≤ 108 := by rw [hq1, ByteArray.size_append]; omega
  have adq1 := run_add Tryz.prog p1 (ByteArray.mk #[32, 97, 108, 116, 101, 114, 32, 99, 111, 108, 117, 109, 110, 32]) q1 hq1 (by omega)
  obtain ⟨q2, hq2⟩ : ∃ p, p = q1 ++ M := ⟨_, rfl⟩
  have zq2 : q2.size ≤ 3000108 := by rw [hq2, ByteArray.size_append]; omega
  have adq2 := run_add Tryz.prog q1 M q2 hq2 (by omega)
  obtain ⟨E, hE⟩ : ∃ E, tyT ty = E := ⟨_, rfl⟩
  have zE : E.size ≤ 100 := by rw [← hE]; exact tyT_small hok
  have HE := Lib.hid hE
  have y3 : (ByteArray.mk #[32, 116, 121, 112, 101, 32]).size = 6 := rfl
  obtain ⟨s1, hs1⟩ : ∃ p, p = q2 ++ (ByteArray.mk #[32, 116, 121, 112, 101, 32]) := ⟨_, rfl⟩
  have zs1 : s1.size ≤ 3000114 := by rw [hs1, ByteArray.size_append]; omega
  have ads1 := run_add Tryz.prog q2 (ByteArray.mk #[32, 116, 121, 112, 101, 32]) s1 hs1 (by omega)
  obtain ⟨s2, hs2⟩ : ∃ p, p = s1 ++ E := ⟨_, rfl⟩
  have zs2 : s2.size ≤ 3000214 := by rw [hs2, ByteArray.size_append]; omega
  have ads2 := run_add Tryz.prog s1 E s2 hs2 (by omega)
  have HV : Hid (r = s2) := by
    unfold Hid
    rw [← hr, hs2, hs1, hq2, hq1, hp1]
    unfold parts_8
    simp only [firstT, dflT, if_true, if_false, Bool.false_eq_true, List.cons_append, List.nil_append]
    rw [hN, hM, hE]
    rw [joinT_cons, joinT_cons, joinT_cons, joinT_cons, joinT_cons, joinT_one]
    apply ba_ext
    simp only [ba_list, List.append_assoc]
    rfl
  clear hr hN hM hE hp1 hq1 hq2 hs1 hs2
  go_enter Tryz.func51, Tryz.ntmps51
  go_wp2_with fail
  generalize w.alloc (.cells #[.int .i64 8, .string name, .string on, .slice a0 list.length c0, .int .i64 num, .bool flag, .int .i64 ty.kind, .int .i64 ty.len, .string ty.name, .slice a1 cols.length c1, .slice a2 rules.length c2, .slice a3 exprs.length c3] 55) = W0 at HB ⊢
  have g0 : W0.cell? ⟨w.heap.size, 0, none⟩ = some (.int .i64 8) := (HB.out.1.2 0 (by simp)).1
  have g1 : W0.cell? ⟨w.heap.size, 1, none⟩ = some (.string name) := (HB.out.1.2 1 (by simp)).1
  have g2 : W0.cell? ⟨w.heap.size, 2, none⟩ = some (.string on) := (HB.out.1.2 2 (by simp)).1
  have g3 : W0.cell? ⟨w.heap.size, 3, none⟩ = some (.slice a0 list.length c0) := (HB.out.1.2 3 (by simp)).1
  have g4 : W0.cell? ⟨w.heap.size, 4, none⟩ = some (.int .i64 num) := (HB.out.1.2 4 (by simp)).1
  have g5 : W0.cell? ⟨w.heap.size, 5, none⟩ = some (.bool flag) := (HB.out.1.2 5 (by simp)).1
  have g6 : W0.cell? ⟨w.heap.size, 6, none⟩ = some (.int .i64 ty.kind) := (HB.out.1.2 6 (by simp)).1
  have g7 : W0.cell? ⟨w.heap.size, 7, none⟩ = some (.int .i64 ty.len) := (HB.out.1.2 7 (by simp)).1
  have g8 : W0.cell? ⟨w.heap.size, 8, none⟩ = some (.string ty.name) := (HB.out.1.2 8 (by simp)).1
  have g9 : W0.cell? ⟨w.heap.size, 9, none⟩ = some (.slice a1 cols.length c1) := (HB.out.1.2 9 (by simp)).1
  have g10 : W0.cell? ⟨w.heap.size, 10, none⟩ = some (.slice a2 rules.length c2) := (HB.out.1.2 10 (by simp)).1
  have g11 : W0.cell? ⟨w.heap.size, 11, none⟩ = some (.slice a3 exprs.length c3) := (HB.out.1.2 11 (by simp)).1
  refine (specPutName name _ Zn.out N HN.out).mono ?_
  rintro e w1 ⟨rfl, b1⟩
  have B1 := Lib.hid (HB.out.call b1)
  clear b1 g0 g1 g2 g3 g4 g5 g6 g7 g8 g9 g10 g11
  have g0 : w1.cell? ⟨w.heap.size, 0, none⟩ = some (.int .i64 8) := (B1.out.1.2 0 (by simp)).1
  have g1 : w1.cell? ⟨w.heap.size, 1, none⟩ = some (.string name) := (B1.out.1.2 1 (by simp)).1
  have g2 : w1.cell? ⟨w.heap.size, 2, none⟩ = some (.string on) := (B1.out.1.2 2 (by simp)).1
  have g3 : w1.cell? ⟨w.heap.size, 3, none⟩ = some (.slice a0 list.length c0) := (B1.out.1.2 3 (by simp)).1
  have g4 : w1.cell? ⟨w.heap.size, 4, none⟩ = some (.int .i64 num) := (B1.out.1.2 4 (by simp)).1
  have g5 : w1.cell? ⟨w.heap.size, 5, none⟩ = some (.bool flag) := (B1.out.1.2 5 (by simp)).1
  have g6 : w1.cell? ⟨w.heap.size, 6, none⟩ = some (.int .i64 ty.kind) := (B1.out.1.2 6 (by simp)).1
  have g7 : w1.cell? ⟨w.heap.size, 7, none⟩ = some (.int .i64 ty.len) := (B1.out.1.2 7 (by simp)).1
  have g8 : w1.cell? ⟨w.heap.size, 8, none⟩ = some (.string ty.name) := (B1.out.1.2 8 (by simp)).1
  have g9 : w1.cell? ⟨w.heap.size, 9, none⟩ = some (.slice a1 cols.length c1) := (B1.out.1.2 9 (by simp)).1
  have g10 : w1.cell? ⟨w.heap.size, 10, none⟩ = some (.slice a2 rules.length c2) := (B1.out.1.2 10 (by simp)).1
  have g11 : w1.cell? ⟨w.heap.size, 11, none⟩ = some (.slice a3 exprs.length c3) := (B1.out.1.2 11 (by simp)).1
  go_wp2_with fail
  refine (specPutName on _ Zo.out M HM.out).mono ?_
  rintro e w2 ⟨rfl, b2⟩
  have B2 := Lib.hid (B1.out.call b2)
  clear b2 g0 g1 g2 g3 g4 g5 g6 g7 g8 g9 g10 g11
  have g0 : w2.cell? ⟨w.heap.size, 0, none⟩ = some (.int .i64 8) := (B2.out.1.2 0 (by simp)).1
  have g1 : w2.cell? ⟨w.heap.size, 1, none⟩ = some (.string name) := (B2.out.1.2 1 (by simp)).1
  have g2 : w2.cell? ⟨w.heap.size, 2, none⟩ = some (.string on) := (B2.out.1.2 2 (by simp)).1
  have g3 : w2.cell? ⟨w.heap.size, 3, none⟩ = some (.slice a0 list.length c0) := (B2.out.1.2 3 (by simp)).1
  have g4 : w2.cell? ⟨w.heap.size, 4, none⟩ = some (.int .i64 num) := (B2.out.1.2 4 (by simp)).1
  have g5 : w2.cell? ⟨w.heap.size, 5, none⟩ = some (.bool flag) := (B2.out.1.2 5 (by simp)).1
  have g6 : w2.cell? ⟨w.heap.size, 6, none⟩ = some (.int .i64 ty.kind) := (B2.out.1.2 6 (by simp)).1
  have g7 : w2.cell? ⟨w.heap.size, 7, none⟩ = some (.int .i64 ty.len) := (B2.out.1.2 7 (by simp)).1
  have g8 : w2.cell? ⟨w.heap.size, 8, none⟩ = some (.string ty.name) := (B2.out.1.2 8 (by simp)).1
  have g9 : w2.cell? ⟨w.heap.size, 9, none⟩ = some (.slice a1 cols.length c1) := (B2.out.1.2 9 (by simp)).1
  have g10 : w2.cell? ⟨w.heap.size, 10, none⟩ = some (.slice a2 rules.length c2) := (B2.out.1.2 10 (by simp)).1
  have g11 : w2.cell? ⟨w.heap.size, 11, none⟩ = some (.slice a3 exprs.length c3) := (B2.out.1.2 11 (by simp)).1
  go_wp2_with fail
  refine (specTypeText ty.kind ty.len ty.name _ Zt.out E HE.out).mono ?_
  rintro e w3 ⟨rfl, b3⟩
  have B3 := Lib.hid (B2.out.call b3)
  clear b3
  go_wp2_with fail
  go_ret
  exact ⟨by rw [HV.out] <;> rfl, B3.out.2⟩

set_option maxRecDepth 100000 in
set_option maxHeartbeats 4000000 in
theorem specAlter_9t (name on : ByteArray) (list : List ByteArray) (num : Int) (flag : Bool) (ty : Ty) (cols : List Co) (rules : List Ru) (exprs : List Ex) (a0 a1 a2 a3 : Option Addr) (c0 c1 c2 c3 : Nat) (w : World) (hfl : flag = true) (HK : Hid (∀ w', Below w.heap.size w w' → Ss 0 w' a0 c0 list ∧ Sl 6 RCo 0 w' a1 c1 cols ∧ Sl 6 RRu 0 w' a2 c2 rules ∧ Ks 0 w' a3 c3 exprs)) (Zn : Hid (name.size ≤ 1048576)) (Zo : Hid (on.size ≤ 1048576)) (Zt : Hid (ty.name.size ≤ 1048576)) (Zc : Hid (∀ x ∈ cols, x.wt ≤ 1048576)) (Zr : Hid (∀ x ∈ rules, x.wt ≤ 1048576)) (Zx : Hid (∀ x ∈ exprs, x.wt ≤ 1048576)) (qn : nmB name = true) (r : ByteArray) (hr : joinT (parts_9 name on list num flag ty cols rules exprs) (txt [32]) = r) :
    Calls Tryz.prog 51 #[.agg #[.int .i64 9, .string name, .string on, .slice a0 list.length c0, .int .i64 num, .bool flag, .int .i64 ty.kind, .int .i64 ty.len, .string ty.name, .slice a1 cols.length c1, .slice a2 rules.length c2, .slice a3 exprs.length c3]] w fun e w' => e = .returned (.string r) ∧ Below w.heap.size w w' := by
  subst hfl
  have HB := Lib.hid (boxV_new w [.int .i64 9, .string name, .string on, .slice a0 list.length c0, .int .i64 num, .bool true, .int .i64 ty.kind, .int .i64 ty.len, .string ty.name, .slice a1 cols.length c1, .slice a2 rules.length c2, .slice a3 exprs.length c3] 55)
  obtain ⟨N, hN⟩ : ∃ N, nameT name = N := ⟨_, rfl⟩
  have zN : N.size ≤ 82 := by rw [← hN]; exact nameT_small qn
  obtain ⟨M, hM⟩ : ∃ M, nameT on = M := ⟨_, rfl⟩
  have zM : M.size ≤ 3000000 := by rw [← hM]; have := nameT_size on; have := Zo.out; omega
  have HN := Lib.hid hN
  have HM := Lib.hid hM
  have y1 : (ByteArray.mk #[97, 108, 116, 101, 114, 32, 116, 97, 98, 108, 101, 32]).size = 12 := rfl
  have y2 : (ByteArray.mk #[32, 97, 108, 116, 101, 114, 32, 99, 111, 108, 117, 109, 110, 32]).size = 14 := rfl
  obtain ⟨p1, hp1⟩ : ∃ p, p = (ByteArray.mk #[97, 108, 116, 101, 114, 32, 116, 97, 98, 108, 101, 32]) ++ N := ⟨_, rfl⟩
  have zp1 : p1.size ≤ 94 := by rw [hp1, ByteArray.size_append]; omega
  have adp1 := run_add Tryz.prog (ByteArray.mk #[97, 108, 116, 101, 114, 32, 116, 97, 98, 108, 101, 32]) N p1 hp1 (by omega)
  obtain ⟨q1, hq1⟩ : ∃ p, p = p1 ++ (ByteArray.mk #[32, 97, 108, 116, 101, 114, 32, 99, 111, 108, 117, 109, 110, 32]) := ⟨_, rfl⟩
  have zq1 : q1.size ≤ 108 := by rw [hq1, ByteArray.size_append]; omega
  have adq1 := run_add Tryz.prog p1 (ByteArray.mk #[32, 97, 108, 116, 101, 114, 32, 99, 111, 108, 117, 109, 110, 32]) q1 hq1 (by omega)
  obtain ⟨q2, hq2⟩ : ∃ p, p = q1 ++ M := ⟨_, rfl⟩
  have zq2 : q2.size ≤ 3000108 := by rw [hq2, ByteArray.size_append]; omega
  have adq2 := run_add Tryz.prog q1 M q2 hq2 (by omega)
  have y3 : (ByteArray.mk #[32, 115, 101, 116, 32, 110, 111, 116, 32, 110, 117, 108, 108]).size = 13 := rfl
  obtain ⟨s1, hs1⟩ : ∃ p, p = q2 ++ (ByteArray.mk #[32, 115, 101, 116, 32, 110, 111, 116, 32, 110, 117, 108, 108]) := ⟨_, rfl⟩
  have zs1 : s1.size ≤ 3000121 := by rw [hs1, ByteArray.size_append]; omega
  have ads1 := run_add Tryz.prog q2 (ByteArray.mk #[32, 115, 101, 116, 32, 110, 111, 116, 32, 110, 117, 108, 108]) s1 hs1 (by omega)
  have HV : Hid (r = s1) := by
    unfold Hid
    rw [← hr, hs1, hq2, hq1, hp1]
    unfold parts_9
    simp only [firstT, dflT, if_true, if_false, Bool.false_eq_true, List.cons_append, List.nil_append]
    rw [hN, hM]
    rw [joinT_cons, joinT_cons, joinT_cons, joinT_cons, joinT_one]
    apply ba_ext
    simp only [ba_list, List.append_assoc]
    rfl
  clear hr hN hM hp1 hq1 hq2 hs1
  go_enter Tryz.func51, Tryz.ntmps51
  go_wp2_with fail
  generalize w.alloc (.cells #[.int .i64 9, .string name, .string on, .slice a0 list.length c0, .int .i64 num, .bool true, .int .i64 ty.kind, .int .i64 ty.len, .string ty.name, .slice a1 cols.length c1, .slice a2 rules.length c2, .slice a3 exprs.length c3] 55) = W0 at HB ⊢
  have g0 : W0.cell? ⟨w.heap.size, 0, none⟩ = some (.int .i64 9) := (HB.out.1.2 0 (by simp)).1
  have g1 : W0.cell? ⟨w.heap.size, 1, none⟩ = some (.string name) := (HB.out.1.2 1 (by simp)).1
  have g2 : W0.cell? ⟨w.heap.size, 2, none⟩ = some (.string on) := (HB.out.1.2 2 (by simp)).1
  have g3 : W0.cell? ⟨w.heap.size, 3, none⟩ = some (.slice a0 list.length c0) := (HB.out.1.2 3 (by simp)).1
  have g4 : W0.cell? ⟨w.heap.size, 4, none⟩ = some (.int .i64 num) := (HB.out.1.2 4 (by simp)).1
  have g5 : W0.cell? ⟨w.heap.size, 5, none⟩ = some (.bool true) := (HB.out.1.2 5 (by simp)).1
  have g6 : W0.cell? ⟨w.heap.size, 6, none⟩ = some (.int .i64 ty.kind) := (HB.out.1.2 6 (by simp)).1
  have g7 : W0.cell? ⟨w.heap.size, 7, none⟩ = some (.int .i64 ty.len) := (HB.out.1.2 7 (by simp)).1
  have g8 : W0.cell? ⟨w.heap.size, 8, none⟩ = some (.string ty.name) := (HB.out.1.2 8 (by simp)).1
  have g9 : W0.cell? ⟨w.heap.size, 9, none⟩ = some (.slice a1 cols.length c1) := (HB.out.1.2 9 (by simp)).1
  have g10 : W0.cell? ⟨w.heap.size, 10, none⟩ = some (.slice a2 rules.length c2) := (HB.out.1.2 10 (by simp)).1
  have g11 : W0.cell? ⟨w.heap.size, 11, none⟩ = some (.slice a3 exprs.length c3) := (HB.out.1.2 11 (by simp)).1
  refine (specPutName name _ Zn.out N HN.out).mono ?_
  rintro e w1 ⟨rfl, b1⟩
  have B1 := Lib.hid (HB.out.call b1)
  clear b1 g0 g1 g2 g3 g4 g5 g6 g7 g8 g9 g10 g11
  have g0 : w1.cell? ⟨w.heap.size, 0, none⟩ = some (.int .i64 9) := (B1.out.1.2 0 (by simp)).1
  have g1 : w1.cell? ⟨w.heap.size, 1, none⟩ = some (.string name) := (B1.out.1.2 1 (by simp)).1
  have g2 : w1.cell? ⟨w.heap.size, 2, none⟩ = some (.string on) := (B1.out.1.2 2 (by simp)).1
  have g3 : w1.cell? ⟨w.heap.size, 3, none⟩ = some (.slice a0 list.length c0) := (B1.out.1.2 3 (by simp)).1
  have g4 : w1.cell? ⟨w.heap.size, 4, none⟩ = some (.int .i64 num) := (B1.out.1.2 4 (by simp)).1
  have g5 : w1.cell? ⟨w.heap.size, 5, none⟩ = some (.bool true) := (B1.out.1.2 5 (by simp)).1
  have g6 : w1.cell? ⟨w.heap.size, 6, none⟩ = some (.int .i64 ty.kind) := (B1.out.1.2 6 (by simp)).1
  have g7 : w1.cell? ⟨w.heap.size, 7, none⟩ = some (.int .i64 ty.len) := (B1.out.1.2 7 (by simp)).1
  have g8 : w1.cell? ⟨w.heap.size, 8, none⟩ = some (.string ty.name) := (B1.out.1.2 8 (by simp)).1
  have g9 : w1.cell? ⟨w.heap.size, 9, none⟩ = some (.slice a1 cols.length c1) := (B1.out.1.2 9 (by simp)).1
  have g10 : w1.cell? ⟨w.heap.size, 10, none⟩ = some (.slice a2 rules.length c2) := (B1.out.1.2 10 (by simp)).1
  have g11 : w1.cell? ⟨w.heap.size, 11, none⟩ = some (.slice a3 exprs.length c3) := (B1.out.1.2 11 (by simp)).1
  go_wp2_with fail
  refine (specPutName on _ Zo.out M HM.out).mono ?_
  rintro e w2 ⟨rfl, b2⟩
  have B2 := Lib.hid (B1.out.call b2)
  clear b2 g0 g1 g2 g3 g4 g5 g6 g7 g8 g9 g10 g11
  have g0 : w2.cell? ⟨w.heap.size, 0, none⟩ = some (.int .i64 9) := (B2.out.1.2 0 (by simp)).1
  have g1 : w2.cell? ⟨w.heap.size, 1, none⟩ = some (.string name) := (B2.out.1.2 1 (by simp)).1
  have g2 : w2.cell? ⟨w.heap.size, 2, none⟩ = some (.string on) := (B2.out.1.2 2 (by simp)).1
  have g3 : w2.cell? ⟨w.heap.size, 3, none⟩ = some (.slice a0 list.length c0) := (B2.out.1.2 3 (by simp)).1
  have g4 : w2.cell? ⟨w.heap.size, 4, none⟩ = some (.int .i64 num) := (B2.out.1.2 4 (by simp)).1
  have g5 : w2.cell? ⟨w.heap.size, 5, none⟩ = some (.bool true) := (B2.out.1.2 5 (by simp)).1
  have g6 : w2.cell? ⟨w.heap.size, 6, none⟩ = some (.int .i64 ty.kind) := (B2.out.1.2 6 (by simp)).1
  have g7 : w2.cell? ⟨w.heap.size, 7, none⟩ = some (.int .i64 ty.len) := (B2.out.1.2 7 (by simp)).1
  have g8 : w2.cell? ⟨w.heap.size, 8, none⟩ = some (.string ty.name) := (B2.out.1.2 8 (by simp)).1
  have g9 : w2.cell? ⟨w.heap.size, 9, none⟩ = some (.slice a1 cols.length c1) := (B2.out.1.2 9 (by simp)).1
  have g10 : w2.cell? ⟨w.heap.size, 10, none⟩ = some (.slice a2 rules.length c2) := (B2.out.1.2 10 (by simp)).1
  have g11 : w2.cell? ⟨w.heap.size, 11, none⟩ = some (.slice a3 exprs.length c3) := (B2.out.1.2 11 (by simp)).1
  go_wp2_with fail
  go_ret
  exact ⟨by rw [HV.out] <;> rfl, B2.out.2⟩

set_option maxRecDepth 100000 in
set_option maxHeartbeats 4000000 in
theorem specAlter_9f (name on : ByteArray) (list : List ByteArray) (num : Int) (flag : Bool) (ty : Ty) (cols : List Co) (rules : List Ru) (exprs : List Ex) (a0 a1 a2 a3 : Option Addr) (c0 c1 c2 c3 : Nat) (w : World) (hfl : flag = false) (HK : Hid (∀ w', Below w.heap.size w w' → Ss 0 w' a0 c0 list ∧ Sl 6 RCo 0 w' a1 c1 cols ∧ Sl 6 RRu 0 w' a2 c2 rules ∧ Ks 0 w' a3 c3 exprs)) (Zn : Hid (name.size ≤ 1048576)) (Zo : Hid (on.size ≤ 1048576)) (Zt : Hid (ty.name.size ≤ 1048576)) (Zc : Hid (∀ x ∈ cols, x.wt ≤ 1048576)) (Zr : Hid (∀ x ∈ rules, x.wt ≤ 1048576)) (Zx : Hid (∀ x ∈ exprs, x.wt ≤ 1048576)) (qn : nmB name = true) (r : ByteArray) (hr : joinT (parts_9 name on list num flag ty cols rules exprs) (txt [32]) = r) :
    Calls Tryz.prog 51 #[.agg #[.int .i64 9, .string name, .string on, .slice a0 list.length c0, .int .i64 num, .bool flag, .int .i64 ty.kind, .int .i64 ty.len, .string ty.name, .slice a1 cols.length c1, .slice a2 rules.length c2, .slice a3 exprs.length c3]] w fun e w' => e = .returned (.string r) ∧ Below w.heap.size w w' := by
  subst hfl
  have HB := Lib.hid (boxV_new w [.int .i64 9, .string name, .string on, .slice a0 list.length c0, .int .i64 num, .bool false, .int .i64 ty.kind, .int .i64 ty.len, .string ty.name, .slice a1 cols.length c1, .slice a2 rules.length c2, .slice a3 exprs.length c3] 55)
  obtain ⟨N, hN⟩ : ∃ N, nameT name = N := ⟨_, rfl⟩
  have zN : N.size ≤ 82 := by rw [← hN]; exact nameT_small qn
  obtain ⟨M, hM⟩ : ∃ M, nameT on = M := ⟨_, rfl⟩
  have zM : M.size ≤ 3000000 := by rw [← hM]; have := nameT_size on; have := Zo.out; omega
  have HN := Lib.hid hN
  have HM := Lib.hid hM
  have y1 : (ByteArray.mk #[97, 108, 116, 101, 114, 32, 116, 97, 98, 108, 101, 32]).size = 12 := rfl
  have y2 : (ByteArray.mk #[32, 97, 108, 116, 101, 114, 32, 99, 111, 108, 117, 109, 110, 32]).size = 14 := rfl
  obtain ⟨p1, hp1⟩ : ∃ p, p = (ByteArray.mk #[97, 108, 116, 101, 114, 32, 116, 97, 98, 108, 101, 32]) ++ N := ⟨_, rfl⟩
  have zp1 : p1.size ≤ 94 := by rw [hp1, ByteArray.size_append]; omega
  have adp1 := run_add Tryz.prog (ByteArray.mk #[97, 108, 116, 101, 114, 32, 116, 97, 98, 108, 101, 32]) N p1 hp1 (by omega)
  obtain ⟨q1, hq1⟩ : ∃ p, p = p1 ++ (ByteArray.mk #[32, 97, 108, 116, 101, 114, 32, 99, 111, 108, 117, 109, 110, 32]) := ⟨_, rfl⟩
  have zq1 : q1.size ≤ 108 := by rw [hq1, ByteArray.size_append]; omega
  have adq1 := run_add Tryz.prog p1 (ByteArray.mk #[32, 97, 108, 116, 101, 114, 32, 99, 111, 108, 117, 109, 110, 32]) q1 hq1 (by omega)
  obtain ⟨q2, hq2⟩ : ∃ p, p = q1 ++ M := ⟨_, rfl⟩
  have zq2 : q2.size ≤ 3000108 := by rw [hq2, ByteArray.size_append]; omega
  have adq2 := run_add Tryz.prog q1 M q2 hq2 (by omega)
  have y3 : (ByteArray.mk #[32, 100, 114, 111, 112, 32, 110, 111, 116, 32, 110, 117, 108, 108]).size = 14 := rfl
  obtain ⟨s1, hs1⟩ : ∃ p, p = q2 ++ (ByteArray.mk #[32, 100, 114, 111, 112, 32, 110, 111, 116, 32, 110, 117, 108, 108]) := ⟨_, rfl⟩
  have zs1 : s1.size ≤ 3000122 := by rw [hs1, ByteArray.size_append]; omega
  have ads1 := run_add Tryz.prog q2 (ByteArray.mk #[32, 100, 114, 111, 112, 32, 110, 111, 116, 32, 110, 117, 108, 108]) s1 hs1 (by omega)
  have HV : Hid (r = s1) := by
    unfold Hid
    rw [← hr, hs1, hq2, hq1, hp1]
    unfold parts_9
    simp only [firstT, dflT, if_true, if_false, Bool.false_eq_true, List.cons_append, List.nil_append]
    rw [hN, hM]
    rw [joinT_cons, joinT_cons, joinT_cons, joinT_cons, joinT_one]
    apply ba_ext
    simp only [ba_list, List.append_assoc]
    rfl
  clear hr hN hM hp1 hq1 hq2 hs1
  go_enter Tryz.func51, Tryz.ntmps51
  go_wp2_with fail
  generalize w.alloc (.cells #[.int .i64 9, .string name, .string on, .slice a0 list.length c0, .int .i64 num, .bool false, .int .i64 ty.kind, .int .i64 ty.len, .string ty.name, .slice a1 cols.length c1, .slice a2 rules.length c2, .slice a3 exprs.length c3] 55) = W0 at HB ⊢
  have g0 : W0.cell? ⟨w.heap.size, 0, none⟩ = some (.int .i64 9) := (HB.out.1.2 0 (by simp)).1
  have g1 : W0.cell? ⟨w.heap.size, 1, none⟩ = some (.string name) := (HB.out.1.2 1 (by simp)).1
  have g2 : W0.cell? ⟨w.heap.size, 2, none⟩ = some (.string on) := (HB.out.1.2 2 (by simp)).1
  have g3 : W0.cell? ⟨w.heap.size, 3, none⟩ = some (.slice a0 list.length c0) := (HB.out.1.2 3 (by simp)).1
  have g4 : W0.cell? ⟨w.heap.size, 4, none⟩ = some (.int .i64 num) := (HB.out.1.2 4 (by simp)).1
  have g5 : W0.cell? ⟨w.heap.size, 5, none⟩ = some (.bool false) := (HB.out.1.2 5 (by simp)).1
  have g6 : W0.cell? ⟨w.heap.size, 6, none⟩ = some (.int .i64 ty.kind) := (HB.out.1.2 6 (by simp)).1
  have g7 : W0.cell? ⟨w.heap.size, 7, none⟩ = some (.int .i64 ty.len) := (HB.out.1.2 7 (by simp)).1
  have g8 : W0.cell? ⟨w.heap.size, 8, none⟩ = some (.string ty.name) := (HB.out.1.2 8 (by simp)).1
  have g9 : W0.cell? ⟨w.heap.size, 9, none⟩ = some (.slice a1 cols.length c1) := (HB.out.1.2 9 (by simp)).1
  have g10 : W0.cell? ⟨w.heap.size, 10, none⟩ = some (.slice a2 rules.length c2) := (HB.out.1.2 10 (by simp)).1
  have g11 : W0.cell? ⟨w.heap.size, 11, none⟩ = some (.slice a3 exprs.length c3) := (HB.out.1.2 11 (by simp)).1
  refine (specPutName name _ Zn.out N HN.out).mono ?_
  rintro e w1 ⟨rfl, b1⟩
  have B1 := Lib.hid (HB.out.call b1)
  clear b1 g0 g1 g2 g3 g4 g5 g6 g7 g8 g9 g10 g11
  have g0 : w1.cell? ⟨w.heap.size, 0, none⟩ = some (.int .i64 9) := (B1.out.1.2 0 (by simp)).1
  have g1 : w1.cell? ⟨w.heap.size, 1, none⟩ = some (.string name) := (B1.out.1.2 1 (by simp)).1
  have g2 : w1.cell? ⟨w.heap.size, 2, none⟩ = some (.string on) := (B1.out.1.2 2 (by simp)).1
  have g3 : w1.cell? ⟨w.heap.size, 3, none⟩ = some (.slice a0 list.length c0) := (B1.out.1.2 3 (by simp)).1
  have g4 : w1.cell? ⟨w.heap.size, 4, none⟩ = some (.int .i64 num) := (B1.out.1.2 4 (by simp)).1
  have g5 : w1.cell? ⟨w.heap.size, 5, none⟩ = some (.bool false) := (B1.out.1.2 5 (by simp)).1
  have g6 : w1.cell? ⟨w.heap.size, 6, none⟩ = some (.int .i64 ty.kind) := (B1.out.1.2 6 (by simp)).1
  have g7 : w1.cell? ⟨w.heap.size, 7, none⟩ = some (.int .i64 ty.len) := (B1.out.1.2 7 (by simp)).1
  have g8 : w1.cell? ⟨w.heap.size, 8, none⟩ = some (.string ty.name) := (B1.out.1.2 8 (by simp)).1
  have g9 : w1.cell? ⟨w.heap.size, 9, none⟩ = some (.slice a1 cols.length c1) := (B1.out.1.2 9 (by simp)).1
  have g10 : w1.cell? ⟨w.heap.size, 10, none⟩ = some (.slice a2 rules.length c2) := (B1.out.1.2 10 (by simp)).1
  have g11 : w1.cell? ⟨w.heap.size, 11, none⟩ = some (.slice a3 exprs.length c3) := (B1.out.1.2 11 (by simp)).1
  go_wp2_with fail
  refine (specPutName on _ Zo.out M HM.out).mono ?_
  rintro e w2 ⟨rfl, b2⟩
  have B2 := Lib.hid (B1.out.call b2)
  clear b2 g0 g1 g2 g3 g4 g5 g6 g7 g8 g9 g10 g11
  have g0 : w2.cell? ⟨w.heap.size, 0, none⟩ = some (.int .i64 9) := (B2.out.1.2 0 (by simp)).1
  have g1 : w2.cell? ⟨w.heap.size, 1, none⟩ = some (.string name) := (B2.out.1.2 1 (by simp)).1
  have g2 : w2.cell? ⟨w.heap.size, 2, none⟩ = some (.string on) := (B2.out.1.2 2 (by simp)).1
  have g3 : w2.cell? ⟨w.heap.size, 3, none⟩ = some (.slice a0 list.length c0) := (B2.out.1.2 3 (by simp)).1
  have g4 : w2.cell? ⟨w.heap.size, 4, none⟩ = some (.int .i64 num) := (B2.out.1.2 4 (by simp)).1
  have g5 : w2.cell? ⟨w.heap.size, 5, none⟩ = some (.bool false) := (B2.out.1.2 5 (by simp)).1
  have g6 : w2.cell? ⟨w.heap.size, 6, none⟩ = some (.int .i64 ty.kind) := (B2.out.1.2 6 (by simp)).1
  have g7 : w2.cell? ⟨w.heap.size, 7, none⟩ = some (.int .i64 ty.len) := (B2.out.1.2 7 (by simp)).1
  have g8 : w2.cell? ⟨w.heap.size, 8, none⟩ = some (.string ty.name) := (B2.out.1.2 8 (by simp)).1
  have g9 : w2.cell? ⟨w.heap.size, 9, none⟩ = some (.slice a1 cols.length c1) := (B2.out.1.2 9 (by simp)).1
  have g10 : w2.cell? ⟨w.heap.size, 10, none⟩ = some (.slice a2 rules.length c2) := (B2.out.1.2 10 (by simp)).1
  have g11 : w2.cell? ⟨w.heap.size, 11, none⟩ = some (.slice a3 exprs.length c3) := (B2.out.1.2 11 (by simp)).1
  go_wp2_with fail
  go_ret
  exact ⟨by rw [HV.out] <;> rfl, B2.out.2⟩

set_option maxRecDepth 100000 in
set_option maxHeartbeats 4000000 in
theorem specAlter_10n (name on : ByteArray) (list : List ByteArray) (num : Int) (flag : Bool) (ty : Ty) (cols : List Co) (rules : List Ru) (exprs : List Ex) (a0 a1 a2 a3 : Option Addr) (c0 c1 c2 c3 : Nat) (w : World) (hex : exprs = []) (HK : Hid (∀ w', Below w.heap.size w w' → Ss 0 w' a0 c0 list ∧ Sl 6 RCo 0 w' a1 c1 cols ∧ Sl 6 RRu 0 w' a2 c2 rules ∧ Ks 0 w' a3 c3 exprs)) (Zn : Hid (name.size ≤ 1048576)) (Zo : Hid (on.size ≤ 1048576)) (Zt : Hid (ty.name.size ≤ 1048576)) (Zc : Hid (∀ x ∈ cols, x.wt ≤ 1048576)) (Zr : Hid (∀ x ∈ rules, x.wt ≤ 1048576)) (Zx : Hid (∀ x ∈ exprs, x.wt ≤ 1048576)) (qn : nmB name = true) (r : ByteArray) (hr : joinT (parts_10 name on list num flag ty cols rules exprs) (txt [32]) = r) :
    Calls Tryz.prog 51 #[.agg #[.int .i64 10, .string name, .string on, .slice a0 list.length c0, .int .i64 num, .bool flag, .int .i64 ty.kind, .int .i64 ty.len, .string ty.name, .slice a1 cols.length c1, .slice a2 rules.length c2, .slice a3 exprs.length c3]] w fun e w' => e = .returned (.string r) ∧ Below w.heap.size w w' := by
  subst hex
  have HB := Lib.hid (boxV_new w [.int .i64 10, .string name, .string on, .slice a0 list.length c0, .int .i64 num, .bool flag, .int .i64 ty.kind, .int .i64 ty.len, .string ty.name, .slice a1 cols.length c1, .slice a2 rules.length c2, .slice a3 ([] : List Ex).length c3] 55)
  obtain ⟨N, hN⟩ : ∃ N, nameT name = N := ⟨_, rfl⟩
  have zN : N.size ≤ 82 := by rw [← hN]; exact nameT_small qn
  obtain ⟨M, hM⟩ : ∃ M, nameT on = M := ⟨_, rfl⟩
  have zM : M.size ≤ 3000000 := by rw [← hM]; have := nameT_size on; have := Zo.out; omega
  have HN := Lib.hid hN
  have HM := Lib.hid hM
  have y1 : (ByteArray.mk #[97, 108, 116, 101, 114, 32, 116, 97, 98, 108, 101, 32]).size = 12 := rfl
  have y2 : (ByteArray.mk #[32, 97, 108, 116, 101, 114, 32, 99, 111, 108, 117, 109, 110, 32]).size = 14 := rfl
  obtain ⟨p1, hp1⟩ : ∃ p, p = (ByteArray.mk #[97, 108, 116, 101, 114, 32, 116, 97, 98, 108, 101, 32]) ++ N := ⟨_, rfl⟩
  have zp1 : p1.size ≤ 94 := by rw [hp1, ByteArray.size_append]; omega
  have adp1 := run_add Tryz.prog (ByteArray.mk #[97, 108, 116, 101, 114, 32, 116, 97, 98, 108, 101, 32]) N p1 hp1 (by omega)
  obtain ⟨q1, hq1⟩ : ∃ p, p = p1 ++ (ByteArray.mk #[32, 97, 108, 116, 101, 114, 32, 99, 111, 108, 117, 109, 110, 32]) := ⟨_, rfl⟩
  have zq1 : q1.size ≤ 108 := by rw [hq1, ByteArray.size_append]; omega
  have adq1 := run_add Tryz.prog p1 (ByteArray.mk #[32, 97, 108, 116, 101, 114, 32, 99, 111, 108, 117, 109, 110, 32]) q1 hq1 (by omega)
  obtain ⟨q2, hq2⟩ : ∃ p, p = q1 ++ M := ⟨_, rfl⟩
  have zq2 : q2.size ≤ 3000108 := by rw [hq2, ByteArray.size_append]; omega
  have adq2 := run_add Tryz.prog q1 M q2 hq2 (by omega)
  have y3 : (ByteArray.mk #[32, 100, 114, 111, 112, 32, 100, 101, 102, 97, 117, 108, 116]).size = 13 := rfl
  obtain ⟨s1, hs1⟩ : ∃ p, p = q2 ++ (ByteArray.mk #[32, 100, 114, 111, 112, 32, 100, 101, 102, 97, 117, 108, 116]) := ⟨_, rfl⟩
  have zs1 : s1.size ≤ 3000121 := by rw [hs1, ByteArray.size_append]; omega
  have ads1 := run_add Tryz.prog q2 (ByteArray.mk #[32, 100, 114, 111, 112, 32, 100, 101, 102, 97, 117, 108, 116]) s1 hs1 (by omega)
  have HV : Hid (r = s1) := by
    unfold Hid
    rw [← hr, hs1, hq2, hq1, hp1]
    unfold parts_10
    simp only [firstT, dflT, if_true, if_false, Bool.false_eq_true, List.cons_append, List.nil_append]
    rw [hN, hM]
    rw [joinT_cons, joinT_cons, joinT_cons, joinT_cons, joinT_one]
    apply ba_ext
    simp only [ba_list, List.append_assoc]
    rfl
  clear hr hN hM hp1 hq1 hq2 hs1
  go_enter Tryz.func51, Tryz.ntmps51
  go_wp2_with fail
  generalize w.alloc (.cells #[.int .i64 10, .string name, .string on, .slice a0 list.length c0, .int .i64 num, .bool flag, .int .i64 ty.kind, .int .i64 ty.len, .string ty.name, .slice a1 cols.length c1, .slice a2 rules.length c2, .slice a3 ([] : List Ex).length c3] 55) = W0 at HB ⊢
  have g0 : W0.cell? ⟨w.heap.size, 0, none⟩ = some (.int .i64 10) := (HB.out.1.2 0 (by simp)).1
  have g1 : W0.cell? ⟨w.heap.size, 1, none⟩ = some (.string name) := (HB.out.1.2 1 (by simp)).1
  have g2 : W0.cell? ⟨w.heap.size, 2, none⟩ = some (.string on) := (HB.out.1.2 2 (by simp)).1
  have g3 : W0.cell? ⟨w.heap.size, 3, none⟩ = some (.slice a0 list.length c0) := (HB.out.1.2 3 (by simp)).1
  have g4 : W0.cell? ⟨w.heap.size, 4, none⟩ = some (.int .i64 num) := (HB.out.1.2 4 (by simp)).1
  have g5 : W0.cell? ⟨w.heap.size, 5, none⟩ = some (.bool flag) := (HB.out.1.2 5 (by simp)).1
  have g6 : W0.cell? ⟨w.heap.size, 6, none⟩ = some (.int .i64 ty.kind) := (HB.out.1.2 6 (by simp)).1
  have g7 : W0.cell? ⟨w.heap.size, 7, none⟩ = some (.int .i64 ty.len) := (HB.out.1.2 7 (by simp)).1
  have g8 : W0.cell? ⟨w.heap.size, 8, none⟩ = some (.string ty.name) := (HB.out.1.2 8 (by simp)).1
  have g9 : W0.cell? ⟨w.heap.size, 9, none⟩ = some (.slice a1 cols.length c1) := (HB.out.1.2 9 (by simp)).1
  have g10 : W0.cell? ⟨w.heap.size, 10, none⟩ = some (.slice a2 rules.length c2) := (HB.out.1.2 10 (by simp)).1
  have g11 : W0.cell? ⟨w.heap.size, 11, none⟩ = some (.slice a3 ([] : List Ex).length c3) := (HB.out.1.2 11 (by simp)).1
  refine (specPutName name _ Zn.out N HN.out).mono ?_
  rintro e w1 ⟨rfl, b1⟩
  have B1 := Lib.hid (HB.out.call b1)
  clear b1 g0 g1 g2 g3 g4 g5 g6 g7 g8 g9 g10 g11
  have g0 : w1.cell? ⟨w.heap.size, 0, none⟩ = some (.int .i64 10) := (B1.out.1.2 0 (by simp)).1
  have g1 : w1.cell? ⟨w.heap.size, 1, none⟩ = some (.string name) := (B1.out.1.2 1 (by simp)).1
  have g2 : w1.cell? ⟨w.heap.size, 2, none⟩ = some (.string on) := (B1.out.1.2 2 (by simp)).1
  have g3 : w1.cell? ⟨w.heap.size, 3, none⟩ = some (.slice a0 list.length c0) := (B1.out.1.2 3 (by simp)).1
  have g4 : w1.cell? ⟨w.heap.size, 4, none⟩ = some (.int .i64 num) := (B1.out.1.2 4 (by simp)).1
  have g5 : w1.cell? ⟨w.heap.size, 5, none⟩ = some (.bool flag) := (B1.out.1.2 5 (by simp)).1
  have g6 : w1.cell? ⟨w.heap.size, 6, none⟩ = some (.int .i64 ty.kind) := (B1.out.1.2 6 (by simp)).1
  have g7 : w1.cell? ⟨w.heap.size, 7, none⟩ = some (.int .i64 ty.len) := (B1.out.1.2 7 (by simp)).1
  have g8 : w1.cell? ⟨w.heap.size, 8, none⟩ = some (.string ty.name) := (B1.out.1.2 8 (by simp)).1
  have g9 : w1.cell? ⟨w.heap.size, 9, none⟩ = some (.slice a1 cols.length c1) := (B1.out.1.2 9 (by simp)).1
  have g10 : w1.cell? ⟨w.heap.size, 10, none⟩ = some (.slice a2 rules.length c2) := (B1.out.1.2 10 (by simp)).1
  have g11 : w1.cell? ⟨w.heap.size, 11, none⟩ = some (.slice a3 ([] : List Ex).length c3) := (B1.out.1.2 11 (by simp)).1
  go_wp2_with fail
  refine (specPutName on _ Zo.out M HM.out).mono ?_
  rintro e w2 ⟨rfl, b2⟩
  have B2 := Lib.hid (B1.out.call b2)
  clear b2 g0 g1 g2 g3 g4 g5 g6 g7 g8 g9 g10 g11
  have g0 : w2.cell? ⟨w.heap.size, 0, none⟩ = some (.int .i64 10) := (B2.out.1.2 0 (by simp)).1
  have g1 : w2.cell? ⟨w.heap.size, 1, none⟩ = some (.string name) := (B2.out.1.2 1 (by simp)).1
  have g2 : w2.cell? ⟨w.heap.size, 2, none⟩ = some (.string on) := (B2.out.1.2 2 (by simp)).1
  have g3 : w2.cell? ⟨w.heap.size, 3, none⟩ = some (.slice a0 list.length c0) := (B2.out.1.2 3 (by simp)).1
  have g4 : w2.cell? ⟨w.heap.size, 4, none⟩ = some (.int .i64 num) := (B2.out.1.2 4 (by simp)).1
  have g5 : w2.cell? ⟨w.heap.size, 5, none⟩ = some (.bool flag) := (B2.out.1.2 5 (by simp)).1
  have g6 : w2.cell? ⟨w.heap.size, 6, none⟩ = some (.int .i64 ty.kind) := (B2.out.1.2 6 (by simp)).1
  have g7 : w2.cell? ⟨w.heap.size, 7, none⟩ = some (.int .i64 ty.len) := (B2.out.1.2 7 (by simp)).1
  have g8 : w2.cell? ⟨w.heap.size, 8, none⟩ = some (.string ty.name) := (B2.out.1.2 8 (by simp)).1
  have g9 : w2.cell? ⟨w.heap.size, 9, none⟩ = some (.slice a1 cols.length c1) := (B2.out.1.2 9 (by simp)).1
  have g10 : w2.cell? ⟨w.heap.size, 10, none⟩ = some (.slice a2 rules.length c2) := (B2.out.1.2 10 (by simp)).1
  have g11 : w2.cell? ⟨w.heap.size, 11, none⟩ = some (.slice a3 ([] : List Ex).length c3) := (B2.out.1.2 11 (by simp)).1
  go_wp2_with fail
  go_ret
  exact ⟨by rw [HV.out] <;> rfl, B2.out.2⟩

set_option maxRecDepth 100000 in
set_option maxHeartbeats 4000000 in
theorem specAlter_10e (name on : ByteArray) (list : List ByteArray) (num : Int) (flag : Bool) (ty : Ty) (cols : List Co) (rules : List Ru) (exprs : List Ex) (a0 a1 a2 a3 : Option Addr) (c0 c1 c2 c3 : Nat) (w : World) (e1 : Ex) (hex : exprs = [e1]) (hok : okX e1 = true) (HK : Hid (∀ w', Below w.heap.size w w' → Ss 0 w' a0 c0 list ∧ Sl 6 RCo 0 w' a1 c1 cols ∧ Sl 6 RRu 0 w' a2 c2 rules ∧ Ks 0 w' a3 c3 exprs)) (Zn : Hid (name.size ≤ 1048576)) (Zo : Hid (on.size ≤ 1048576)) (Zt : Hid (ty.name.size ≤ 1048576)) (Zc : Hid (∀ x ∈ cols, x.wt ≤ 1048576)) (Zr : Hid (∀ x ∈ rules, x.wt ≤ 1048576)) (Zx : Hid (∀ x ∈ exprs, x.wt ≤ 1048576)) (qn : nmB name = true) (r : ByteArray) (hr : joinT (parts_10 name on list num flag ty cols rules exprs) (txt [32]) = r) :
    Calls Tryz.prog 51 #[.agg #[.int .i64 10, .string name, .string on, .slice a0 list.length c0, .int .i64 num, .bool flag, .int .i64 ty.kind, .int .i64 ty.len, .string ty.name, .slice a1 cols.length c1, .slice a2 rules.length c2, .slice a3 exprs.length c3]] w fun e w' => e = .returned (.string r) ∧ Below w.heap.size w w' := by
  subst hex
  have HB := Lib.hid (boxV_new w [.int .i64 10, .string name, .string on, .slice a0 list.length c0, .int .i64 num, .bool flag, .int .i64 ty.kind, .int .i64 ty.len, .string ty.name, .slice a1 cols.length c1, .slice a2 rules.length c2, .slice a3 [e1].length c3] 55)
  obtain ⟨N, hN⟩ : ∃ N, nameT name = N := ⟨_, rfl⟩
  have zN : N.size ≤ 82 := by rw [← hN]; exact nameT_small qn
  obtain ⟨M, hM⟩ : ∃ M, nameT on = M := ⟨_, rfl⟩
  have zM : M.size ≤ 3000000 := by rw [← hM]; have := nameT_size on; have := Zo.out; omega
  have HN := Lib.hid hN
  have HM := Lib.hid hM
  have y1 : (ByteArray.mk #[97, 108, 116, 101, 114, 32, 116, 97, 98, 108, 101, 32]).size = 12 := rfl
  have y2 : (ByteArray.mk #[32, 97, 108, 116, 101, 114, 32, 99, 111, 108, 117, 109, 110, 32]).size = 14 := rfl
  obtain ⟨p1, hp1⟩ : ∃ p, p = (ByteArray.mk #[97, 108, 116, 101, 114, 32, 116, 97, 98, 108, 101, 32]) ++ N := ⟨_, rfl⟩
  have zp1 : p1.size ≤ 94 := by rw [hp1, ByteArray.size_append]; omega
  have adp1 := run_add Tryz.prog (ByteArray.mk #[97, 108, 116, 101, 114, 32, 116, 97, 98, 108, 101, 32]) N p1 hp1 (by omega)
  obtain ⟨q1, hq1⟩ : ∃ p, p = p1 ++ (ByteArray.mk #[32, 97, 108, 116, 101, 114, 32, 99, 111, 108, 117, 109, 110, 32]) := ⟨_, rfl⟩
  have zq1 : q1.size ≤ 108 := by rw [hq1, ByteArray.size_append]; omega
  have adq1 := run_add Tryz.prog p1 (ByteArray.mk #[32, 97, 108, 116, 101, 114, 32, 99, 111, 108, 117, 109, 110, 32]) q1 hq1 (by omega)
  obtain ⟨q2, hq2⟩ : ∃ p, p = q1 ++ M := ⟨_, rfl⟩
  have zq2 : q2.size ≤ 3000108 := by rw [hq2, ByteArray.size_append]; omega
  have adq2 := run_add Tryz.prog q1 M q2 hq2 (by omega)
  obtain ⟨E, hE⟩ : ∃ E, putT e1 = E := ⟨_, rfl⟩
  have zE : E.size ≤ 8400 := by rw [← hE]; exact putT_small hok
  have HE := Lib.hid hE
  have y3 : (ByteArray.mk #[32, 115, 101, 116, 32, 100, 101, 102, 97, 117, 108, 116, 32]).size = 13 := rfl
  obtain ⟨s1, hs1⟩ : ∃ p, p = q2 ++ (ByteArray.mk #[32, 115, 101, 116, 32, 100, 101, 102, 97, 117, 108, 116, 32]) := ⟨_, rfl⟩
  have zs1 : s1.size ≤ 3000121 := by rw [hs1, ByteArray.size_append]; omega
  have ads1 := run_add Tryz.prog q2 (ByteArray.mk #[32, 115, 101, 116, 32, 100, 101, 102, 97, 117, 108, 116, 32]) s1 hs1 (by omega)
  obtain ⟨s2, hs2⟩ : ∃ p, p = s1 ++ E := ⟨_, rfl⟩
  have zs2 : s2.size ≤ 3008521 := by rw [hs2, ByteArray.size_append]; omega
  have ads2 := run_add Tryz.prog s1 E s2 hs2 (by omega)
  have HV : Hid (r = s2) := by
    unfold Hid
    rw [← hr, hs2, hs1, hq2, hq1, hp1]
    unfold parts_10
    simp only [firstT, dflT, if_true, if_false, Bool.false_eq_true, List.cons_append, List.nil_append]
    rw [hN, hM, hE]
    rw [joinT_cons, joinT_cons, joinT_cons, joinT_cons, joinT_cons, joinT_one]
    apply ba_ext
    simp only [ba_list, List.append_assoc]
    rfl
  clear hr hN hM hE hp1 hq1 hq2 hs1 hs2
  go_enter Tryz.func51, Tryz.ntmps51
  go_wp2_with fail
  generalize w.alloc (.cells #[.int .i64 10, .string name, .string on, .slice a0 list.length c0, .int .i64 num, .bool flag, .int .i64 ty.kind, .int .i64 ty.len, .string ty.name, .slice a1 cols.length c1, .slice a2 rules.length c2, .slice a3 [e1].length c3] 55) = W0 at HB ⊢
  have g0 : W0.cell? ⟨w.heap.size, 0, none⟩ = some (.int .i64 10) := (HB.out.1.2 0 (by simp)).1
  have g1 : W0.cell? ⟨w.heap.size, 1, none⟩ = some (.string name) := (HB.out.1.2 1 (by simp)).1
  have g2 : W0.cell? ⟨w.heap.size, 2, none⟩ = some (.string on) := (HB.out.1.2 2 (by simp)).1
  have g3 : W0.cell? ⟨w.heap.size, 3, none⟩ = some (.slice a0 list.length c0) := (HB.out.1.2 3 (by simp)).1
  have g4 : W0.cell? ⟨w.heap.size, 4, none⟩ = some (.int .i64 num) := (HB.out.1.2 4 (by simp)).1
  have g5 : W0.cell? ⟨w.heap.size, 5, none⟩ = some (.bool flag) := (HB.out.1.2 5 (by simp)).1
  have g6 : W0.cell? ⟨w.heap.size, 6, none⟩ = some (.int .i64 ty.kind) := (HB.out.1.2 6 (by simp)).1
  have g7 : W0.cell? ⟨w.heap.size, 7, none⟩ = some (.int .i64 ty.len) := (HB.out.1.2 7 (by simp)).1
  have g8 : W0.cell? ⟨w.heap.size, 8, none⟩ = some (.string ty.name) := (HB.out.1.2 8 (by simp)).1
  have g9 : W0.cell? ⟨w.heap.size, 9, none⟩ = some (.slice a1 cols.length c1) := (HB.out.1.2 9 (by simp)).1
  have g10 : W0.cell? ⟨w.heap.size, 10, none⟩ = some (.slice a2 rules.length c2) := (HB.out.1.2 10 (by simp)).1
  have g11 : W0.cell? ⟨w.heap.size, 11, none⟩ = some (.slice a3 [e1].length c3) := (HB.out.1.2 11 (by simp)).1
  refine (specPutName name _ Zn.out N HN.out).mono ?_
  rintro e w1 ⟨rfl, b1⟩
  have B1 := Lib.hid (HB.out.call b1)
  clear b1 g0 g1 g2 g3 g4 g5 g6 g7 g8 g9 g10 g11
  have g0 : w1.cell? ⟨w.heap.size, 0, none⟩ = some (.int .i64 10) := (B1.out.1.2 0 (by simp)).1
  have g1 : w1.cell? ⟨w.heap.size, 1, none⟩ = some (.string name) := (B1.out.1.2 1 (by simp)).1
  have g2 : w1.cell? ⟨w.heap.size, 2, none⟩ = some (.string on) := (B1.out.1.2 2 (by simp)).1
  have g3 : w1.cell? ⟨w.heap.size, 3, none⟩ = some (.slice a0 list.length c0) := (B1.out.1.2 3 (by simp)).1
  have g4 : w1.cell? ⟨w.heap.size, 4, none⟩ = some (.int .i64 num) := (B1.out.1.2 4 (by simp)).1
  have g5 : w1.cell? ⟨w.heap.size, 5, none⟩ = some (.bool flag) := (B1.out.1.2 5 (by simp)).1
  have g6 : w1.cell? ⟨w.heap.size, 6, none⟩ = some (.int .i64 ty.kind) := (B1.out.1.2 6 (by simp)).1
  have g7 : w1.cell? ⟨w.heap.size, 7, none⟩ = some (.int .i64 ty.len) := (B1.out.1.2 7 (by simp)).1
  have g8 : w1.cell? ⟨w.heap.size, 8, none⟩ = some (.string ty.name) := (B1.out.1.2 8 (by simp)).1
  have g9 : w1.cell? ⟨w.heap.size, 9, none⟩ = some (.slice a1 cols.length c1) := (B1.out.1.2 9 (by simp)).1
  have g10 : w1.cell? ⟨w.heap.size, 10, none⟩ = some (.slice a2 rules.length c2) := (B1.out.1.2 10 (by simp)).1
  have g11 : w1.cell? ⟨w.heap.size, 11, none⟩ = some (.slice a3 [e1].length c3) := (B1.out.1.2 11 (by simp)).1
  go_wp2_with fail
  refine (specPutName on _ Zo.out M HM.out).mono ?_
  rintro e w2 ⟨rfl, b2⟩
  have B2 := Lib.hid (B1.out.call b2)
  clear b2 g0 g1 g2 g3 g4 g5 g6 g7 g8 g9 g10 g11
  have g0 : w2.cell? ⟨w.heap.size, 0, none⟩ = some (.int .i64 10) := (B2.out.1.2 0 (by simp)).1
  have g1 : w2.cell? ⟨w.heap.size, 1, none⟩ = some (.string name) := (B2.out.1.2 1 (by simp)).1
  have g2 : w2.cell? ⟨w.heap.size, 2, none⟩ = some (.string on) := (B2.out.1.2 2 (by simp)).1
  have g3 : w2.cell? ⟨w.heap.size, 3, none⟩ = some (.slice a0 list.length c0) := (B2.out.1.2 3 (by simp)).1
  have g4 : w2.cell? ⟨w.heap.size, 4, none⟩ = some (.int .i64 num) := (B2.out.1.2 4 (by simp)).1
  have g5 : w2.cell? ⟨w.heap.size, 5, none⟩ = some (.bool flag) := (B2.out.1.2 5 (by simp)).1
  have g6 : w2.cell? ⟨w.heap.size, 6, none⟩ = some (.int .i64 ty.kind) := (B2.out.1.2 6 (by simp)).1
  have g7 : w2.cell? ⟨w.heap.size, 7, none⟩ = some (.int .i64 ty.len) := (B2.out.1.2 7 (by simp)).1
  have g8 : w2.cell? ⟨w.heap.size, 8, none⟩ = some (.string ty.name) := (B2.out.1.2 8 (by simp)).1
  have g9 : w2.cell? ⟨w.heap.size, 9, none⟩ = some (.slice a1 cols.length c1) := (B2.out.1.2 9 (by simp)).1
  have g10 : w2.cell? ⟨w.heap.size, 10, none⟩ = some (.slice a2 rules.length c2) := (B2.out.1.2 10 (by simp)).1
  have g11 : w2.cell? ⟨w.heap.size, 11, none⟩ = some (.slice a3 [e1].length c3) := (B2.out.1.2 11 (by simp)).1
  obtain ⟨dd, hsx⟩ := (HK.out _ B2.out.2).2.2.2.sl
  obtain ⟨eb, eoff, evs, rfl, hbl, hcs, hRe⟩ := (hsx).spot (i := 0) (by simp)
  simp only [List.getElem_cons_zero] at hRe
  have HRe := Lib.hid hRe
  obtain ⟨x0, y0, rfl, _⟩ := hRe
  have hc0 : w2.cell? ⟨eb, eoff, none⟩ = some (.int .i64 e1.kind) := by have := hcs 0 (by simp); simpa using this
  have hc1 : w2.cell? ⟨eb, eoff + 1, none⟩ = some (.string e1.text) := by have := hcs 1 (by simp); simpa using this
  have hc2 : w2.cell? ⟨eb, eoff + 2, none⟩ = some (.int .i64 e1.num) := by have := hcs 2 (by simp); simpa using this
  have hc3 : w2.cell? ⟨eb, eoff + 3, none⟩ = some (.slice x0 e1.kids.length y0) := by have := hcs 3 (by simp); simpa using this
  clear hcs
  simp only [List.length_cons, List.length_nil] at g11
  go_wp2_with fail
  obtain ⟨za, zc, hze, _, hkk⟩ := HRe.out
  cases hze
  refine (specPutExpr e1 _ _ dd _ hkk.at (Zx.out _ (by simp)) E HE.out).mono ?_
  rintro e w3 ⟨rfl, b3⟩
  have B3 := Lib.hid (B2.out.call b3)
  clear b3
  go_wp2_with fail
  go_ret
  exact ⟨by rw [HV.out] <;> rfl, B3.out.2⟩

set_option maxRecDepth 100000 in
set_option maxHeartbeats 4000000 in
theorem specAlter_11 (name on : ByteArray) (list : List ByteArray) (num : Int) (flag : Bool) (ty : Ty) (cols : List Co) (rules : List Ru) (exprs : List Ex) (a0 a1 a2 a3 : Option Addr) (c0 c1 c2 c3 : Nat) (w : World) (e1 : Ru) (hrules : rules = [e1]) (hok : ruleB e1 = true) (HK : Hid (∀ w', Below w.heap.size w w' → Ss 0 w' a0 c0 list ∧ Sl 6 RCo 0 w' a1 c1 cols ∧ Sl 6 RRu 0 w' a2 c2 rules ∧ Ks 0 w' a3 c3 exprs)) (Zn : Hid (name.size ≤ 1048576)) (Zo : Hid (on.size ≤ 1048576)) (Zt : Hid (ty.name.size ≤ 1048576)) (Zc : Hid (∀ x ∈ cols, x.wt ≤ 1048576)) (Zr : Hid (∀ x ∈ rules, x.wt ≤ 1048576)) (Zx : Hid (∀ x ∈ exprs, x.wt ≤ 1048576)) (qn : nmB name = true) (r : ByteArray) (hr : joinT (parts_11 name on list num flag ty cols rules exprs) (txt [32]) = r) :
    Calls Tryz.prog 51 #[.agg #[.int .i64 11, .string name, .string on, .slice a0 list.length c0, .int .i64 num, .bool flag, .int .i64 ty.kind, .int .i64 ty.len, .string ty.name, .slice a1 cols.length c1, .slice a2 rules.length c2, .slice a3 exprs.length c3]] w fun e w' => e = .returned (.string r) ∧ Below w.heap.size w w' := by
  subst hrules
  have HB := Lib.hid (boxV_new w [.int .i64 11, .string name, .string on, .slice a0 list.length c0, .int .i64 num, .bool flag, .int .i64 ty.kind, .int .i64 ty.len, .string ty.name, .slice a1 cols.length c1, .slice a2 [e1].length c2, .slice a3 exprs.length c3] 55)
  obtain ⟨N, hN⟩ : ∃ N, nameT name = N := ⟨_, rfl⟩
  have zN : N.size ≤ 82 := by rw [← hN]; exact nameT_small qn
  obtain ⟨M, hM⟩ : ∃ M, nameT on = M := ⟨_, rfl⟩
  have zM : M.size ≤ 3000000 := by rw [← hM]; have := nameT_size on; have := Zo.out; omega
  have HN := Lib.hid hN
  have HM := Lib.hid hM
  have y1 : (ByteArray.mk #[97, 108, 116, 101, 114, 32, 116, 97, 98, 108, 101, 32]).size = 12 := rfl
  have y2 : (ByteArray.mk #[32, 97, 108, 116, 101, 114, 32, 99, 111, 108, 117, 109, 110, 32]).size = 14 := rfl
  obtain ⟨p1, hp1⟩ : ∃ p, p = (ByteArray.mk #[97, 108, 116, 101, 114, 32, 116, 97, 98, 108, 101, 32]) ++ N := ⟨_, rfl⟩
  have zp1 : p1.size ≤ 94 := by rw [hp1, ByteArray.size_append]; omega
  have adp1 := run_add Tryz.prog (ByteArray.mk #[97, 108, 116, 101, 114, 32, 116, 97, 98, 108, 101, 32]) N p1 hp1 (by omega)
  obtain ⟨q1, hq1⟩ : ∃ p, p = p1 ++ (ByteArray.mk #[32, 97, 108, 116, 101, 114, 32, 99, 111, 108, 117, 109, 110, 32]) := ⟨_, rfl⟩
  have zq1 : q1.size ≤ 108 := by rw [hq1, ByteArray.size_append]; omega
  have adq1 := run_add Tryz.prog p1 (ByteArray.mk #[32, 97, 108, 116, 101, 114, 32, 99, 111, 108, 117, 109, 110, 32]) q1 hq1 (by omega)
  obtain ⟨q2, hq2⟩ : ∃ p, p = q1 ++ M := ⟨_, rfl⟩
  have zq2 : q2.size ≤ 3000108 := by rw [hq2, ByteArray.size_append]; omega
  have adq2 := run_add Tryz.prog q1 M q2 hq2 (by omega)
  obtain ⟨E, hE⟩ : ∃ E, ruleT e1 = E := ⟨_, rfl⟩
  have zE : E.size ≤ 20000 := by rw [← hE]; exact ruleT_small hok
  have HE := Lib.hid hE
  have y3 : (ByteArray.mk #[32, 97, 100, 100, 32]).size = 5 := rfl
  obtain ⟨s1, hs1⟩ : ∃ p, p = p1 ++ (ByteArray.mk #[32, 97, 100, 100, 32]) := ⟨_, rfl⟩
  have zs1 : s1.size ≤ 99 := by rw [hs1, ByteArray.size_append]; omega
  have ads1 := run_add Tryz.prog p1 (ByteArray.mk #[32, 97, 100, 100, 32]) s1 hs1 (by omega)
  obtain ⟨s2, hs2⟩ : ∃ p, p = s1 ++ E := ⟨_, rfl⟩
  have zs2 : s2.size ≤ 20099 := by rw [hs2, ByteArray.size_append]; omega
  have ads2 := run_add Tryz.prog s1 E s2 hs2 (by omega)
  have HV : Hid (r = s2) := by
    unfold Hid
    rw [← hr, hs2, hs1, hp1]
    unfold parts_11
    simp only [firstT, dflT, if_true, if_false, Bool.false_eq_true, List.cons_append, List.nil_append]
    rw [hN, hE]
    rw [joinT_cons, joinT_cons, joinT_cons, joinT_one]
    apply ba_ext
    simp only [ba_list, List.append_assoc]
    rfl
  clear hr hN hM hE hp1 hq1 hq2 hs1 hs2
  go_enter Tryz.func51, Tryz.ntmps51
  go_wp2_with fail
  generalize w.alloc (.cells #[.int .i64 11, .string name, .string on, .slice a0 list.length c0, .int .i64 num, .bool flag, .int .i64 ty.kind, .int .i64 ty.len, .string ty.name, .slice a1 cols.length c1, .slice a2 [e1].length c2, .slice a3 exprs.length c3] 55) = W0 at HB ⊢
  have g0 : W0.cell? ⟨w.heap.size, 0, none⟩ = some (.int .i64 11) := (HB.out.1.2 0 (by simp)).1
  have g1 : W0.cell? ⟨w.heap.size, 1, none⟩ = some (.string name) := (HB.out.1.2 1 (by simp)).1
  have g2 : W0.cell? ⟨w.heap.size, 2, none⟩ = some (.string on) := (HB.out.1.2 2 (by simp)).1
  have g3 : W0.cell? ⟨w.heap.size, 3, none⟩ = some (.slice a0 list.length c0) := (HB.out.1.2 3 (by simp)).1
  have g4 : W0.cell? ⟨w.heap.size, 4, none⟩ = some (.int .i64 num) := (HB.out.1.2 4 (by simp)).1
  have g5 : W0.cell? ⟨w.heap.size, 5, none⟩ = some (.bool flag) := (HB.out.1.2 5 (by simp)).1
  have g6 : W0.cell? ⟨w.heap.size, 6, none⟩ = some (.int .i64 ty.kind) := (HB.out.1.2 6 (by simp)).1
  have g7 : W0.cell? ⟨w.heap.size, 7, none⟩ = some (.int .i64 ty.len) := (HB.out.1.2 7 (by simp)).1
  have g8 : W0.cell? ⟨w.heap.size, 8, none⟩ = some (.string ty.name) := (HB.out.1.2 8 (by simp)).1
  have g9 : W0.cell? ⟨w.heap.size, 9, none⟩ = some (.slice a1 cols.length c1) := (HB.out.1.2 9 (by simp)).1
  have g10 : W0.cell? ⟨w.heap.size, 10, none⟩ = some (.slice a2 [e1].length c2) := (HB.out.1.2 10 (by simp)).1
  have g11 : W0.cell? ⟨w.heap.size, 11, none⟩ = some (.slice a3 exprs.length c3) := (HB.out.1.2 11 (by simp)).1
  refine (specPutName name _ Zn.out N HN.out).mono ?_
  rintro e w1 ⟨rfl, b1⟩
  have B1 := Lib.hid (HB.out.call b1)
  clear b1 g0 g1 g2 g3 g4 g5 g6 g7 g8 g9 g10 g11
  have g0 : w1.cell? ⟨w.heap.size, 0, none⟩ = some (.int .i64 11) := (B1.out.1.2 0 (by simp)).1
  have g1 : w1.cell? ⟨w.heap.size, 1, none⟩ = some (.string name) := (B1.out.1.2 1 (by simp)).1
  have g2 : w1.cell? ⟨w.heap.size, 2, none⟩ = some (.string on) := (B1.out.1.2 2 (by simp)).1
  have g3 : w1.cell? ⟨w.heap.size, 3, none⟩ = some (.slice a0 list.length c0) := (B1.out.1.2 3 (by simp)).1
  have g4 : w1.cell? ⟨w.heap.size, 4, none⟩ = some (.int .i64 num) := (B1.out.1.2 4 (by simp)).1
  have g5 : w1.cell? ⟨w.heap.size, 5, none⟩ = some (.bool flag) := (B1.out.1.2 5 (by simp)).1
  have g6 : w1.cell? ⟨w.heap.size, 6, none⟩ = some (.int .i64 ty.kind) := (B1.out.1.2 6 (by simp)).1
  have g7 : w1.cell? ⟨w.heap.size, 7, none⟩ = some (.int .i64 ty.len) := (B1.out.1.2 7 (by simp)).1
  have g8 : w1.cell? ⟨w.heap.size, 8, none⟩ = some (.string ty.name) := (B1.out.1.2 8 (by simp)).1
  have g9 : w1.cell? ⟨w.heap.size, 9, none⟩ = some (.slice a1 cols.length c1) := (B1.out.1.2 9 (by simp)).1
  have g10 : w1.cell? ⟨w.heap.size, 10, none⟩ = some (.slice a2 [e1].length c2) := (B1.out.1.2 10 (by simp)).1
  have g11 : w1.cell? ⟨w.heap.size, 11, none⟩ = some (.slice a3 exprs.length c3) := (B1.out.1.2 11 (by simp)).1
  go_wp2_with fail
  refine (specPutName on _ Zo.out M HM.out).mono ?_
  rintro e w2 ⟨rfl, b2⟩
  have B2 := Lib.hid (B1.out.call b2)
  clear b2 g0 g1 g2 g3 g4 g5 g6 g7 g8 g9 g10 g11
  have g0 : w2.cell? ⟨w.heap.size, 0, none⟩ = some (.int .i64 11) := (B2.out.1.2 0 (by simp)).1
  have g1 : w2.cell? ⟨w.heap.size, 1, none⟩ = some (.string name) := (B2.out.1.2 1 (by simp)).1
  have g2 : w2.cell? ⟨w.heap.size, 2, none⟩ = some (.string on) := (B2.out.1.2 2 (by simp)).1
  have g3 : w2.cell? ⟨w.heap.size, 3, none⟩ = some (.slice a0 list.length c0) := (B2.out.1.2 3 (by simp)).1
  have g4 : w2.cell? ⟨w.heap.size, 4, none⟩ = some (.int .i64 num) := (B2.out.1.2 4 (by simp)).1
  have g5 : w2.cell? ⟨w.heap.size, 5, none⟩ = some (.bool flag) := (B2.out.1.2 5 (by simp)).1
  have g6 : w2.cell? ⟨w.heap.size, 6, none⟩ = some (.int .i64 ty.kind) := (B2.out.1.2 6 (by simp)).1
  have g7 : w2.cell? ⟨w.heap.size, 7, none⟩ = some (.int .i64 ty.len) := (B2.out.1.2 7 (by simp)).1
  have g8 : w2.cell? ⟨w.heap.size, 8, none⟩ = some (.string ty.name) := (B2.out.1.2 8 (by simp)).1
  have g9 : w2.cell? ⟨w.heap.size, 9, none⟩ = some (.slice a1 cols.length c1) := (B2.out.1.2 9 (by simp)).1
  have g10 : w2.cell? ⟨w.heap.size, 10, none⟩ = some (.slice a2 [e1].length c2) := (B2.out.1.2 10 (by simp)).1
  have g11 : w2.cell? ⟨w.heap.size, 11, none⟩ = some (.slice a3 exprs.length c3) := (B2.out.1.2 11 (by simp)).1
  obtain ⟨eb, eoff, evs, rfl, hbl, hcs, hRe⟩ := ((HK.out _ B2.out.2).2.2.1).spot (i := 0) (by simp)
  simp only [List.getElem_cons_zero] at hRe
  have HRe := Lib.hid hRe
  obtain ⟨x0, y0, x1, y1, x2, y2, rfl, _⟩ := hRe
  have hc0 : w2.cell? ⟨eb, eoff, none⟩ = some (.string e1.name) := by have := hcs 0 (by simp); simpa using this
  have hc1 : w2.cell? ⟨eb, eoff + 1, none⟩ = some (.int .i64 e1.kind) := by have := hcs 1 (by simp); simpa using this
  have hc2 : w2.cell? ⟨eb, eoff + 2, none⟩ = some (.slice x0 e1.cols.length y0) := by have := hcs 2 (by simp); simpa using this
  have hc3 : w2.cell? ⟨eb, eoff + 3, none⟩ = some (.slice x1 e1.expr.length y1) := by have := hcs 3 (by simp); simpa using this
  have hc4 : w2.cell? ⟨eb, eoff + 4, none⟩ = some (.string e1.table) := by have := hcs 4 (by simp); simpa using this
  have hc5 : w2.cell? ⟨eb, eoff + 5, none⟩ = some (.slice x2 e1.to.length y2) := by have := hcs 5 (by simp); simpa using this
  clear hcs
  simp only [List.length_cons, List.length_nil] at g10
  go_wp2_with fail
  refine (specPutRule _ e1 _ HRe.out (Zr.out _ (by simp)) E HE.out).mono ?_
  rintro e w3 ⟨rfl, b3⟩
  have B3 := Lib.hid (B2.out.call b3)
  clear b3
  go_wp2_with fail
  go_ret
  exact ⟨by rw [HV.out] <;> rfl, B3.out.2⟩

set_option maxRecDepth 100000 in
set_option maxHeartbeats 4000000 in
theorem specAlter_12 (name on : ByteArray) (list : List ByteArray) (num : Int) (flag : Bool) (ty : Ty) (cols : List Co) (rules : List Ru) (exprs : List Ex) (a0 a1 a2 a3 : Option Addr) (c0 c1 c2 c3 : Nat) (w : World) (HK : Hid (∀ w', Below w.heap.size w w' → Ss 0 w' a0 c0 list ∧ Sl 6 RCo 0 w' a1 c1 cols ∧ Sl 6 RRu 0 w' a2 c2 rules ∧ Ks 0 w' a3 c3 exprs)) (Zn : Hid (name.size ≤ 1048576)) (Zo : Hid (on.size ≤ 1048576)) (Zt : Hid (ty.name.size ≤ 1048576)) (Zc : Hid (∀ x ∈ cols, x.wt ≤ 1048576)) (Zr : Hid (∀ x ∈ rules, x.wt ≤ 1048576)) (Zx : Hid (∀ x ∈ exprs, x.wt ≤ 1048576)) (qn : nmB name = true) (r : ByteArray) (hr : joinT (parts_12 name on list num flag ty cols rules exprs) (txt [32]) = r) :
    Calls Tryz.prog 51 #[.agg #[.int .i64 12, .string name, .string on, .slice a0 list.length c0, .int .i64 num, .bool flag, .int .i64 ty.kind, .int .i64 ty.len, .string ty.name, .slice a1 cols.length c1, .slice a2 rules.length c2, .slice a3 exprs.length c3]] w fun e w' => e = .returned (.string r) ∧ Below w.heap.size w w' := by
  have HB := Lib.hid (boxV_new w [.int .i64 12, .string name, .string on, .slice a0 list.length c0, .int .i64 num, .bool flag, .int .i64 ty.kind, .int .i64 ty.len, .string ty.name, .slice a1 cols.length c1, .slice a2 rules.length c2, .slice a3 exprs.length c3] 55)
  obtain ⟨N, hN⟩ : ∃ N, nameT name = N := ⟨_, rfl⟩
  have zN : N.size ≤ 82 := by rw [← hN]; exact nameT_small qn
  obtain ⟨M, hM⟩ : ∃ M, nameT on = M := ⟨_, rfl⟩
  have zM : M.size ≤ 3000000 := by rw [← hM]; have := nameT_size on; have := Zo.out; omega
  have HN := Lib.hid hN
  have HM := Lib.hid hM
  have y1 : (ByteArray.mk #[97, 108, 116, 101, 114, 32, 116, 97, 98, 108, 101, 32]).size = 12 := rfl
  have y2 : (ByteArray.mk #[32, 97, 108, 116, 101, 114, 32, 99, 111, 108, 117, 109, 110, 32]).size = 14 := rfl
  obtain ⟨p1, hp1⟩ : ∃ p, p = (ByteArray.mk #[97, 108, 116, 101, 114, 32, 116, 97, 98, 108, 101, 32]) ++ N := ⟨_, rfl⟩
  have zp1 : p1.size ≤ 94 := by rw [hp1, ByteArray.size_append]; omega
  have adp1 := run_add Tryz.prog (ByteArray.mk #[97, 108, 116, 101, 114, 32, 116, 97, 98, 108, 101, 32]) N p1 hp1 (by omega)
  obtain ⟨q1, hq1⟩ : ∃ p, p = p1 ++ (ByteArray.mk #[32, 97, 108, 116, 101, 114, 32, 99, 111, 108, 117, 109, 110, 32]) := ⟨_, rfl⟩
  have zq1 : q1.size ≤ 108 := by rw [hq1, ByteArray.size_append]; omega
  have adq1 := run_add Tryz.prog p1 (ByteArray.mk #[32, 97, 108, 116, 101, 114, 32, 99, 111, 108, 117, 109, 110, 32]) q1 hq1 (by omega)
  obtain ⟨q2, hq2⟩ : ∃ p, p = q1 ++ M := ⟨_, rfl⟩
  have zq2 : q2.size ≤ 3000108 := by rw [hq2, ByteArray.size_append]; omega
  have adq2 := run_add Tryz.prog q1 M q2 hq2 (by omega)
  have y3 : (ByteArray.mk #[32, 100, 114, 111, 112, 32, 99, 111, 110, 115, 116, 114, 97, 105, 110, 116, 32]).size = 17 := rfl
  obtain ⟨s1, hs1⟩ : ∃ p, p = p1 ++ (ByteArray.mk #[32, 100, 114, 111, 112, 32, 99, 111, 110, 115, 116, 114, 97, 105, 110, 116, 32]) := ⟨_, rfl⟩
  have zs1 : s1.size ≤ 111 := by rw [hs1, ByteArray.size_append]; omega
  have ads1 := run_add Tryz.prog p1 (ByteArray.mk #[32, 100, 114, 111, 112, 32, 99, 111, 110, 115, 116, 114, 97, 105, 110, 116, 32]) s1 hs1 (by omega)
  obtain ⟨s2, hs2⟩ : ∃ p, p = s1 ++ M := ⟨_, rfl⟩
  have zs2 : s2.size ≤ 3000111 := by rw [hs2, ByteArray.size_append]; omega
  have ads2 := run_add Tryz.prog s1 M s2 hs2 (by omega)
  have HV : Hid (r = s2) := by
    unfold Hid
    rw [← hr, hs2, hs1, hp1]
    unfold parts_12
    simp only [firstT, dflT, if_true, if_false, Bool.false_eq_true, List.cons_append, List.nil_append]
    rw [hN, hM]
    rw [joinT_cons, joinT_cons, joinT_cons, joinT_one]
    apply ba_ext
    simp only [ba_list, List.append_assoc]
    rfl
  clear hr hN hM hp1 hq1 hq2 hs1 hs2
  go_enter Tryz.func51, Tryz.ntmps51
  go_wp2_with fail
  generalize w.alloc (.cells #[.int .i64 12, .string name, .string on, .slice a0 list.length c0, .int .i64 num, .bool flag, .int .i64 ty.kind, .int .i64 ty.len, .string ty.name, .slice a1 cols.length c1, .slice a2 rules.length c2, .slice a3 exprs.length c3] 55) = W0 at HB ⊢
  have g0 : W0.cell? ⟨w.heap.size, 0, none⟩ = some (.int .i64 12) := (HB.out.1.2 0 (by simp)).1
  have g1 : W0.cell? ⟨w.heap.size, 1, none⟩ = some (.string name) := (HB.out.1.2 1 (by simp)).1
  have g2 : W0.cell? ⟨w.heap.size, 2, none⟩ = some (.string on) := (HB.out.1.2 2 (by simp)).1
  have g3 : W0.cell? ⟨w.heap.size, 3, none⟩ = some (.slice a0 list.length c0) := (HB.out.1.2 3 (by simp)).1
  have g4 : W0.cell? ⟨w.heap.size, 4, none⟩ = some (.int .i64 num) := (HB.out.1.2 4 (by simp)).1
  have g5 : W0.cell? ⟨w.heap.size, 5, none⟩ = some (.bool flag) := (HB.out.1.2 5 (by simp)).1
  have g6 : W0.cell? ⟨w.heap.size, 6, none⟩ = some (.int .i64 ty.kind) := (HB.out.1.2 6 (by simp)).1
  have g7 : W0.cell? ⟨w.heap.size, 7, none⟩ = some (.int .i64 ty.len) := (HB.out.1.2 7 (by simp)).1
  have g8 : W0.cell? ⟨w.heap.size, 8, none⟩ = some (.string ty.name) := (HB.out.1.2 8 (by simp)).1
  have g9 : W0.cell? ⟨w.heap.size, 9, none⟩ = some (.slice a1 cols.length c1) := (HB.out.1.2 9 (by simp)).1
  have g10 : W0.cell? ⟨w.heap.size, 10, none⟩ = some (.slice a2 rules.length c2) := (HB.out.1.2 10 (by simp)).1
  have g11 : W0.cell? ⟨w.heap.size, 11, none⟩ = some (.slice a3 exprs.length c3) := (HB.out.1.2 11 (by simp)).1
  refine (specPutName name _ Zn.out N HN.out).mono ?_
  rintro e w1 ⟨rfl, b1⟩
  have B1 := Lib.hid (HB.out.call b1)
  clear b1 g0 g1 g2 g3 g4 g5 g6 g7 g8 g9 g10 g11
  have g0 : w1.cell? ⟨w.heap.size, 0, none⟩ = some (.int .i64 12) := (B1.out.1.2 0 (by simp)).1
  have g1 : w1.cell? ⟨w.heap.size, 1, none⟩ = some (.string name) := (B1.out.1.2 1 (by simp)).1
  have g2 : w1.cell? ⟨w.heap.size, 2, none⟩ = some (.string on) := (B1.out.1.2 2 (by simp)).1
  have g3 : w1.cell? ⟨w.heap.size, 3, none⟩ = some (.slice a0 list.length c0) := (B1.out.1.2 3 (by simp)).1
  have g4 : w1.cell? ⟨w.heap.size, 4, none⟩ = some (.int .i64 num) := (B1.out.1.2 4 (by simp)).1
  have g5 : w1.cell? ⟨w.heap.size, 5, none⟩ = some (.bool flag) := (B1.out.1.2 5 (by simp)).1
  have g6 : w1.cell? ⟨w.heap.size, 6, none⟩ = some (.int .i64 ty.kind) := (B1.out.1.2 6 (by simp)).1
  have g7 : w1.cell? ⟨w.heap.size, 7, none⟩ = some (.int .i64 ty.len) := (B1.out.1.2 7 (by simp)).1
  have g8 : w1.cell? ⟨w.heap.size, 8, none⟩ = some (.string ty.name) := (B1.out.1.2 8 (by simp)).1
  have g9 : w1.cell? ⟨w.heap.size, 9, none⟩ = some (.slice a1 cols.length c1) := (B1.out.1.2 9 (by simp)).1
  have g10 : w1.cell? ⟨w.heap.size, 10, none⟩ = some (.slice a2 rules.length c2) := (B1.out.1.2 10 (by simp)).1
  have g11 : w1.cell? ⟨w.heap.size, 11, none⟩ = some (.slice a3 exprs.length c3) := (B1.out.1.2 11 (by simp)).1
  go_wp2_with fail
  refine (specPutName on _ Zo.out M HM.out).mono ?_
  rintro e w2 ⟨rfl, b2⟩
  have B2 := Lib.hid (B1.out.call b2)
  clear b2 g0 g1 g2 g3 g4 g5 g6 g7 g8 g9 g10 g11
  have g0 : w2.cell? ⟨w.heap.size, 0, none⟩ = some (.int .i64 12) := (B2.out.1.2 0 (by simp)).1
  have g1 : w2.cell? ⟨w.heap.size, 1, none⟩ = some (.string name) := (B2.out.1.2 1 (by simp)).1
  have g2 : w2.cell? ⟨w.heap.size, 2, none⟩ = some (.string on) := (B2.out.1.2 2 (by simp)).1
  have g3 : w2.cell? ⟨w.heap.size, 3, none⟩ = some (.slice a0 list.length c0) := (B2.out.1.2 3 (by simp)).1
  have g4 : w2.cell? ⟨w.heap.size, 4, none⟩ = some (.int .i64 num) := (B2.out.1.2 4 (by simp)).1
  have g5 : w2.cell? ⟨w.heap.size, 5, none⟩ = some (.bool flag) := (B2.out.1.2 5 (by simp)).1
  have g6 : w2.cell? ⟨w.heap.size, 6, none⟩ = some (.int .i64 ty.kind) := (B2.out.1.2 6 (by simp)).1
  have g7 : w2.cell? ⟨w.heap.size, 7, none⟩ = some (.int .i64 ty.len) := (B2.out.1.2 7 (by simp)).1
  have g8 : w2.cell? ⟨w.heap.size, 8, none⟩ = some (.string ty.name) := (B2.out.1.2 8 (by simp)).1
  have g9 : w2.cell? ⟨w.heap.size, 9, none⟩ = some (.slice a1 cols.length c1) := (B2.out.1.2 9 (by simp)).1
  have g10 : w2.cell? ⟨w.heap.size, 10, none⟩ = some (.slice a2 rules.length c2) := (B2.out.1.2 10 (by simp)).1
  have g11 : w2.cell? ⟨w.heap.size, 11, none⟩ = some (.slice a3 exprs.length c3) := (B2.out.1.2 11 (by simp)).1
  go_wp2_with fail
  refine (specPutName on _ Zo.out M HM.out).mono ?_
  rintro e w3 ⟨rfl, b3⟩
  have B3 := Lib.hid (B2.out.call b3)
  clear b3
  go_wp2_with fail
  go_ret
  exact ⟨by rw [HV.out] <;> rfl, B3.out.2⟩

end Go.Proofs.YtpdcmmhhgnackaaGreatDoor
