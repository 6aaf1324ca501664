/- The model's l08Create. Written by tools/gen_ps.py. -/
import Derived.Test.YtpdcmmhhgnackaaGreatDoorMTypeTextJ
import Derived.Test.YtpdcmmhhgnackaaGreatDoorMRulePS
namespace Go.Proofs.YtpdcmmhhgnackaaGreatDoor
open Go.RowKit

theorem joinT_le (xs : List ByteArray) (k : Nat) (h : ∀ s ∈ xs, s.size ≤ k) : (joinT xs (txt [44, 32])).size ≤ xs.length * (k + 2) := by
  have h1 := joinL_len xs (txt [44, 32]) xs.length (Nat.le_refl _)
  rw [List.take_length, show (txt [44, 32]).size = 2 from rfl] at h1
  have h2 : lets xs ≤ xs.length * k := by
    have := lets_map id xs k h
    simpa using this
  rw [joinT_size, Nat.mul_add]
  omega

theorem lets_leq (xs : List ByteArray) (k : Nat) (h : ∀ s ∈ xs, s.size ≤ k) : lets xs ≤ xs.length * k := by
  have := lets_map id xs k h
  simpa using this

theorem labS_small {s : ByteArray} (h : nmB s = true) : (labS s).size ≤ 82 := by
  have h1 := nmB_size h
  unfold labS
  have h2 := quoteL_len3 39 s.data.toList
  have h3 : (quoteT s 39).size = (quoteL 39 s.data.toList).length := by
    show (quoteL 39 s.data.toList).toArray.size = _
    simp
  have h4 : s.data.toList.length = s.size := by simp
  omega

set_option maxRecDepth 100000 in
set_option maxHeartbeats 8000000 in
theorem specCreate_2 (name on : ByteArray) (list : List ByteArray) (num : Int) (flag : Bool) (ty : Ty) (cols : List Co) (rules : List Ru) (exprs : List Ex) (a0 a1 a2 a3 : Option Addr) (c0 c1 c2 c3 : Nat) (w : World) (hnum : 0 ≤ num ∧ num ≤ 999999999) (HK : Hid (∀ w', Below w.heap.size w w' → Ss 0 w' a0 c0 list ∧ Sl 6 RCo 0 w' a1 c1 cols ∧ Sl 6 RRu 0 w' a2 c2 rules ∧ Ks 0 w' a3 c3 exprs)) (Zn : Hid (name.size ≤ 1048576)) (Zo : Hid (on.size ≤ 1048576)) (Zt : Hid (ty.name.size ≤ 1048576)) (Zc : Hid (∀ x ∈ cols, x.wt ≤ 1048576)) (Zr : Hid (∀ x ∈ rules, x.wt ≤ 1048576)) (Zx : Hid (∀ x ∈ exprs, x.wt ≤ 1048576)) (Zl : Hid (lets list ≤ 1048576)) (qn : nmB name = true) (r : ByteArray) (hr : joinT (parts_2 name on list num flag ty cols rules exprs) (txt [32]) = r) :
    Calls Tryz.prog 50 #[.agg #[.int .i64 2, .string name, .string on, .slice a0 list.length c0, .int .i64 num, .bool flag, .int .i64 ty.kind, .int .i64 ty.len, .string ty.name, .slice a1 cols.length c1, .slice a2 rules.length c2, .slice a3 exprs.length c3]] w fun e w' => e = .returned (.string r) ∧ Below w.heap.size w w' := by
  have HB := Lib.hid ((boxV_new w [.int .i64 2, .string name, .string on, .slice a0 list.length c0, .int .i64 num, .bool flag, .int .i64 ty.kind, .int .i64 ty.len, .string ty.name, .slice a1 cols.length c1, .slice a2 rules.length c2, .slice a3 exprs.length c3] 55).call ((Below.refl _ _).alloc (Nat.le_refl _) (.cells #[] 9)))
  obtain ⟨N, hN⟩ : ∃ N, nameT name = N := ⟨_, rfl⟩
  have zN : N.size ≤ 82 := by rw [← hN]; exact nameT_small qn
  have HN := Lib.hid hN
  obtain ⟨D, hD⟩ : ∃ D, dec num = D := ⟨_, rfl⟩
  have zD : D.size ≤ 21 := by rw [← hD]; exact dec_size num (by omega) (by omega)
  have y1 : (ByteArray.mk #[99, 114, 101, 97, 116, 101, 32, 115, 101, 113, 117, 101, 110, 99, 101, 32]).size = 16 := rfl
  have y2 : (ByteArray.mk #[32, 115, 116, 97, 114, 116, 32]).size = 7 := rfl
  obtain ⟨p1, hp1⟩ : ∃ p, p = (ByteArray.mk #[99, 114, 101, 97, 116, 101, 32, 115, 101, 113, 117, 101, 110, 99, 101, 32]) ++ N := ⟨_, rfl⟩
  have zp1 : p1.size ≤ 98 := by rw [hp1, ByteArray.size_append]; omega
  have adp1 := run_add Tryz.prog (ByteArray.mk #[99, 114, 101, 97, 116, 101, 32, 115, 101, 113, 117, 101, 110, 99, 101, 32]) N p1 hp1 (by omega)
  obtain ⟨p2, hp2⟩ : ∃ p, p = p1 ++ (ByteArray.mk #[32, 115, 116, 97, 114, 116, 32]) := ⟨_, rfl⟩
  have zp2 : p2.size ≤ 105 := by rw [hp2, ByteArray.size_append]; omega
  have adp2 := run_add Tryz.prog p1 (ByteArray.mk #[32, 115, 116, 97, 114, 116, 32]) p2 hp2 (by omega)
  obtain ⟨p3, hp3⟩ : ∃ p, p = p2 ++ D := ⟨_, rfl⟩
  have zp3 : p3.size ≤ 126 := by rw [hp3, ByteArray.size_append]; omega
  have adp3 := run_add Tryz.prog p2 D p3 hp3 (by omega)
  have HV : Hid (r = p3) := by
    unfold Hid
    rw [← hr, hp3, hp2, hp1]
    unfold parts_2
    simp only [List.cons_append, List.nil_append]
    rw [hN, hD, joinT_cons, joinT_cons, joinT_cons, joinT_one]
    apply ba_ext
    simp only [ba_list, List.append_assoc]
    rfl
  have HDc : Hid (∀ W, Calls Tryz.prog 68 #[.int .i64 num] W fun e w' => e = .returned (.string D) ∧ W = w') := fun W => by have h := specDecText num W (by omega) (by omega); rw [hD] at h; exact h
  clear hr hN hD hp1 hp2 hp3
  go_enter Tryz.func50, Tryz.ntmps50
  go_wp2_with fail
  have hst : Hid (∀ p q : World, ((p.cell? ⟨w.heap.size, 1, none⟩ = some (.string name) ∧ p.cell? ⟨w.heap.size, 4, none⟩ = some (.int .i64 num)) ∧ Hid (BoxV w [.int .i64 2, .string name, .string on, .slice a0 list.length c0, .int .i64 num, .bool flag, .int .i64 ty.kind, .int .i64 ty.len, .string ty.name, .slice a1 cols.length c1, .slice a2 rules.length c2, .slice a3 exprs.length c3] p)) → Below p.heap.size p q → ((q.cell? ⟨w.heap.size, 1, none⟩ = some (.string name) ∧ q.cell? ⟨w.heap.size, 4, none⟩ = some (.int .i64 num)) ∧ Hid (BoxV w [.int .i64 2, .string name, .string on, .slice a0 list.length c0, .int .i64 num, .bool flag, .int .i64 ty.kind, .int .i64 ty.len, .string ty.name, .slice a1 cols.length c1, .slice a2 rules.length c2, .slice a3 exprs.length c3] q))) := fun p q h hb => by
    have T := h.2.out.call hb
    exact ⟨⟨(T.1.2 1 (by simp)).1, (T.1.2 4 (by simp)).1⟩, T⟩
  have D0 := Lib.hid ((HB.out).call (below_drewE (Below.refl _ _)))
  have D1 := Lib.hid (HB.out)
  go_region_held3 (fun w' => (w'.cell? ⟨w.heap.size, 1, none⟩ = some (.string name) ∧ w'.cell? ⟨w.heap.size, 4, none⟩ = some (.int .i64 num)) ∧ Hid (BoxV w [.int .i64 2, .string name, .string on, .slice a0 list.length c0, .int .i64 num, .bool flag, .int .i64 ty.kind, .int .i64 ty.len, .string ty.name, .slice a1 cols.length c1, .slice a2 rules.length c2, .slice a3 exprs.length c3] w')) (first | assumption | exact ⟨⟨(D0.out.1.2 1 (by simp)).1, (D0.out.1.2 4 (by simp)).1⟩, D0.out⟩ | exact ⟨⟨(D1.out.1.2 1 (by simp)).1, (D1.out.1.2 4 (by simp)).1⟩, D1.out⟩ | exact hst.out _ _ (by assumption) ((Below.refl _ _).alloc (Nat.le_refl _) _))
    (first
      | (go_at_call 24; refine (specPutName name _ Zn.out N HN.out).mono ?_; rintro e wq ⟨rfl, bq⟩; have hq1 := hst.out _ _ (by assumption) bq)
      | (go_at_call 68; refine (HDc.out _).mono ?_; rintro e wz ⟨rfl, rfl⟩))
  go_wp2_with fail
  go_ret
  exact ⟨by rw [HV.out] <;> rfl, hq1.2.out.2⟩

set_option maxRecDepth 100000 in
set_option maxHeartbeats 8000000 in
theorem specCreate_13t (name on : ByteArray) (list : List ByteArray) (num : Int) (flag : Bool) (ty : Ty) (cols : List Co) (rules : List Ru) (exprs : List Ex) (a0 a1 a2 a3 : Option Addr) (c0 c1 c2 c3 : Nat) (w : World) (hfl : flag = true) (qo : nmB on = true) (hl : namesB list 12 = true) (HK : Hid (∀ w', Below w.heap.size w w' → Ss 0 w' a0 c0 list ∧ Sl 6 RCo 0 w' a1 c1 cols ∧ Sl 6 RRu 0 w' a2 c2 rules ∧ Ks 0 w' a3 c3 exprs)) (Zn : Hid (name.size ≤ 1048576)) (Zo : Hid (on.size ≤ 1048576)) (Zt : Hid (ty.name.size ≤ 1048576)) (Zc : Hid (∀ x ∈ cols, x.wt ≤ 1048576)) (Zr : Hid (∀ x ∈ rules, x.wt ≤ 1048576)) (Zx : Hid (∀ x ∈ exprs, x.wt ≤ 1048576)) (Zl : Hid (lets list ≤ 1048576)) (qn : nmB name = true) (r : ByteArray) (hr : joinT (parts_13 name on list num flag ty cols rules exprs) (txt [32]) = r) :
    Calls Tryz.prog 50 #[.agg #[.int .i64 13, .string name, .string on, .slice a0 list.length c0, .int .i64 num, .bool true, .int .i64 ty.kind, .int .i64 ty.len, .string ty.name, .slice a1 cols.length c1, .slice a2 rules.length c2, .slice a3 exprs.length c3]] w fun e w' => e = .returned (.string r) ∧ Below w.heap.size w w' := by
  subst hfl
  have HB := Lib.hid ((boxV_new w [.int .i64 13, .string name, .string on, .slice a0 list.length c0, .int .i64 num, .bool true, .int .i64 ty.kind, .int .i64 ty.len, .string ty.name, .slice a1 cols.length c1, .slice a2 rules.length c2, .slice a3 exprs.length c3] 55).call ((Below.refl _ _).alloc (Nat.le_refl _) (.cells #[] 9)))
  obtain ⟨n1, n2, n3⟩ := namesB_parts hl
  obtain ⟨nf, hnf⟩ : ∃ nf : ByteArray → ByteArray, nf = nameT := ⟨_, rfl⟩
  have zN : (nf name).size ≤ 82 := by rw [hnf]; exact nameT_small qn
  have zM : (nf on).size ≤ 82 := by rw [hnf]; exact nameT_small qo
  have HNf : Hid (∀ (x : ByteArray) (W : World), (x = name ∨ x = on) → Calls Tryz.prog 24 #[.string x] W fun e w' => e = .returned (.string (nf x)) ∧ Below W.heap.size W w') := by
    intro x W h
    rcases h with rfl | rfl
    · exact specPutName _ W Zn.out _ (by rw [hnf])
    · exact specPutName _ W Zo.out _ (by rw [hnf])
  obtain ⟨C, hC⟩ : ∃ C, listT list = C := ⟨_, rfl⟩
  have zC : C.size ≤ 1010 := by rw [← hC]; have := listT_size list n3; omega
  have HCl : Hid (∀ W, Strs W a0 c0 list → Calls Tryz.prog 39 #[.slice a0 list.length c0] W fun e w' => e = .returned (.string C) ∧ Below W.heap.size W w') := fun W h => specListT a0 c0 list W h (by omega) n3 C hC
  have y1 : (ByteArray.mk #[99, 114, 101, 97, 116, 101, 32, 117, 110, 105, 113, 117, 101, 32, 105, 110, 100, 101, 120, 32]).size = 20 := rfl
  have y2 : (ByteArray.mk #[32, 111, 110, 32]).size = 4 := rfl
  have y3 : (ByteArray.mk #[32]).size = 1 := rfl
  obtain ⟨p1, hp1⟩ : ∃ p, p = (ByteArray.mk #[99, 114, 101, 97, 116, 101, 32, 117, 110, 105, 113, 117, 101, 32, 105, 110, 100, 101, 120, 32]) ++ nf name := ⟨_, rfl⟩
  have zp1 : p1.size ≤ 102 := by rw [hp1, ByteArray.size_append]; omega
  have adp1 := run_add Tryz.prog (ByteArray.mk #[99, 114, 101, 97, 116, 101, 32, 117, 110, 105, 113, 117, 101, 32, 105, 110, 100, 101, 120, 32]) (nf name) p1 hp1 (by omega)
  obtain ⟨p2, hp2⟩ : ∃ p, p = p1 ++ (ByteArray.mk #[32, 111, 110, 32]) := ⟨_, rfl⟩
  have zp2 : p2.size ≤ 106 := by rw [hp2, ByteArray.size_append]; omega
  have adp2 := run_add Tryz.prog p1 (ByteArray.mk #[32, 111, 110, 32]) p2 hp2 (by omega)
  obtain ⟨p3, hp3⟩ : ∃ p, p = p2 ++ nf on := ⟨_, rfl⟩
  have zp3 : p3.size ≤ 188 := by rw [hp3, ByteArray.size_append]; omega
  have adp3 := run_add Tryz.prog p2 (nf on) p3 hp3 (by omega)
  obtain ⟨p4, hp4⟩ : ∃ p, p = p3 ++ (ByteArray.mk #[32]) := ⟨_, rfl⟩
  have zp4 : p4.size ≤ 189 := by rw [hp4, ByteArray.size_append]; omega
  have adp4 := run_add Tryz.prog p3 (ByteArray.mk #[32]) p4 hp4 (by omega)
  obtain ⟨p5, hp5⟩ : ∃ p, p = p4 ++ C := ⟨_, rfl⟩
  have zp5 : p5.size ≤ 1199 := by rw [hp5, ByteArray.size_append]; omega
  have adp5 := run_add Tryz.prog p4 C p5 hp5 (by omega)
  have HV : Hid (r = p5) := by
    unfold Hid
    rw [← hr, hp5, hp4, hp3, hp2, hp1]
    unfold parts_13
    simp only [if_true, if_false, Bool.false_eq_true, List.cons_append, List.nil_append]
    rw [hC, hnf, joinT_cons, joinT_cons, joinT_cons, joinT_cons, joinT_one]
    apply ba_ext
    simp only [ba_list, List.append_assoc]
    rfl
  clear hr hnf hC hp1 hp2 hp3 hp4 hp5
  go_enter Tryz.func50, Tryz.ntmps50
  go_wp2_with fail
  have hst : Hid (∀ p q : World, ((p.cell? ⟨w.heap.size, 1, none⟩ = some (.string name) ∧ p.cell? ⟨w.heap.size, 2, none⟩ = some (.string on) ∧ p.cell? ⟨w.heap.size, 3, none⟩ = some (.slice a0 list.length c0)) ∧ Hid (BoxV w [.int .i64 13, .string name, .string on, .slice a0 list.length c0, .int .i64 num, .bool true, .int .i64 ty.kind, .int .i64 ty.len, .string ty.name, .slice a1 cols.length c1, .slice a2 rules.length c2, .slice a3 exprs.length c3] p)) → Below p.heap.size p q → ((q.cell? ⟨w.heap.size, 1, none⟩ = some (.string name) ∧ q.cell? ⟨w.heap.size, 2, none⟩ = some (.string on) ∧ q.cell? ⟨w.heap.size, 3, none⟩ = some (.slice a0 list.length c0)) ∧ Hid (BoxV w [.int .i64 13, .string name, .string on, .slice a0 list.length c0, .int .i64 num, .bool true, .int .i64 ty.kind, .int .i64 ty.len, .string ty.name, .slice a1 cols.length c1, .slice a2 rules.length c2, .slice a3 exprs.length c3] q))) := fun p q h hb => by
    have T := h.2.out.call hb
    exact ⟨⟨(T.1.2 1 (by simp)).1, (T.1.2 2 (by simp)).1, (T.1.2 3 (by simp)).1⟩, T⟩
  have D0 := Lib.hid ((HB.out).call (below_drewE (Below.refl _ _)))
  have D1 := Lib.hid (HB.out)
  go_region_held3 (fun w' => (w'.cell? ⟨w.heap.size, 1, none⟩ = some (.string name) ∧ w'.cell? ⟨w.heap.size, 2, none⟩ = some (.string on) ∧ w'.cell? ⟨w.heap.size, 3, none⟩ = some (.slice a0 list.length c0)) ∧ Hid (BoxV w [.int .i64 13, .string name, .string on, .slice a0 list.length c0, .int .i64 num, .bool true, .int .i64 ty.kind, .int .i64 ty.len, .string ty.name, .slice a1 cols.length c1, .slice a2 rules.length c2, .slice a3 exprs.length c3] w')) (first | assumption | exact ⟨⟨(D0.out.1.2 1 (by simp)).1, (D0.out.1.2 2 (by simp)).1, (D0.out.1.2 3 (by simp)).1⟩, D0.out⟩ | exact ⟨⟨(D1.out.1.2 1 (by simp)).1, (D1.out.1.2 2 (by simp)).1, (D1.out.1.2 3 (by simp)).1⟩, D1.out⟩ | exact hst.out _ _ (by assumption) ((Below.refl _ _).alloc (Nat.le_refl _) _))
    (first
      | (go_at_call 24; refine (HNf.out _ _ (by first | exact .inl rfl | exact .inr rfl)).mono ?_; rintro e wq ⟨rfl, bq⟩; have hq1 := hst.out _ _ (by assumption) bq)
      | (go_at_call 39; refine (HCl.out _ (HK.out _ (And.right (by assumption : _ ∧ Hid (BoxV w [.int .i64 13, .string name, .string on, .slice a0 list.length c0, .int .i64 num, .bool true, .int .i64 ty.kind, .int .i64 ty.len, .string ty.name, .slice a1 cols.length c1, .slice a2 rules.length c2, .slice a3 exprs.length c3] _))).out.2).1.1).mono ?_; rintro e wz ⟨rfl, bz⟩; have hz1 := hst.out _ _ (by assumption) bz))
  go_wp2_with fail
  go_ret
  exact ⟨by rw [HV.out] <;> rfl, hz1.2.out.2⟩

set_option maxRecDepth 100000 in
set_option maxHeartbeats 8000000 in
theorem specCreate_13f (name on : ByteArray) (list : List ByteArray) (num : Int) (flag : Bool) (ty : Ty) (cols : List Co) (rules : List Ru) (exprs : List Ex) (a0 a1 a2 a3 : Option Addr) (c0 c1 c2 c3 : Nat) (w : World) (hfl : flag = false) (qo : nmB on = true) (hl : namesB list 12 = true) (HK : Hid (∀ w', Below w.heap.size w w' → Ss 0 w' a0 c0 list ∧ Sl 6 RCo 0 w' a1 c1 cols ∧ Sl 6 RRu 0 w' a2 c2 rules ∧ Ks 0 w' a3 c3 exprs)) (Zn : Hid (name.size ≤ 1048576)) (Zo : Hid (on.size ≤ 1048576)) (Zt : Hid (ty.name.size ≤ 1048576)) (Zc : Hid (∀ x ∈ cols, x.wt ≤ 1048576)) (Zr : Hid (∀ x ∈ rules, x.wt ≤ 1048576)) (Zx : Hid (∀ x ∈ exprs, x.wt ≤ 1048576)) (Zl : Hid (lets list ≤ 1048576)) (qn : nmB name = true) (r : ByteArray) (hr : joinT (parts_13 name on list num flag ty cols rules exprs) (txt [32]) = r) :
    Calls Tryz.prog 50 #[.agg #[.int .i64 13, .string name, .string on, .slice a0 list.length c0, .int .i64 num, .bool false, .int .i64 ty.kind, .int .i64 ty.len, .string ty.name, .slice a1 cols.length c1, .slice a2 rules.length c2, .slice a3 exprs.length c3]] w fun e w' => e = .returned (.string r) ∧ Below w.heap.size w w' := by
  subst hfl
  have HB := Lib.hid ((boxV_new w [.int .i64 13, .string name, .string on, .slice a0 list.length c0, .int .i64 num, .bool false, .int .i64 ty.kind, .int .i64 ty.len, .string ty.name, .slice a1 cols.length c1, .slice a2 rules.length c2, .slice a3 exprs.length c3] 55).call ((Below.refl _ _).alloc (Nat.le_refl _) (.cells #[] 9)))
  obtain ⟨n1, n2, n3⟩ := namesB_parts hl
  obtain ⟨nf, hnf⟩ : ∃ nf : ByteArray → ByteArray, nf = nameT := ⟨_, rfl⟩
  have zN : (nf name).size ≤ 82 := by rw [hnf]; exact nameT_small qn
  have zM : (nf on).size ≤ 82 := by rw [hnf]; exact nameT_small qo
  have HNf : Hid (∀ (x : ByteArray) (W : World), (x = name ∨ x = on) → Calls Tryz.prog 24 #[.string x] W fun e w' => e = .returned (.string (nf x)) ∧ Below W.heap.size W w') := by
    intro x W h
    rcases h with rfl | rfl
    · exact specPutName _ W Zn.out _ (by rw [hnf])
    · exact specPutName _ W Zo.out _ (by rw [hnf])
  obtain ⟨C, hC⟩ : ∃ C, listT list = C := ⟨_, rfl⟩
  have zC : C.size ≤ 1010 := by rw [← hC]; have := listT_size list n3; omega
  have HCl : Hid (∀ W, Strs W a0 c0 list → Calls Tryz.prog 39 #[.slice a0 list.length c0] W fun e w' => e = .returned (.string C) ∧ Below W.heap.size W w') := fun W h => specListT a0 c0 list W h (by omega) n3 C hC
  have y1 : (ByteArray.mk #[99, 114, 101, 97, 116, 101, 32, 105, 110, 100, 101, 120, 32]).size = 13 := rfl
  have y2 : (ByteArray.mk #[32, 111, 110, 32]).size = 4 := rfl
  have y3 : (ByteArray.mk #[32]).size = 1 := rfl
  obtain ⟨p1, hp1⟩ : ∃ p, p = (ByteArray.mk #[99, 114, 101, 97, 116, 101, 32, 105, 110, 100, 101, 120, 32]) ++ nf name := ⟨_, rfl⟩
  have zp1 : p1.size ≤ 95 := by rw [hp1, ByteArray.size_append]; omega
  have adp1 := run_add Tryz.prog (ByteArray.mk #[99, 114, 101, 97, 116, 101, 32, 105, 110, 100, 101, 120, 32]) (nf name) p1 hp1 (by omega)
  obtain ⟨p2, hp2⟩ : ∃ p, p = p1 ++ (ByteArray.mk #[32, 111, 110, 32]) := ⟨_, rfl⟩
  have zp2 : p2.size ≤ 99 := by rw [hp2, ByteArray.size_append]; omega
  have adp2 := run_add Tryz.prog p1 (ByteArray.mk #[32, 111, 110, 32]) p2 hp2 (by omega)
  obtain ⟨p3, hp3⟩ : ∃ p, p = p2 ++ nf on := ⟨_, rfl⟩
  have zp3 : p3.size ≤ 181 := by rw [hp3, ByteArray.size_append]; omega
  have adp3 := run_add Tryz.prog p2 (nf on) p3 hp3 (by omega)
  obtain ⟨p4, hp4⟩ : ∃ p, p = p3 ++ (ByteArray.mk #[32]) := ⟨_, rfl⟩
  have zp4 : p4.size ≤ 182 := by rw [hp4, ByteArray.size_append]; omega
  have adp4 := run_add Tryz.prog p3 (ByteArray.mk #[32]) p4 hp4 (by omega)
  obtain ⟨p5, hp5⟩ : ∃ p, p = p4 ++ C := ⟨_, rfl⟩
  have zp5 : p5.size ≤ 1192 := by rw [hp5, ByteArray.size_append]; omega
  have adp5 := run_add Tryz.prog p4 C p5 hp5 (by omega)
  have HV : Hid (r = p5) := by
    unfold Hid
    rw [← hr, hp5, hp4, hp3, hp2, hp1]
    unfold parts_13
    simp only [if_true, if_false, Bool.false_eq_true, List.cons_append, List.nil_append]
    rw [hC, hnf, joinT_cons, joinT_cons, joinT_cons, joinT_cons, joinT_one]
    apply ba_ext
    simp only [ba_list, List.append_assoc]
    rfl
  clear hr hnf hC hp1 hp2 hp3 hp4 hp5
  go_enter Tryz.func50, Tryz.ntmps50
  go_wp2_with fail
  have hst : Hid (∀ p q : World, ((p.cell? ⟨w.heap.size, 1, none⟩ = some (.string name) ∧ p.cell? ⟨w.heap.size, 2, none⟩ = some (.string on) ∧ p.cell? ⟨w.heap.size, 3, none⟩ = some (.slice a0 list.length c0)) ∧ Hid (BoxV w [.int .i64 13, .string name, .string on, .slice a0 list.length c0, .int .i64 num, .bool false, .int .i64 ty.kind, .int .i64 ty.len, .string ty.name, .slice a1 cols.length c1, .slice a2 rules.length c2, .slice a3 exprs.length c3] p)) → Below p.heap.size p q → ((q.cell? ⟨w.heap.size, 1, none⟩ = some (.string name) ∧ q.cell? ⟨w.heap.size, 2, none⟩ = some (.string on) ∧ q.cell? ⟨w.heap.size, 3, none⟩ = some (.slice a0 list.length c0)) ∧ Hid (BoxV w [.int .i64 13, .string name, .string on, .slice a0 list.length c0, .int .i64 num, .bool false, .int .i64 ty.kind, .int .i64 ty.len, .string ty.name, .slice a1 cols.length c1, .slice a2 rules.length c2, .slice a3 exprs.length c3] q))) := fun p q h hb => by
    have T := h.2.out.call hb
    exact ⟨⟨(T.1.2 1 (by simp)).1, (T.1.2 2 (by simp)).1, (T.1.2 3 (by simp)).1⟩, T⟩
  have D0 := Lib.hid ((HB.out).call (below_drewE (Below.refl _ _)))
  have D1 := Lib.hid (HB.out)
  go_region_held3 (fun w' => (w'.cell? ⟨w.heap.size, 1, none⟩ = some (.string name) ∧ w'.cell? ⟨w.heap.size, 2, none⟩ = some (.string on) ∧ w'.cell? ⟨w.heap.size, 3, none⟩ = some (.slice a0 list.length c0)) ∧ Hid (BoxV w [.int .i64 13, .string name, .string on, .slice a0 list.length c0, .int .i64 num, .bool false, .int .i64 ty.kind, .int .i64 ty.len, .string ty.name, .slice a1 cols.length c1, .slice a2 rules.length c2, .slice a3 exprs.length c3] w')) (first | assumption | exact ⟨⟨(D0.out.1.2 1 (by simp)).1, (D0.out.1.2 2 (by simp)).1, (D0.out.1.2 3 (by simp)).1⟩, D0.out⟩ | exact ⟨⟨(D1.out.1.2 1 (by simp)).1, (D1.out.1.2 2 (by simp)).1, (D1.out.1.2 3 (by simp)).1⟩, D1.out⟩ | exact hst.out _ _ (by assumption) ((Below.refl _ _).alloc (Nat.le_refl _) _))
    (first
      | (go_at_call 24; refine (HNf.out _ _ (by first | exact .inl rfl | exact .inr rfl)).mono ?_; rintro e wq ⟨rfl, bq⟩; have hq1 := hst.out _ _ (by assumption) bq)
      | (go_at_call 39; refine (HCl.out _ (HK.out _ (And.right (by assumption : _ ∧ Hid (BoxV w [.int .i64 13, .string name, .string on, .slice a0 list.length c0, .int .i64 num, .bool false, .int .i64 ty.kind, .int .i64 ty.len, .string ty.name, .slice a1 cols.length c1, .slice a2 rules.length c2, .slice a3 exprs.length c3] _))).out.2).1.1).mono ?_; rintro e wz ⟨rfl, bz⟩; have hz1 := hst.out _ _ (by assumption) bz))
  go_wp2_with fail
  go_ret
  exact ⟨by rw [HV.out] <;> rfl, hz1.2.out.2⟩

set_option maxRecDepth 100000 in
set_option maxHeartbeats 8000000 in
theorem specCreate_15n (name on : ByteArray) (list : List ByteArray) (num : Int) (flag : Bool) (ty : Ty) (cols : List Co) (rules : List Ru) (exprs : List Ex) (a0 a1 a2 a3 : Option Addr) (c0 c1 c2 c3 : Nat) (w : World) (hex : exprs = []) (qo : nmB on = true) (hl : namesB list 12 = true) (HK : Hid (∀ w', Below w.heap.size w w' → Ss 0 w' a0 c0 list ∧ Sl 6 RCo 0 w' a1 c1 cols ∧ Sl 6 RRu 0 w' a2 c2 rules ∧ Ks 0 w' a3 c3 exprs)) (Zn : Hid (name.size ≤ 1048576)) (Zo : Hid (on.size ≤ 1048576)) (Zt : Hid (ty.name.size ≤ 1048576)) (Zc : Hid (∀ x ∈ cols, x.wt ≤ 1048576)) (Zr : Hid (∀ x ∈ rules, x.wt ≤ 1048576)) (Zx : Hid (∀ x ∈ exprs, x.wt ≤ 1048576)) (Zl : Hid (lets list ≤ 1048576)) (qn : nmB name = true) (r : ByteArray) (hr : joinT (parts_15 name on list num flag ty cols rules exprs) (txt [32]) = r) :
    Calls Tryz.prog 50 #[.agg #[.int .i64 15, .string name, .string on, .slice a0 list.length c0, .int .i64 num, .bool flag, .int .i64 ty.kind, .int .i64 ty.len, .string ty.name, .slice a1 cols.length c1, .slice a2 rules.length c2, .slice a3 ([] : List Ex).length c3]] w fun e w' => e = .returned (.string r) ∧ Below w.heap.size w w' := by
  subst hex
  have HB := Lib.hid ((boxV_new w [.int .i64 15, .string name, .string on, .slice a0 list.length c0, .int .i64 num, .bool flag, .int .i64 ty.kind, .int .i64 ty.len, .string ty.name, .slice a1 cols.length c1, .slice a2 rules.length c2, .slice a3 ([] : List Ex).length c3] 55).call ((Below.refl _ _).alloc (Nat.le_refl _) (.cells #[] 9)))
  obtain ⟨n1, n2, n3⟩ := namesB_parts hl
  obtain ⟨nf, hnf⟩ : ∃ nf : ByteArray → ByteArray, nf = nameT := ⟨_, rfl⟩
  have zN : (nf name).size ≤ 82 := by rw [hnf]; exact nameT_small qn
  have zM : (nf on).size ≤ 82 := by rw [hnf]; exact nameT_small qo
  have HNf : Hid (∀ (x : ByteArray) (W : World), (x = name ∨ x = on) → Calls Tryz.prog 24 #[.string x] W fun e w' => e = .returned (.string (nf x)) ∧ Below W.heap.size W w') := by
    intro x W h
    rcases h with rfl | rfl
    · exact specPutName _ W Zn.out _ (by rw [hnf])
    · exact specPutName _ W Zo.out _ (by rw [hnf])
  obtain ⟨J, hJ⟩ : ∃ J, joinT (list.map nameT) (txt [44, 32]) = J := ⟨_, rfl⟩
  have zJ : J.size ≤ 1010 := by
    rw [← hJ]
    have := joinT_le (list.map nameT) 82 (by intro t ht; obtain ⟨u, hu, rfl⟩ := List.mem_map.1 ht; exact nameT_small (n3 u hu))
    rw [List.length_map] at this
    omega
  obtain ⟨C, hC⟩ : ∃ C, txt [40] ++ J ++ txt [41] = C := ⟨_, rfl⟩
  have zC : C.size = J.size + 2 := by rw [← hC, ByteArray.size_append, ByteArray.size_append, show (txt [40]).size = 1 from rfl, show (txt [41]).size = 1 from rfl]; omega
  have hcut : C.extract 1 (C.size - 1) = J := by
    rw [zC, ← hC]
    apply ba_ext
    have e40 : (txt [40]).data.toList = [40] := rfl
    have e41 : (txt [41]).data.toList = [41] := rfl
    have eJ : J.data.toList.length = J.size := by simp
    simp only [ByteArray.data_extract, Array.toList_extract, ba_list, e40, e41, List.extract_eq_take_drop]
    rw [show J.size + 2 - 1 - 1 = J.data.toList.length by rw [eJ]; omega]
    simp
  have hsl : ∀ W, (Instr.slice 9 (.string C) (some (.int .i64 1)) (some (.int .i64 ((C.size : Int) - 1))) none).run Tryz.prog W = .ok (.string J) W := by
    intro W
    have h := run_slice_string (P := Tryz.prog) W 9 C .i64 .i64 1 ((C.size : Int) - 1) Tryz.underlying9 (by omega) (by omega) (by rw [zC]; omega)
    rw [show ((C.size : Int) - 1).toNat = C.size - 1 by omega, show (1 : Int).toNat = 1 from rfl, hcut] at h
    exact h
  have HCl : Hid (∀ W, Strs W a0 c0 list → Calls Tryz.prog 39 #[.slice a0 list.length c0] W fun e w' => e = .returned (.string C) ∧ Below W.heap.size W w') := fun W h => specListT a0 c0 list W h (by omega) n3 C (by unfold listT; rw [hJ, hC])
  have y1 : (ByteArray.mk #[99, 114, 101, 97, 116, 101, 32, 118, 105, 101, 119, 32]).size = 12 := rfl
  have y2 : (ByteArray.mk #[32, 97, 115, 32, 115, 101, 108, 101, 99, 116, 32]).size = 11 := rfl
  have y3 : (ByteArray.mk #[32, 102, 114, 111, 109, 32]).size = 6 := rfl
  have y4 : (ByteArray.mk #[32, 119, 104, 101, 114, 101, 32]).size = 7 := rfl
  obtain ⟨p1, hp1⟩ : ∃ p, p = (ByteArray.mk #[99, 114, 101, 97, 116, 101, 32, 118, 105, 101, 119, 32]) ++ nf name := ⟨_, rfl⟩
  have zp1 : p1.size ≤ 94 := by rw [hp1, ByteArray.size_append]; omega
  have adp1 := run_add Tryz.prog (ByteArray.mk #[99, 114, 101, 97, 116, 101, 32, 118, 105, 101, 119, 32]) (nf name) p1 hp1 (by omega)
  obtain ⟨p2, hp2⟩ : ∃ p, p = p1 ++ (ByteArray.mk #[32, 97, 115, 32, 115, 101, 108, 101, 99, 116, 32]) := ⟨_, rfl⟩
  have zp2 : p2.size ≤ 105 := by rw [hp2, ByteArray.size_append]; omega
  have adp2 := run_add Tryz.prog p1 (ByteArray.mk #[32, 97, 115, 32, 115, 101, 108, 101, 99, 116, 32]) p2 hp2 (by omega)
  obtain ⟨p3, hp3⟩ : ∃ p, p = p2 ++ J := ⟨_, rfl⟩
  have zp3 : p3.size ≤ 1115 := by rw [hp3, ByteArray.size_append]; omega
  have adp3 := run_add Tryz.prog p2 J p3 hp3 (by omega)
  obtain ⟨p4, hp4⟩ : ∃ p, p = p3 ++ (ByteArray.mk #[32, 102, 114, 111, 109, 32]) := ⟨_, rfl⟩
  have zp4 : p4.size ≤ 1121 := by rw [hp4, ByteArray.size_append]; omega
  have adp4 := run_add Tryz.prog p3 (ByteArray.mk #[32, 102, 114, 111, 109, 32]) p4 hp4 (by omega)
  obtain ⟨p5, hp5⟩ : ∃ p, p = p4 ++ nf on := ⟨_, rfl⟩
  have zp5 : p5.size ≤ 1203 := by rw [hp5, ByteArray.size_append]; omega
  have adp5 := run_add Tryz.prog p4 (nf on) p5 hp5 (by omega)
  have HV : Hid (r = p5) := by
    unfold Hid
    rw [← hr, hp5, hp4, hp3, hp2, hp1]
    unfold parts_15 dfL
    simp only [List.cons_append, List.nil_append, List.append_nil]
    rw [hJ, hnf, joinT_cons, joinT_cons, joinT_cons, joinT_cons, joinT_cons, joinT_one]
    apply ba_ext
    simp only [ba_list, List.append_assoc]
    rfl
  have zC1 : C.size ≤ 1012 := by omega
  have zC2 : 2 ≤ C.size := by omega
  clear zC
  clear hr hnf hC hJ hcut hp1 hp2 hp3 hp4 hp5
  go_enter Tryz.func50, Tryz.ntmps50
  go_wp2_with fail
  generalize (w.alloc (.cells #[.int .i64 15, .string name, .string on, .slice a0 list.length c0, .int .i64 num, .bool flag, .int .i64 ty.kind, .int .i64 ty.len, .string ty.name, .slice a1 cols.length c1, .slice a2 rules.length c2, .slice a3 ([] : List Ex).length c3] 55)).alloc (.cells #[] 9) = W0 at HB ⊢
  have g0 : W0.cell? ⟨w.heap.size, 0, none⟩ = some (.int .i64 15) := (HB.out.1.2 0 (by simp)).1
  have g1 : W0.cell? ⟨w.heap.size, 1, none⟩ = some (.string name) := (HB.out.1.2 1 (by simp)).1
  have g2 : W0.cell? ⟨w.heap.size, 2, none⟩ = some (.string on) := (HB.out.1.2 2 (by simp)).1
  have g3 : W0.cell? ⟨w.heap.size, 3, none⟩ = some (.slice a0 list.length c0) := (HB.out.1.2 3 (by simp)).1
  have g4 : W0.cell? ⟨w.heap.size, 4, none⟩ = some (.int .i64 num) := (HB.out.1.2 4 (by simp)).1
  have g5 : W0.cell? ⟨w.heap.size, 5, none⟩ = some (.bool flag) := (HB.out.1.2 5 (by simp)).1
  have g6 : W0.cell? ⟨w.heap.size, 6, none⟩ = some (.int .i64 ty.kind) := (HB.out.1.2 6 (by simp)).1
  have g7 : W0.cell? ⟨w.heap.size, 7, none⟩ = some (.int .i64 ty.len) := (HB.out.1.2 7 (by simp)).1
  have g8 : W0.cell? ⟨w.heap.size, 8, none⟩ = some (.string ty.name) := (HB.out.1.2 8 (by simp)).1
  have g9 : W0.cell? ⟨w.heap.size, 9, none⟩ = some (.slice a1 cols.length c1) := (HB.out.1.2 9 (by simp)).1
  have g10 : W0.cell? ⟨w.heap.size, 10, none⟩ = some (.slice a2 rules.length c2) := (HB.out.1.2 10 (by simp)).1
  have g11 : W0.cell? ⟨w.heap.size, 11, none⟩ = some (.slice a3 ([] : List Ex).length c3) := (HB.out.1.2 11 (by simp)).1
  refine (HCl.out _ (HK.out _ HB.out.2).1.1).mono ?_
  rintro e w1 ⟨rfl, b1⟩
  have B1 := Lib.hid (HB.out.call b1)
  clear b1 g0 g1 g2 g3 g4 g5 g6 g7 g8 g9 g10 g11
  have hsub : IntKind.i64.wrap ((C.size : Int) - 1) = (C.size : Int) - 1 := IntWalk.i64_in _ (by omega)
  go_wp2_with fail
  have hst : Hid (∀ p q : World, ((p.cell? ⟨w.heap.size, 1, none⟩ = some (.string name) ∧ p.cell? ⟨w.heap.size, 2, none⟩ = some (.string on)) ∧ Hid (BoxV w [.int .i64 15, .string name, .string on, .slice a0 list.length c0, .int .i64 num, .bool flag, .int .i64 ty.kind, .int .i64 ty.len, .string ty.name, .slice a1 cols.length c1, .slice a2 rules.length c2, .slice a3 ([] : List Ex).length c3] p)) → Below p.heap.size p q → ((q.cell? ⟨w.heap.size, 1, none⟩ = some (.string name) ∧ q.cell? ⟨w.heap.size, 2, none⟩ = some (.string on)) ∧ Hid (BoxV w [.int .i64 15, .string name, .string on, .slice a0 list.length c0, .int .i64 num, .bool flag, .int .i64 ty.kind, .int .i64 ty.len, .string ty.name, .slice a1 cols.length c1, .slice a2 rules.length c2, .slice a3 ([] : List Ex).length c3] q))) := fun p q h hb => by
    have T := h.2.out.call hb
    exact ⟨⟨(T.1.2 1 (by simp)).1, (T.1.2 2 (by simp)).1⟩, T⟩
  have D0 := Lib.hid ((B1.out).call (below_drewE (Below.refl _ _)))
  have D1 := Lib.hid (B1.out)
  go_region_held3 (fun w' => (w'.cell? ⟨w.heap.size, 1, none⟩ = some (.string name) ∧ w'.cell? ⟨w.heap.size, 2, none⟩ = some (.string on)) ∧ Hid (BoxV w [.int .i64 15, .string name, .string on, .slice a0 list.length c0, .int .i64 num, .bool flag, .int .i64 ty.kind, .int .i64 ty.len, .string ty.name, .slice a1 cols.length c1, .slice a2 rules.length c2, .slice a3 ([] : List Ex).length c3] w')) (first | assumption | exact ⟨⟨(D0.out.1.2 1 (by simp)).1, (D0.out.1.2 2 (by simp)).1⟩, D0.out⟩ | exact ⟨⟨(D1.out.1.2 1 (by simp)).1, (D1.out.1.2 2 (by simp)).1⟩, D1.out⟩ | exact hst.out _ _ (by assumption) ((Below.refl _ _).alloc (Nat.le_refl _) _))
    (first
      | (go_at_call 24; refine (HNf.out _ _ (by first | exact .inl rfl | exact .inr rfl)).mono ?_; rintro e wq ⟨rfl, bq⟩; have hq1 := hst.out _ _ (by assumption) bq))
  have B2 := Lib.hid hq1.2.out
  clear hst D0 D1
  have g11 : wq.cell? ⟨w.heap.size, 11, none⟩ = some (.slice a3 ([] : List Ex).length c3) := (B2.out.1.2 11 (by simp)).1
  simp only [List.length_nil] at g11
  go_wp2_with fail
  go_ret
  exact ⟨by rw [HV.out] <;> rfl, B2.out.2⟩

set_option maxRecDepth 100000 in
set_option maxHeartbeats 8000000 in
theorem specCreate_15e (name on : ByteArray) (list : List ByteArray) (num : Int) (flag : Bool) (ty : Ty) (cols : List Co) (rules : List Ru) (exprs : List Ex) (a0 a1 a2 a3 : Option Addr) (c0 c1 c2 c3 : Nat) (w : World) (e1 : Ex) (hex : exprs = [e1]) (hok : okX e1 = true) (qo : nmB on = true) (hl : namesB list 12 = true) (HK : Hid (∀ w', Below w.heap.size w w' → Ss 0 w' a0 c0 list ∧ Sl 6 RCo 0 w' a1 c1 cols ∧ Sl 6 RRu 0 w' a2 c2 rules ∧ Ks 0 w' a3 c3 exprs)) (Zn : Hid (name.size ≤ 1048576)) (Zo : Hid (on.size ≤ 1048576)) (Zt : Hid (ty.name.size ≤ 1048576)) (Zc : Hid (∀ x ∈ cols, x.wt ≤ 1048576)) (Zr : Hid (∀ x ∈ rules, x.wt ≤ 1048576)) (Zx : Hid (∀ x ∈ exprs, x.wt ≤ 1048576)) (Zl : Hid (lets list ≤ 1048576)) (qn : nmB name = true) (r : ByteArray) (hr : joinT (parts_15 name on list num flag ty cols rules exprs) (txt [32]) = r) :
    Calls Tryz.prog 50 #[.agg #[.int .i64 15, .string name, .string on, .slice a0 list.length c0, .int .i64 num, .bool flag, .int .i64 ty.kind, .int .i64 ty.len, .string ty.name, .slice a1 cols.length c1, .slice a2 rules.length c2, .slice a3 [e1].length c3]] w fun e w' => e = .returned (.string r) ∧ Below w.heap.size w w' := by
  subst hex
  have HB := Lib.hid ((boxV_new w [.int .i64 15, .string name, .string on, .slice a0 list.length c0, .int .i64 num, .bool flag, .int .i64 ty.kind, .int .i64 ty.len, .string ty.name, .slice a1 cols.length c1, .slice a2 rules.length c2, .slice a3 [e1].length c3] 55).call ((Below.refl _ _).alloc (Nat.le_refl _) (.cells #[] 9)))
  obtain ⟨n1, n2, n3⟩ := namesB_parts hl
  obtain ⟨nf, hnf⟩ : ∃ nf : ByteArray → ByteArray, nf = nameT := ⟨_, rfl⟩
  have zN : (nf name).size ≤ 82 := by rw [hnf]; exact nameT_small qn
  have zM : (nf on).size ≤ 82 := by rw [hnf]; exact nameT_small qo
  have HNf : Hid (∀ (x : ByteArray) (W : World), (x = name ∨ x = on) → Calls Tryz.prog 24 #[.string x] W fun e w' => e = .returned (.string (nf x)) ∧ Below W.heap.size W w') := by
    intro x W h
    rcases h with rfl | rfl
    · exact specPutName _ W Zn.out _ (by rw [hnf])
    · exact specPutName _ W Zo.out _ (by rw [hnf])
  obtain ⟨J, hJ⟩ : ∃ J, joinT (list.map nameT) (txt [44, 32]) = J := ⟨_, rfl⟩
  have zJ : J.size ≤ 1010 := by
    rw [← hJ]
    have := joinT_le (list.map nameT) 82 (by intro t ht; obtain ⟨u, hu, rfl⟩ := List.mem_map.1 ht; exact nameT_small (n3 u hu))
    rw [List.length_map] at this
    omega
  obtain ⟨C, hC⟩ : ∃ C, txt [40] ++ J ++ txt [41] = C := ⟨_, rfl⟩
  have zC : C.size = J.size + 2 := by rw [← hC, ByteArray.size_append, ByteArray.size_append, show (txt [40]).size = 1 from rfl, show (txt [41]).size = 1 from rfl]; omega
  have hcut : C.extract 1 (C.size - 1) = J := by
    rw [zC, ← hC]
    apply ba_ext
    have e40 : (txt [40]).data.toList = [40] := rfl
    have e41 : (txt [41]).data.toList = [41] := rfl
    have eJ : J.data.toList.length = J.size := by simp
    simp only [ByteArray.data_extract, Array.toList_extract, ba_list, e40, e41, List.extract_eq_take_drop]
    rw [show J.size + 2 - 1 - 1 = J.data.toList.length by rw [eJ]; omega]
    simp
  have hsl : ∀ W, (Instr.slice 9 (.string C) (some (.int .i64 1)) (some (.int .i64 ((C.size : Int) - 1))) none).run Tryz.prog W = .ok (.string J) W := by
    intro W
    have h := run_slice_string (P := Tryz.prog) W 9 C .i64 .i64 1 ((C.size : Int) - 1) Tryz.underlying9 (by omega) (by omega) (by rw [zC]; omega)
    rw [show ((C.size : Int) - 1).toNat = C.size - 1 by omega, show (1 : Int).toNat = 1 from rfl, hcut] at h
    exact h
  have HCl : Hid (∀ W, Strs W a0 c0 list → Calls Tryz.prog 39 #[.slice a0 list.length c0] W fun e w' => e = .returned (.string C) ∧ Below W.heap.size W w') := fun W h => specListT a0 c0 list W h (by omega) n3 C (by unfold listT; rw [hJ, hC])
  have y1 : (ByteArray.mk #[99, 114, 101, 97, 116, 101, 32, 118, 105, 101, 119, 32]).size = 12 := rfl
  have y2 : (ByteArray.mk #[32, 97, 115, 32, 115, 101, 108, 101, 99, 116, 32]).size = 11 := rfl
  have y3 : (ByteArray.mk #[32, 102, 114, 111, 109, 32]).size = 6 := rfl
  have y4 : (ByteArray.mk #[32, 119, 104, 101, 114, 101, 32]).size = 7 := rfl
  obtain ⟨p1, hp1⟩ : ∃ p, p = (ByteArray.mk #[99, 114, 101, 97, 116, 101, 32, 118, 105, 101, 119, 32]) ++ nf name := ⟨_, rfl⟩
  have zp1 : p1.size ≤ 94 := by rw [hp1, ByteArray.size_append]; omega
  have adp1 := run_add Tryz.prog (ByteArray.mk #[99, 114, 101, 97, 116, 101, 32, 118, 105, 101, 119, 32]) (nf name) p1 hp1 (by omega)
  obtain ⟨p2, hp2⟩ : ∃ p, p = p1 ++ (ByteArray.mk #[32, 97, 115, 32, 115, 101, 108, 101, 99, 116, 32]) := ⟨_, rfl⟩
  have zp2 : p2.size ≤ 105 := by rw [hp2, ByteArray.size_append]; omega
  have adp2 := run_add Tryz.prog p1 (ByteArray.mk #[32, 97, 115, 32, 115, 101, 108, 101, 99, 116, 32]) p2 hp2 (by omega)
  obtain ⟨p3, hp3⟩ : ∃ p, p = p2 ++ J := ⟨_, rfl⟩
  have zp3 : p3.size ≤ 1115 := by rw [hp3, ByteArray.size_append]; omega
  have adp3 := run_add Tryz.prog p2 J p3 hp3 (by omega)
  obtain ⟨p4, hp4⟩ : ∃ p, p = p3 ++ (ByteArray.mk #[32, 102, 114, 111, 109, 32]) := ⟨_, rfl⟩
  have zp4 : p4.size ≤ 1121 := by rw [hp4, ByteArray.size_append]; omega
  have adp4 := run_add Tryz.prog p3 (ByteArray.mk #[32, 102, 114, 111, 109, 32]) p4 hp4 (by omega)
  obtain ⟨p5, hp5⟩ : ∃ p, p = p4 ++ nf on := ⟨_, rfl⟩
  have zp5 : p5.size ≤ 1203 := by rw [hp5, ByteArray.size_append]; omega
  have adp5 := run_add Tryz.prog p4 (nf on) p5 hp5 (by omega)
  obtain ⟨E, hE⟩ : ∃ E, putT e1 = E := ⟨_, rfl⟩
  have zE : E.size ≤ 8400 := by rw [← hE]; exact putT_small hok
  have HE := Lib.hid hE
  obtain ⟨q1, hq1⟩ : ∃ p, p = p5 ++ (ByteArray.mk #[32, 119, 104, 101, 114, 101, 32]) := ⟨_, rfl⟩
  have zq1 : q1.size ≤ 1210 := by rw [hq1, ByteArray.size_append]; omega
  have adq1 := run_add Tryz.prog p5 (ByteArray.mk #[32, 119, 104, 101, 114, 101, 32]) q1 hq1 (by omega)
  obtain ⟨q2, hq2⟩ : ∃ p, p = q1 ++ E := ⟨_, rfl⟩
  have zq2 : q2.size ≤ 9610 := by rw [hq2, ByteArray.size_append]; omega
  have adq2 := run_add Tryz.prog q1 E q2 hq2 (by omega)
  have HV : Hid (r = q2) := by
    unfold Hid
    rw [← hr, hq2, hq1, hp5, hp4, hp3, hp2, hp1]
    unfold parts_15 dfL
    simp only [List.cons_append, List.nil_append, List.append_nil]
    rw [hJ, hnf, hE, joinT_cons, joinT_cons, joinT_cons, joinT_cons, joinT_cons, joinT_cons, joinT_cons, joinT_one]
    apply ba_ext
    simp only [ba_list, List.append_assoc]
    rfl
  have zC1 : C.size ≤ 1012 := by omega
  have zC2 : 2 ≤ C.size := by omega
  clear zC
  clear hr hnf hC hJ hcut hE hp1 hp2 hp3 hp4 hp5 hq1 hq2
  go_enter Tryz.func50, Tryz.ntmps50
  go_wp2_with fail
  generalize (w.alloc (.cells #[.int .i64 15, .string name, .string on, .slice a0 list.length c0, .int .i64 num, .bool flag, .int .i64 ty.kind, .int .i64 ty.len, .string ty.name, .slice a1 cols.length c1, .slice a2 rules.length c2, .slice a3 [e1].length c3] 55)).alloc (.cells #[] 9) = W0 at HB ⊢
  have g0 : W0.cell? ⟨w.heap.size, 0, none⟩ = some (.int .i64 15) := (HB.out.1.2 0 (by simp)).1
  have g1 : W0.cell? ⟨w.heap.size, 1, none⟩ = some (.string name) := (HB.out.1.2 1 (by simp)).1
  have g2 : W0.cell? ⟨w.heap.size, 2, none⟩ = some (.string on) := (HB.out.1.2 2 (by simp)).1
  have g3 : W0.cell? ⟨w.heap.size, 3, none⟩ = some (.slice a0 list.length c0) := (HB.out.1.2 3 (by simp)).1
  have g4 : W0.cell? ⟨w.heap.size, 4, none⟩ = some (.int .i64 num) := (HB.out.1.2 4 (by simp)).1
  have g5 : W0.cell? ⟨w.heap.size, 5, none⟩ = some (.bool flag) := (HB.out.1.2 5 (by simp)).1
  have g6 : W0.cell? ⟨w.heap.size, 6, none⟩ = some (.int .i64 ty.kind) := (HB.out.1.2 6 (by simp)).1
  have g7 : W0.cell? ⟨w.heap.size, 7, none⟩ = some (.int .i64 ty.len) := (HB.out.1.2 7 (by simp)).1
  have g8 : W0.cell? ⟨w.heap.size, 8, none⟩ = some (.string ty.name) := (HB.out.1.2 8 (by simp)).1
  have g9 : W0.cell? ⟨w.heap.size, 9, none⟩ = some (.slice a1 cols.length c1) := (HB.out.1.2 9 (by simp)).1
  have g10 : W0.cell? ⟨w.heap.size, 10, none⟩ = some (.slice a2 rules.length c2) := (HB.out.1.2 10 (by simp)).1
  have g11 : W0.cell? ⟨w.heap.size, 11, none⟩ = some (.slice a3 [e1].length c3) := (HB.out.1.2 11 (by simp)).1
  refine (HCl.out _ (HK.out _ HB.out.2).1.1).mono ?_
  rintro e w1 ⟨rfl, b1⟩
  have B1 := Lib.hid (HB.out.call b1)
  clear b1 g0 g1 g2 g3 g4 g5 g6 g7 g8 g9 g10 g11
  have hsub : IntKind.i64.wrap ((C.size : Int) - 1) = (C.size : Int) - 1 := IntWalk.i64_in _ (by omega)
  go_wp2_with fail
  have hst : Hid (∀ p q : World, ((p.cell? ⟨w.heap.size, 1, none⟩ = some (.string name) ∧ p.cell? ⟨w.heap.size, 2, none⟩ = some (.string on)) ∧ Hid (BoxV w [.int .i64 15, .string name, .string on, .slice a0 list.length c0, .int .i64 num, .bool flag, .int .i64 ty.kind, .int .i64 ty.len, .string ty.name, .slice a1 cols.length c1, .slice a2 rules.length c2, .slice a3 [e1].length c3] p)) → Below p.heap.size p q → ((q.cell? ⟨w.heap.size, 1, none⟩ = some (.string name) ∧ q.cell? ⟨w.heap.size, 2, none⟩ = some (.string on)) ∧ Hid (BoxV w [.int .i64 15, .string name, .string on, .slice a0 list.length c0, .int .i64 num, .bool flag, .int .i64 ty.kind, .int .i64 ty.len, .string ty.name, .slice a1 cols.length c1, .slice a2 rules.length c2, .slice a3 [e1].length c3] q))) := fun p q h hb => by
    have T := h.2.out.call hb
    exact ⟨⟨(T.1.2 1 (by simp)).1, (T.1.2 2 (by simp)).1⟩, T⟩
  have D0 := Lib.hid ((B1.out).call (below_drewE (Below.refl _ _)))
  have D1 := Lib.hid (B1.out)
  go_region_held3 (fun w' => (w'.cell? ⟨w.heap.size, 1, none⟩ = some (.string name) ∧ w'.cell? ⟨w.heap.size, 2, none⟩ = some (.string on)) ∧ Hid (BoxV w [.int .i64 15, .string name, .string on, .slice a0 list.length c0, .int .i64 num, .bool flag, .int .i64 ty.kind, .int .i64 ty.len, .string ty.name, .slice a1 cols.length c1, .slice a2 rules.length c2, .slice a3 [e1].length c3] w')) (first | assumption | exact ⟨⟨(D0.out.1.2 1 (by simp)).1, (D0.out.1.2 2 (by simp)).1⟩, D0.out⟩ | exact ⟨⟨(D1.out.1.2 1 (by simp)).1, (D1.out.1.2 2 (by simp)).1⟩, D1.out⟩ | exact hst.out _ _ (by assumption) ((Below.refl _ _).alloc (Nat.le_refl _) _))
    (first
      | (go_at_call 24; refine (HNf.out _ _ (by first | exact .inl rfl | exact .inr rfl)).mono ?_; rintro e wq ⟨rfl, bq⟩; have hq1 := hst.out _ _ (by assumption) bq))
  have B2 := Lib.hid hq1.2.out
  clear hst D0 D1
  have g11 : wq.cell? ⟨w.heap.size, 11, none⟩ = some (.slice a3 [e1].length c3) := (B2.out.1.2 11 (by simp)).1
  obtain ⟨dd, hsx⟩ := (HK.out _ B2.out.2).2.2.2.sl
  obtain ⟨eb, eoff, evs, rfl, hbl, hcs, hRe⟩ := (hsx).spot (i := 0) (by simp)
  simp only [List.getElem_cons_zero] at hRe
  have HRe := Lib.hid hRe
  obtain ⟨x0, y0, rfl, _⟩ := hRe
  have hc0 : wq.cell? ⟨eb, eoff, none⟩ = some (.int .i64 e1.kind) := by have := hcs 0 (by simp); simpa using this
  have hc1 : wq.cell? ⟨eb, eoff + 1, none⟩ = some (.string e1.text) := by have := hcs 1 (by simp); simpa using this
  have hc2 : wq.cell? ⟨eb, eoff + 2, none⟩ = some (.int .i64 e1.num) := by have := hcs 2 (by simp); simpa using this
  have hc3 : wq.cell? ⟨eb, eoff + 3, none⟩ = some (.slice x0 e1.kids.length y0) := by have := hcs 3 (by simp); simpa using this
  clear hcs
  simp only [List.length_cons, List.length_nil] at g11
  go_wp2_with fail
  obtain ⟨za, zc, hze, _, hkk⟩ := HRe.out
  cases hze
  refine (specPutExpr e1 _ _ dd _ hkk.at (Zx.out _ (by simp)) E HE.out).mono ?_
  rintro e w3 ⟨rfl, b3⟩
  have B3 := Lib.hid (B2.out.call b3)
  clear b3
  go_wp2_with fail
  go_ret
  exact ⟨by rw [HV.out] <;> rfl, B3.out.2⟩

end Go.Proofs.YtpdcmmhhgnackaaGreatDoor
