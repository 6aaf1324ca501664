/- The program's PutRule. Written by tools/gen_prule.py. -/
/- The laws' own helpers over schemas (the size that is left): Rule. Written by tools/gen_plan.py. -/
import Derived.Test.YtpdcmmhhgnackaaGreatDoorMRuleT
import Derived.Test.YtpdcmmhhgnackaaGreatDoorMPutExT
import Derived.Test.YtpdcmmhhgnackaaGreatDoorMPl
namespace Go.Proofs.YtpdcmmhhgnackaaGreatDoor
open Go.RowKit

theorem lets_nil : lets [] = 0 := rfl

set_option maxRecDepth 100000 in
set_option maxHeartbeats 4000000 in
theorem implPutRule (vs : List Value) (x : Ru) (w : World) (hT : TabR w) (hR : RRu 0 w vs x) (hwt : x.wt ≤ 1048576) (r : ByteArray) (hr : ruleT x = r) :
    Calls Tryz.prog 14 #[.agg vs.toArray] w fun e w' => e = .returned (.string r) ∧ Below w.heap.size w w' := by
  have HC := Lib.hid (fun w' (hb : Below w.heap.size w w') => implRuleFits vs x w' (hT.call hb).formR (goodRu.kept hR (Kept.below hb)) hwt _ rfl)
  have HT := Lib.hid (fun w' (hb : Below w.heap.size w w') => hT.call hb)
  have hlr : 0 < w.heap.size := hT.rules.1
  obtain ⟨name, kind, cols, expr, table, to⟩ := x
  obtain ⟨a0, c0, a1, c1, a2, c2, rfl, hfit, k0, k1, k2⟩ := hR
  simp only at k0 k1 k2 HC
  have HK := Lib.hid (fun w' (hb : Below w.heap.size w w') => (show Ss 0 w' a0 c0 cols ∧ Ks 0 w' a1 c1 expr ∧ Ss 0 w' a2 c2 to from ⟨k0.kept (Kept.below hb), k1.kept (Kept.below hb), k2.kept (Kept.below hb)⟩))
  have hW : (Ru.mk name kind cols expr table to).wt = name.size + (cols.length + lets cols) + (expr.length + wtL expr) + table.size + (to.length + lets to) := rfl
  have Zn := Lib.hid (show name.size ≤ 1048576 by omega)
  have Zt := Lib.hid (show table.size ≤ 1048576 by omega)
  have Zx := Lib.hid (fun (e : Ex) (hm : e ∈ expr) => (show e.wt ≤ 1048576 by have := wtL_mem hm; omega))
  have Zc := Lib.hid (fun (s : ByteArray) (hm : s ∈ cols) => (show s.size ≤ 1048576 by have := lets_mem hm; omega))
  have Zo := Lib.hid (fun (s : ByteArray) (hm : s ∈ to) => (show s.size ≤ 1048576 by have := lets_mem hm; omega))
  have HB := Lib.hid (fun T => boxV_new w [.string name, .int .i64 kind, .slice a0 cols.length c0, .slice a1 expr.length c1, .string table, .slice a2 to.length c2] T)
  unfold ruleT at hr
  clear k0 k1 k2 hW hT
  cases hc : ruleB ⟨name, kind, cols, expr, table, to⟩ with
  | false =>
    have HCC := Lib.hid hc
    have HV : Hid (r = ⟨#[]⟩) := by unfold Hid; rw [← hr, hc]; rfl
    clear hr hc
    go_enter Tryz.func14, Tryz.ntmps14
    go_wp2_with fail
    refine (HC.out _ (HB.out _).2).mono ?_
    rintro e w1 ⟨rfl, b1⟩
    have B1 := Lib.hid ((HB.out 42).call b1)
    clear b1
    rw [HCC.out]
    go_wp2_with fail
    go_ret
    exact ⟨by rw [HV.out] <;> rfl, B1.out.2⟩
  | true =>
    rw [if_pos hc] at hr
    have hin : kind = 0 ∨ kind = 1 ∨ kind = 2 ∨ kind = 3 := by
      by_cases hin : 0 ≤ kind ∧ kind ≤ 3
      · omega
      · rw [ruleB_none _ _ _ _ _ _ hin] at hc; cases hc
    rcases hin with rfl | rfl | rfl | rfl
    · have HCC := Lib.hid hc
      rw [ruleB_key name 0 cols expr table to (.inl rfl)] at hc
      simp only [Bool.and_eq_true] at hc
      obtain ⟨qn, qc, q3, q4, q5⟩ := hc
      obtain ⟨N, hN⟩ : ∃ N, nameT name = N := ⟨_, rfl⟩
      have zN : N.size ≤ 82 := by rw [← hN]; exact nameT_small qn
      have HN := Lib.hid hN
      have y0 : (ByteArray.mk #[99, 111, 110, 115, 116, 114, 97, 105, 110, 116]).size = 10 := rfl
      have y1 : (ByteArray.mk #[112, 114, 105, 109, 97, 114, 121, 32, 107, 101, 121]).size = 11 := rfl
      obtain ⟨n1, n2, n3⟩ := namesB_parts qc
      obtain ⟨P, hP⟩ : ∃ P, listT cols = P := ⟨_, rfl⟩
      have zP : P.size ≤ 338 := by rw [← hP]; have := listT_size cols n3; omega
      have HP : Hid (txt [40] ++ joinT (cols.map nameT) (txt [44, 32]) ++ txt [41] = P) := hP
      have HZ : Hid (∀ x ∈ cols, (nameT x).size ≤ 4611686018427387903) := fun x hx => by have := nameT_small (n3 x hx); omega
      have HLe : Hid (lets (cols.map nameT) + (cols.map nameT).length * 2 ≤ 1073741824) := by
        unfold Hid
        have := lets_map nameT cols 82 fun s h => nameT_small (n3 s h)
        rw [List.length_map]
        omega
      have hcl : cols.length ≤ 1000 := by omega
      have HV : Hid (joinT ([(ByteArray.mk #[99, 111, 110, 115, 116, 114, 97, 105, 110, 116]), N, (ByteArray.mk #[112, 114, 105, 109, 97, 114, 121, 32, 107, 101, 121])] ++ [P]) (txt [32]) = r) := by
        unfold Hid
        rw [← hr]
        unfold ruleR
        simp only [if_true, Int.reduceEq, if_false]
        rw [hN, hP]
        simp only [List.cons_append, List.nil_append]
        rw [joinT_cons, joinT_cons, joinT_cons, joinT_one]
        apply ba_ext
        simp only [ba_list, List.append_assoc]
        rfl
      clear hr hN hP qn qc q3 q4 q5 n1 n2 n3
      go_enter Tryz.func14, Tryz.ntmps14
      go_wp2_with fail
      refine (HC.out _ (HB.out _).2).mono ?_
      rintro e w1 ⟨rfl, b1⟩
      have B1 := Lib.hid ((HB.out 42).call b1)
      clear b1
      rw [HCC.out]
      have R1 := Lib.hid (HT.out _ B1.out.2).rules
      have hst : Hid (∀ p q : World, ((p.cell? ⟨w.heap.size, 0, none⟩ = some (.string name) ∧ p.cell? ⟨w.heap.size, 1, none⟩ = some (.int .i64 0) ∧ p.cell? ⟨w.heap.size, 2, none⟩ = some (.slice a0 cols.length c0) ∧ p.cell? ⟨w.heap.size, 3, none⟩ = some (.slice a1 expr.length c1) ∧ p.cell? ⟨w.heap.size, 4, none⟩ = some (.string table) ∧ p.cell? ⟨w.heap.size, 5, none⟩ = some (.slice a2 to.length c2) ∧ p.cell? ⟨0, 0, none⟩ = some (.string (ByteArray.mk #[112, 114, 105, 109, 97, 114, 121, 32, 107, 101, 121]))) ∧ Hid (BoxV w [.string name, .int .i64 0, .slice a0 cols.length c0, .slice a1 expr.length c1, .string table, .slice a2 to.length c2] p)) → Below p.heap.size p q → ((q.cell? ⟨w.heap.size, 0, none⟩ = some (.string name) ∧ q.cell? ⟨w.heap.size, 1, none⟩ = some (.int .i64 0) ∧ q.cell? ⟨w.heap.size, 2, none⟩ = some (.slice a0 cols.length c0) ∧ q.cell? ⟨w.heap.size, 3, none⟩ = some (.slice a1 expr.length c1) ∧ q.cell? ⟨w.heap.size, 4, none⟩ = some (.string table) ∧ q.cell? ⟨w.heap.size, 5, none⟩ = some (.slice a2 to.length c2) ∧ q.cell? ⟨0, 0, none⟩ = some (.string (ByteArray.mk #[112, 114, 105, 109, 97, 114, 121, 32, 107, 101, 121]))) ∧ Hid (BoxV w [.string name, .int .i64 0, .slice a0 cols.length c0, .slice a1 expr.length c1, .string table, .slice a2 to.length c2] q))) := fun p q h hb => by
        have T := h.2.out.call hb
        have R := (HT.out _ T.2).rules
        exact ⟨⟨(T.1.2 0 (by simp)).1, (T.1.2 1 (by simp)).1, (T.1.2 2 (by simp)).1, (T.1.2 3 (by simp)).1, (T.1.2 4 (by simp)).1, (T.1.2 5 (by simp)).1, (R).2 0 (by omega) 0 (by decide)⟩, T⟩
      have D1 := Lib.hid (B1.out.call (below_drewE (Below.refl _ _)))
      have D1r := Lib.hid (HT.out _ D1.out.2).rules
      go_wp2_with fail
      go_region_held3 (fun w' => (w'.cell? ⟨w.heap.size, 0, none⟩ = some (.string name) ∧ w'.cell? ⟨w.heap.size, 1, none⟩ = some (.int .i64 0) ∧ w'.cell? ⟨w.heap.size, 2, none⟩ = some (.slice a0 cols.length c0) ∧ w'.cell? ⟨w.heap.size, 3, none⟩ = some (.slice a1 expr.length c1) ∧ w'.cell? ⟨w.heap.size, 4, none⟩ = some (.string table) ∧ w'.cell? ⟨w.heap.size, 5, none⟩ = some (.slice a2 to.length c2) ∧ w'.cell? ⟨0, 0, none⟩ = some (.string (ByteArray.mk #[112, 114, 105, 109, 97, 114, 121, 32, 107, 101, 121]))) ∧ Hid (BoxV w [.string name, .int .i64 0, .slice a0 cols.length c0, .slice a1 expr.length c1, .string table, .slice a2 to.length c2] w')) (first | assumption | exact ⟨⟨(D1.out.1.2 0 (by simp)).1, (D1.out.1.2 1 (by simp)).1, (D1.out.1.2 2 (by simp)).1, (D1.out.1.2 3 (by simp)).1, (D1.out.1.2 4 (by simp)).1, (D1.out.1.2 5 (by simp)).1, (D1r.out).2 0 (by omega) 0 (by decide)⟩, D1.out⟩ | exact hst.out _ _ (by assumption) ((Below.refl _ _).alloc (Nat.le_refl _) _))
        ((go_at_call 30; refine (implPutName name _ Zn.out N HN.out).mono ?_; rintro e wq ⟨rfl, bq⟩; have hq := hst.out _ _ (by assumption) bq; have T9 := Lib.hid hq.2.out))
      clear hst bq hq D1 D1r R1
      have HPh : Hid (Strs (wq.alloc (.cells #[.string (ByteArray.mk #[99, 111, 110, 115, 116, 114, 97, 105, 110, 116]), .string N, .string (ByteArray.mk #[112, 114, 105, 109, 97, 114, 121, 32, 107, 101, 121])] 9)) (some ⟨wq.heap.size, 0, none⟩) 3 [(ByteArray.mk #[99, 111, 110, 115, 116, 114, 97, 105, 110, 116]), N, (ByteArray.mk #[112, 114, 105, 109, 97, 114, 121, 32, 107, 101, 121])]) := rowLit1 wq [(ByteArray.mk #[99, 111, 110, 115, 116, 114, 97, 105, 110, 116]), N, (ByteArray.mk #[112, 114, 105, 109, 97, 114, 121, 32, 107, 101, 121])] (by intro t ht; simp only [List.mem_cons, List.not_mem_nil, or_false] at ht; unfold maxLen; rcases ht with rfl | rfl | rfl <;> omega) (by simp)
      have B3 : Hid (BoxV w [.string name, .int .i64 0, .slice a0 cols.length c0, .slice a1 expr.length c1, .string table, .slice a2 to.length c2] (wq.alloc (.cells #[.string (ByteArray.mk #[99, 111, 110, 115, 116, 114, 97, 105, 110, 116]), .string N, .string (ByteArray.mk #[112, 114, 105, 109, 97, 114, 121, 32, 107, 101, 121])] 9))) := T9.out.call ((Below.refl _ _).alloc (Nat.le_refl _) _)
      clear T9
      generalize wq.alloc (.cells #[.string (ByteArray.mk #[99, 111, 110, 115, 116, 114, 97, 105, 110, 116]), .string N, .string (ByteArray.mk #[112, 114, 105, 109, 97, 114, 121, 32, 107, 101, 121])] 9) = W3 at HPh B3 ⊢
      generalize wq.heap.size = pb at HPh ⊢
      have g3_0 : W3.cell? ⟨w.heap.size, 0, none⟩ = some (.string name) := (B3.out.1.2 0 (by simp)).1
      have g3_1 : W3.cell? ⟨w.heap.size, 1, none⟩ = some (.int .i64 0) := (B3.out.1.2 1 (by simp)).1
      have g3_2 : W3.cell? ⟨w.heap.size, 2, none⟩ = some (.slice a0 cols.length c0) := (B3.out.1.2 2 (by simp)).1
      have g3_3 : W3.cell? ⟨w.heap.size, 3, none⟩ = some (.slice a1 expr.length c1) := (B3.out.1.2 3 (by simp)).1
      have g3_4 : W3.cell? ⟨w.heap.size, 4, none⟩ = some (.string table) := (B3.out.1.2 4 (by simp)).1
      have g3_5 : W3.cell? ⟨w.heap.size, 5, none⟩ = some (.slice a2 to.length c2) := (B3.out.1.2 5 (by simp)).1
      go_wp2_with fail
      refine (textsN a0 c0 cols _ (HK.out _ B3.out.2).1.sl trivial Zc.out hcl HZ.out).mono ?_
      rintro e w4 ⟨a4, c4, rfl, ho4, b4⟩
      have HS4 := Lib.hid (ho4.strs fun t ht => by obtain ⟨u, hu, rfl⟩ := List.mem_map.1 ht; have := HZ.out u hu; unfold maxLen; omega)
      have B4 := Lib.hid (B3.out.call b4)
      have HP4 := Lib.hid (HPh.out.below b4)
      clear ho4 b4
      go_wp2_with fail
      have hip := inParens a4 c4 (cols.map nameT) w4 HS4.out HLe.out P HP.out
      rw [List.length_map] at hip
      refine hip.mono ?_
      rintro e w5 ⟨rfl, b5⟩
      have B5 := Lib.hid (B4.out.call b5)
      have HP5 := Lib.hid (HP4.out.below b5)
      clear b5 hip
      go_wp2_with fail
      have hrow := rowLit1 w5 [P] (by intro t ht; simp only [List.mem_cons, List.not_mem_nil, or_false] at ht; rw [ht]; unfold maxLen; omega) (by simp)
      refine (phraseAnd (some ⟨pb, 0, none⟩) 3 [(ByteArray.mk #[99, 111, 110, 115, 116, 114, 97, 105, 110, 116]), N, (ByteArray.mk #[112, 114, 105, 109, 97, 114, 121, 32, 107, 101, 121])] _ 1 [P] _ (HP5.out.below ((Below.refl _ _).alloc (Nat.le_refl _) _)) hrow (.inr ⟨_, _, rfl⟩) (by simp)).mono ?_
      rintro e w6 ⟨a6, c6, rfl, hs6, b6⟩
      have HS6 := Lib.hid hs6
      have B6 := Lib.hid ((B5.out.call ((Below.refl _ _).alloc (Nat.le_refl _) _)).call b6)
      clear hs6 b6 hrow
      go_wp2_with fail
      refine (phraseText a6 c6 ([(ByteArray.mk #[99, 111, 110, 115, 116, 114, 97, 105, 110, 116]), N, (ByteArray.mk #[112, 114, 105, 109, 97, 114, 121, 32, 107, 101, 121])] ++ [P]) _ HS6.out (by simp only [List.cons_append, List.nil_append, lets_cons, lets_nil, List.length_cons, List.length_nil]; omega) r HV.out).mono ?_
      rintro e w7 ⟨rfl, b7⟩
      have B7 := Lib.hid (B6.out.call b7)
      clear b7
      go_wp2_with fail
      go_ret
      exact ⟨rfl, B7.out.2⟩
    · have HCC := Lib.hid hc
      rw [ruleB_key name 1 cols expr table to (.inr rfl)] at hc
      simp only [Bool.and_eq_true] at hc
      obtain ⟨qn, qc, q3, q4, q5⟩ := hc
      obtain ⟨N, hN⟩ : ∃ N, nameT name = N := ⟨_, rfl⟩
      have zN : N.size ≤ 82 := by rw [← hN]; exact nameT_small qn
      have HN := Lib.hid hN
      have y0 : (ByteArray.mk #[99, 111, 110, 115, 116, 114, 97, 105, 110, 116]).size = 10 := rfl
      have y1 : (ByteArray.mk #[117, 110, 105, 113, 117, 101]).size = 6 := rfl
      obtain ⟨n1, n2, n3⟩ := namesB_parts qc
      obtain ⟨P, hP⟩ : ∃ P, listT cols = P := ⟨_, rfl⟩
      have zP : P.size ≤ 338 := by rw [← hP]; have := listT_size cols n3; omega
      have HP : Hid (txt [40] ++ joinT (cols.map nameT) (txt [44, 32]) ++ txt [41] = P) := hP
      have HZ : Hid (∀ x ∈ cols, (nameT x).size ≤ 4611686018427387903) := fun x hx => by have := nameT_small (n3 x hx); omega
      have HLe : Hid (lets (cols.map nameT) + (cols.map nameT).length * 2 ≤ 1073741824) := by
        unfold Hid
        have := lets_map nameT cols 82 fun s h => nameT_small (n3 s h)
        rw [List.length_map]
        omega
      have hcl : cols.length ≤ 1000 := by omega
      have HV : Hid (joinT ([(ByteArray.mk #[99, 111, 110, 115, 116, 114, 97, 105, 110, 116]), N, (ByteArray.mk #[117, 110, 105, 113, 117, 101])] ++ [P]) (txt [32]) = r) := by
        unfold Hid
        rw [← hr]
        unfold ruleR
        simp only [if_true, Int.reduceEq, if_false]
        rw [hN, hP]
        simp only [List.cons_append, List.nil_append]
        rw [joinT_cons, joinT_cons, joinT_cons, joinT_one]
        apply ba_ext
        simp only [ba_list, List.append_assoc]
        rfl
      clear hr hN hP qn qc q3 q4 q5 n1 n2 n3
      go_enter Tryz.func14, Tryz.ntmps14
      go_wp2_with fail
      refine (HC.out _ (HB.out _).2).mono ?_
      rintro e w1 ⟨rfl, b1⟩
      have B1 := Lib.hid ((HB.out 42).call b1)
      clear b1
      rw [HCC.out]
      have R1 := Lib.hid (HT.out _ B1.out.2).rules
      have hst : Hid (∀ p q : World, ((p.cell? ⟨w.heap.size, 0, none⟩ = some (.string name) ∧ p.cell? ⟨w.heap.size, 1, none⟩ = some (.int .i64 1) ∧ p.cell? ⟨w.heap.size, 2, none⟩ = some (.slice a0 cols.length c0) ∧ p.cell? ⟨w.heap.size, 3, none⟩ = some (.slice a1 expr.length c1) ∧ p.cell? ⟨w.heap.size, 4, none⟩ = some (.string table) ∧ p.cell? ⟨w.heap.size, 5, none⟩ = some (.slice a2 to.length c2) ∧ p.cell? ⟨0, 6, none⟩ = some (.string (ByteArray.mk #[117, 110, 105, 113, 117, 101]))) ∧ Hid (BoxV w [.string name, .int .i64 1, .slice a0 cols.length c0, .slice a1 expr.length c1, .string table, .slice a2 to.length c2] p)) → Below p.heap.size p q → ((q.cell? ⟨w.heap.size, 0, none⟩ = some (.string name) ∧ q.cell? ⟨w.heap.size, 1, none⟩ = some (.int .i64 1) ∧ q.cell? ⟨w.heap.size, 2, none⟩ = some (.slice a0 cols.length c0) ∧ q.cell? ⟨w.heap.size, 3, none⟩ = some (.slice a1 expr.length c1) ∧ q.cell? ⟨w.heap.size, 4, none⟩ = some (.string table) ∧ q.cell? ⟨w.heap.size, 5, none⟩ = some (.slice a2 to.length c2) ∧ q.cell? ⟨0, 6, none⟩ = some (.string (ByteArray.mk #[117, 110, 105, 113, 117, 101]))) ∧ Hid (BoxV w [.string name, .int .i64 1, .slice a0 cols.length c0, .slice a1 expr.length c1, .string table, .slice a2 to.length c2] q))) := fun p q h hb => by
        have T := h.2.out.call hb
        have R := (HT.out _ T.2).rules
        exact ⟨⟨(T.1.2 0 (by simp)).1, (T.1.2 1 (by simp)).1, (T.1.2 2 (by simp)).1, (T.1.2 3 (by simp)).1, (T.1.2 4 (by simp)).1, (T.1.2 5 (by simp)).1, (R).2 1 (by omega) 0 (by decide)⟩, T⟩
      have D1 := Lib.hid (B1.out.call (below_drewE (Below.refl _ _)))
      have D1r := Lib.hid (HT.out _ D1.out.2).rules
      go_wp2_with fail
      go_region_held3 (fun w' => (w'.cell? ⟨w.heap.size, 0, none⟩ = some (.string name) ∧ w'.cell? ⟨w.heap.size, 1, none⟩ = some (.int .i64 1) ∧ w'.cell? ⟨w.heap.size, 2, none⟩ = some (.slice a0 cols.length c0) ∧ w'.cell? ⟨w.heap.size, 3, none⟩ = some (.slice a1 expr.length c1) ∧ w'.cell? ⟨w.heap.size, 4, none⟩ = some (.string table) ∧ w'.cell? ⟨w.heap.size, 5, none⟩ = some (.slice a2 to.length c2) ∧ w'.cell? ⟨0, 6, none⟩ = some (.string (ByteArray.mk #[117, 110, 105, 113, 117, 101]))) ∧ Hid (BoxV w [.string name, .int .i64 1, .slice a0 cols.length c0, .slice a1 expr.length c1, .string table, .slice a2 to.length c2] w')) (first | assumption | exact ⟨⟨(D1.out.1.2 0 (by simp)).1, (D1.out.1.2 1 (by simp)).1, (D1.out.1.2 2 (by simp)).1, (D1.out.1.2 3 (by simp)).1, (D1.out.1.2 4 (by simp)).1, (D1.out.1.2 5 (by simp)).1, (D1r.out).2 1 (by omega) 0 (by decide)⟩, D1.out⟩ | exact hst.out _ _ (by assumption) ((Below.refl _ _).alloc (Nat.le_refl _) _))
        ((go_at_call 30; refine (implPutName name _ Zn.out N HN.out).mono ?_; rintro e wq ⟨rfl, bq⟩; have hq := hst.out _ _ (by assumption) bq; have T9 := Lib.hid hq.2.out))
      clear hst bq hq D1 D1r R1
      have HPh : Hid (Strs (wq.alloc (.cells #[.string (ByteArray.mk #[99, 111, 110, 115, 116, 114, 97, 105, 110, 116]), .string N, .string (ByteArray.mk #[117, 110, 105, 113, 117, 101])] 9)) (some ⟨wq.heap.size, 0, none⟩) 3 [(ByteArray.mk #[99, 111, 110, 115, 116, 114, 97, 105, 110, 116]), N, (ByteArray.mk #[117, 110, 105, 113, 117, 101])]) := rowLit1 wq [(ByteArray.mk #[99, 111, 110, 115, 116, 114, 97, 105, 110, 116]), N, (ByteArray.mk #[117, 110, 105, 113, 117, 101])] (by intro t ht; simp only [List.mem_cons, List.not_mem_nil, or_false] at ht; unfold maxLen; rcases ht with rfl | rfl | rfl <;> omega) (by simp)
      have B3 : Hid (BoxV w [.string name, .int .i64 1, .slice a0 cols.length c0, .slice a1 expr.length c1, .string table, .slice a2 to.length c2] (wq.alloc (.cells #[.string (ByteArray.mk #[99, 111, 110, 115, 116, 114, 97, 105, 110, 116]), .string N, .string (ByteArray.mk #[117, 110, 105, 113, 117, 101])] 9))) := T9.out.call ((Below.refl _ _).alloc (Nat.le_refl _) _)
      clear T9
      generalize wq.alloc (.cells #[.string (ByteArray.mk #[99, 111, 110, 115, 116, 114, 97, 105, 110, 116]), .string N, .string (ByteArray.mk #[117, 110, 105, 113, 117, 101])] 9) = W3 at HPh B3 ⊢
      generalize wq.heap.size = pb at HPh ⊢
      have g3_0 : W3.cell? ⟨w.heap.size, 0, none⟩ = some (.string name) := (B3.out.1.2 0 (by simp)).1
      have g3_1 : W3.cell? ⟨w.heap.size, 1, none⟩ = some (.int .i64 1) := (B3.out.1.2 1 (by simp)).1
      have g3_2 : W3.cell? ⟨w.heap.size, 2, none⟩ = some (.slice a0 cols.length c0) := (B3.out.1.2 2 (by simp)).1
      have g3_3 : W3.cell? ⟨w.heap.size, 3, none⟩ = some (.slice a1 expr.length c1) := (B3.out.1.2 3 (by simp)).1
      have g3_4 : W3.cell? ⟨w.heap.size, 4, none⟩ = some (.string table) := (B3.out.1.2 4 (by simp)).1
      have g3_5 : W3.cell? ⟨w.heap.size, 5, none⟩ = some (.slice a2 to.length c2) := (B3.out.1.2 5 (by simp)).1
      go_wp2_with fail
      refine (textsN a0 c0 cols _ (HK.out _ B3.out.2).1.sl trivial Zc.out hcl HZ.out).mono ?_
      rintro e w4 ⟨a4, c4, rfl, ho4, b4⟩
      have HS4 := Lib.hid (ho4.strs fun t ht => by obtain ⟨u, hu, rfl⟩ := List.mem_map.1 ht; have := HZ.out u hu; unfold maxLen; omega)
      have B4 := Lib.hid (B3.out.call b4)
      have HP4 := Lib.hid (HPh.out.below b4)
      clear ho4 b4
      go_wp2_with fail
      have hip := inParens a4 c4 (cols.map nameT) w4 HS4.out HLe.out P HP.out
      rw [List.length_map] at hip
      refine hip.mono ?_
      rintro e w5 ⟨rfl, b5⟩
      have B5 := Lib.hid (B4.out.call b5)
      have HP5 := Lib.hid (HP4.out.below b5)
      clear b5 hip
      go_wp2_with fail
      have hrow := rowLit1 w5 [P] (by intro t ht; simp only [List.mem_cons, List.not_mem_nil, or_false] at ht; rw [ht]; unfold maxLen; omega) (by simp)
      refine (phraseAnd (some ⟨pb, 0, none⟩) 3 [(ByteArray.mk #[99, 111, 110, 115, 116, 114, 97, 105, 110, 116]), N, (ByteArray.mk #[117, 110, 105, 113, 117, 101])] _ 1 [P] _ (HP5.out.below ((Below.refl _ _).alloc (Nat.le_refl _) _)) hrow (.inr ⟨_, _, rfl⟩) (by simp)).mono ?_
      rintro e w6 ⟨a6, c6, rfl, hs6, b6⟩
      have HS6 := Lib.hid hs6
      have B6 := Lib.hid ((B5.out.call ((Below.refl _ _).alloc (Nat.le_refl _) _)).call b6)
      clear hs6 b6 hrow
      go_wp2_with fail
      refine (phraseText a6 c6 ([(ByteArray.mk #[99, 111, 110, 115, 116, 114, 97, 105, 110, 116]), N, (ByteArray.mk #[117, 110, 105, 113, 117, 101])] ++ [P]) _ HS6.out (by simp only [List.cons_append, List.nil_append, lets_cons, lets_nil, List.length_cons, List.length_nil]; omega) r HV.out).mono ?_
      rintro e w7 ⟨rfl, b7⟩
      have B7 := Lib.hid (B6.out.call b7)
      clear b7
      go_wp2_with fail
      go_ret
      exact ⟨rfl, B7.out.2⟩
    · have HCC := Lib.hid hc
      rw [ruleB_check name cols expr table to] at hc
      simp only [Bool.and_eq_true] at hc
      obtain ⟨qn, q2, qe, q4, q5⟩ := hc
      obtain ⟨N, hN⟩ : ∃ N, nameT name = N := ⟨_, rfl⟩
      have zN : N.size ≤ 82 := by rw [← hN]; exact nameT_small qn
      have HN := Lib.hid hN
      have y0 : (ByteArray.mk #[99, 111, 110, 115, 116, 114, 97, 105, 110, 116]).size = 10 := rfl
      have y1 : (ByteArray.mk #[99, 104, 101, 99, 107]).size = 5 := rfl
      obtain ⟨e1, rfl, hok⟩ := one_expr qe
      obtain ⟨E, hE⟩ : ∃ E, putT e1 = E := ⟨_, rfl⟩
      have zE : E.size ≤ 8400 := by rw [← hE]; exact putT_small hok
      obtain ⟨P, hP⟩ : ∃ P, txt [40] ++ joinT [E] (txt [44, 32]) ++ txt [41] = P := ⟨_, rfl⟩
      have zP : P.size ≤ 8402 := by rw [← hP, joinT_one, ByteArray.size_append, ByteArray.size_append, show (txt [40]).size = 1 from rfl, show (txt [41]).size = 1 from rfl]; omega
      have HP := Lib.hid hP
      have HMap : Hid ([e1].map putT = [E]) := by unfold Hid; rw [← hE]; rfl
      have HZ : Hid (∀ x ∈ [e1], (putT x).size ≤ 4611686018427387903) := by intro x hx; simp only [List.mem_cons, List.not_mem_nil, or_false] at hx; rw [hx, hE]; omega
      have HV : Hid (joinT ([(ByteArray.mk #[99, 111, 110, 115, 116, 114, 97, 105, 110, 116]), N, (ByteArray.mk #[99, 104, 101, 99, 107])] ++ [P]) (txt [32]) = r) := by
        unfold Hid
        rw [← hr, ← hP, joinT_one]
        unfold ruleR exT
        simp only [if_true, Int.reduceEq, if_false]
        rw [hN, hE]
        simp only [List.cons_append, List.nil_append]
        rw [joinT_cons, joinT_cons, joinT_cons, joinT_one]
        apply ba_ext
        simp only [ba_list, List.append_assoc]
        rfl
      clear hr hN hE hP qn q2 qe q4 q5
      go_enter Tryz.func14, Tryz.ntmps14
      go_wp2_with fail
      refine (HC.out _ (HB.out _).2).mono ?_
      rintro e w1 ⟨rfl, b1⟩
      have B1 := Lib.hid ((HB.out 42).call b1)
      clear b1
      rw [HCC.out]
      have R1 := Lib.hid (HT.out _ B1.out.2).rules
      have hst : Hid (∀ p q : World, ((p.cell? ⟨w.heap.size, 0, none⟩ = some (.string name) ∧ p.cell? ⟨w.heap.size, 1, none⟩ = some (.int .i64 2) ∧ p.cell? ⟨w.heap.size, 2, none⟩ = some (.slice a0 cols.length c0) ∧ p.cell? ⟨w.heap.size, 3, none⟩ = some (.slice a1 [e1].length c1) ∧ p.cell? ⟨w.heap.size, 4, none⟩ = some (.string table) ∧ p.cell? ⟨w.heap.size, 5, none⟩ = some (.slice a2 to.length c2) ∧ p.cell? ⟨0, 12, none⟩ = some (.string (ByteArray.mk #[99, 104, 101, 99, 107]))) ∧ Hid (BoxV w [.string name, .int .i64 2, .slice a0 cols.length c0, .slice a1 [e1].length c1, .string table, .slice a2 to.length c2] p)) → Below p.heap.size p q → ((q.cell? ⟨w.heap.size, 0, none⟩ = some (.string name) ∧ q.cell? ⟨w.heap.size, 1, none⟩ = some (.int .i64 2) ∧ q.cell? ⟨w.heap.size, 2, none⟩ = some (.slice a0 cols.length c0) ∧ q.cell? ⟨w.heap.size, 3, none⟩ = some (.slice a1 [e1].length c1) ∧ q.cell? ⟨w.heap.size, 4, none⟩ = some (.string table) ∧ q.cell? ⟨w.heap.size, 5, none⟩ = some (.slice a2 to.length c2) ∧ q.cell? ⟨0, 12, none⟩ = some (.string (ByteArray.mk #[99, 104, 101, 99, 107]))) ∧ Hid (BoxV w [.string name, .int .i64 2, .slice a0 cols.length c0, .slice a1 [e1].length c1, .string table, .slice a2 to.length c2] q))) := fun p q h hb => by
        have T := h.2.out.call hb
        have R := (HT.out _ T.2).rules
        exact ⟨⟨(T.1.2 0 (by simp)).1, (T.1.2 1 (by simp)).1, (T.1.2 2 (by simp)).1, (T.1.2 3 (by simp)).1, (T.1.2 4 (by simp)).1, (T.1.2 5 (by simp)).1, (R).2 2 (by omega) 0 (by decide)⟩, T⟩
      have D1 := Lib.hid (B1.out.call (below_drewE (Below.refl _ _)))
      have D1r := Lib.hid (HT.out _ D1.out.2).rules
      go_wp2_with fail
      go_region_held3 (fun w' => (w'.cell? ⟨w.heap.size, 0, none⟩ = some (.string name) ∧ w'.cell? ⟨w.heap.size, 1, none⟩ = some (.int .i64 2) ∧ w'.cell? ⟨w.heap.size, 2, none⟩ = some (.slice a0 cols.length c0) ∧ w'.cell? ⟨w.heap.size, 3, none⟩ = some (.slice a1 [e1].length c1) ∧ w'.cell? ⟨w.heap.size, 4, none⟩ = some (.string table) ∧ w'.cell? ⟨w.heap.size, 5, none⟩ = some (.slice a2 to.length c2) ∧ w'.cell? ⟨0, 12, none⟩ = some (.string (ByteArray.mk #[99, 104, 101, 99, 107]))) ∧ Hid (BoxV w [.string name, .int .i64 2, .slice a0 cols.length c0, .slice a1 [e1].length c1, .string table, .slice a2 to.length c2] w')) (first | assumption | exact ⟨⟨(D1.out.1.2 0 (by simp)).1, (D1.out.1.2 1 (by simp)).1, (D1.out.1.2 2 (by simp)).1, (D1.out.1.2 3 (by simp)).1, (D1.out.1.2 4 (by simp)).1, (D1.out.1.2 5 (by simp)).1, (D1r.out).2 2 (by omega) 0 (by decide)⟩, D1.out⟩ | exact hst.out _ _ (by assumption) ((Below.refl _ _).alloc (Nat.le_refl _) _))
        ((go_at_call 30; refine (implPutName name _ Zn.out N HN.out).mono ?_; rintro e wq ⟨rfl, bq⟩; have hq := hst.out _ _ (by assumption) bq; have T9 := Lib.hid hq.2.out))
      clear hst bq hq D1 D1r R1
      have HPh : Hid (Strs (wq.alloc (.cells #[.string (ByteArray.mk #[99, 111, 110, 115, 116, 114, 97, 105, 110, 116]), .string N, .string (ByteArray.mk #[99, 104, 101, 99, 107])] 9)) (some ⟨wq.heap.size, 0, none⟩) 3 [(ByteArray.mk #[99, 111, 110, 115, 116, 114, 97, 105, 110, 116]), N, (ByteArray.mk #[99, 104, 101, 99, 107])]) := rowLit1 wq [(ByteArray.mk #[99, 111, 110, 115, 116, 114, 97, 105, 110, 116]), N, (ByteArray.mk #[99, 104, 101, 99, 107])] (by intro t ht; simp only [List.mem_cons, List.not_mem_nil, or_false] at ht; unfold maxLen; rcases ht with rfl | rfl | rfl <;> omega) (by simp)
      have B3 : Hid (BoxV w [.string name, .int .i64 2, .slice a0 cols.length c0, .slice a1 [e1].length c1, .string table, .slice a2 to.length c2] (wq.alloc (.cells #[.string (ByteArray.mk #[99, 111, 110, 115, 116, 114, 97, 105, 110, 116]), .string N, .string (ByteArray.mk #[99, 104, 101, 99, 107])] 9))) := T9.out.call ((Below.refl _ _).alloc (Nat.le_refl _) _)
      clear T9
      generalize wq.alloc (.cells #[.string (ByteArray.mk #[99, 111, 110, 115, 116, 114, 97, 105, 110, 116]), .string N, .string (ByteArray.mk #[99, 104, 101, 99, 107])] 9) = W3 at HPh B3 ⊢
      generalize wq.heap.size = pb at HPh ⊢
      have g3_0 : W3.cell? ⟨w.heap.size, 0, none⟩ = some (.string name) := (B3.out.1.2 0 (by simp)).1
      have g3_1 : W3.cell? ⟨w.heap.size, 1, none⟩ = some (.int .i64 2) := (B3.out.1.2 1 (by simp)).1
      have g3_2 : W3.cell? ⟨w.heap.size, 2, none⟩ = some (.slice a0 cols.length c0) := (B3.out.1.2 2 (by simp)).1
      have g3_3 : W3.cell? ⟨w.heap.size, 3, none⟩ = some (.slice a1 [e1].length c1) := (B3.out.1.2 3 (by simp)).1
      have g3_4 : W3.cell? ⟨w.heap.size, 4, none⟩ = some (.string table) := (B3.out.1.2 4 (by simp)).1
      have g3_5 : W3.cell? ⟨w.heap.size, 5, none⟩ = some (.slice a2 to.length c2) := (B3.out.1.2 5 (by simp)).1
      simp only [List.length_cons, List.length_nil] at g3_3
      go_wp2_with fail
      obtain ⟨dd, hsl⟩ := (HK.out _ B3.out.2).2.1.sl
      refine (textsX dd a1 c1 [e1] _ hsl (HT.out _ B3.out.2).tabs Zx.out (by simp) HZ.out).mono ?_
      rintro e w4 ⟨a4, c4, rfl, ho4, b4⟩
      rw [HMap.out] at ho4
      have HS4 : Hid (Strs w4 a4 c4 [E]) := ho4.strs fun t ht => by simp only [List.mem_cons, List.not_mem_nil, or_false] at ht; rw [ht]; unfold maxLen; omega
      have B4 := Lib.hid (B3.out.call b4)
      have HP4 := Lib.hid (HPh.out.below b4)
      clear ho4 b4 hsl
      go_wp2_with fail
      refine (inParens a4 c4 [E] _ HS4.out (by simp only [lets_cons, lets_nil, List.length_cons, List.length_nil]; omega) P HP.out).mono ?_
      rintro e w5 ⟨rfl, b5⟩
      have B5 := Lib.hid (B4.out.call b5)
      have HP5 := Lib.hid (HP4.out.below b5)
      clear b5
      go_wp2_with fail
      have hrow := rowLit1 w5 [P] (by intro t ht; simp only [List.mem_cons, List.not_mem_nil, or_false] at ht; rw [ht]; unfold maxLen; omega) (by simp)
      refine (phraseAnd (some ⟨pb, 0, none⟩) 3 [(ByteArray.mk #[99, 111, 110, 115, 116, 114, 97, 105, 110, 116]), N, (ByteArray.mk #[99, 104, 101, 99, 107])] _ 1 [P] _ (HP5.out.below ((Below.refl _ _).alloc (Nat.le_refl _) _)) hrow (.inr ⟨_, _, rfl⟩) (by simp)).mono ?_
      rintro e w6 ⟨a6, c6, rfl, hs6, b6⟩
      have HS6 := Lib.hid hs6
      have B6 := Lib.hid ((B5.out.call ((Below.refl _ _).alloc (Nat.le_refl _) _)).call b6)
      clear hs6 b6 hrow
      go_wp2_with fail
      refine (phraseText a6 c6 ([(ByteArray.mk #[99, 111, 110, 115, 116, 114, 97, 105, 110, 116]), N, (ByteArray.mk #[99, 104, 101, 99, 107])] ++ [P]) _ HS6.out (by simp only [List.cons_append, List.nil_append, lets_cons, lets_nil, List.length_cons, List.length_nil]; omega) r HV.out).mono ?_
      rintro e w7 ⟨rfl, b7⟩
      have B7 := Lib.hid (B6.out.call b7)
      clear b7
      go_wp2_with fail
      go_ret
      exact ⟨rfl, B7.out.2⟩
    · have HCC := Lib.hid hc
      rw [ruleB_ref name cols expr table to] at hc
      simp only [Bool.and_eq_true] at hc
      obtain ⟨qn, qc, q3, qt, qo, q6⟩ := hc
      obtain ⟨N, hN⟩ : ∃ N, nameT name = N := ⟨_, rfl⟩
      have zN : N.size ≤ 82 := by rw [← hN]; exact nameT_small qn
      have HN := Lib.hid hN
      have y0 : (ByteArray.mk #[99, 111, 110, 115, 116, 114, 97, 105, 110, 116]).size = 10 := rfl
      have y1 : (ByteArray.mk #[102, 111, 114, 101, 105, 103, 110, 32, 107, 101, 121]).size = 11 := rfl
      obtain ⟨n1, n2, n3⟩ := namesB_parts qc
      obtain ⟨P, hP⟩ : ∃ P, listT cols = P := ⟨_, rfl⟩
      have zP : P.size ≤ 338 := by rw [← hP]; have := listT_size cols n3; omega
      have HP : Hid (txt [40] ++ joinT (cols.map nameT) (txt [44, 32]) ++ txt [41] = P) := hP
      have HZ : Hid (∀ x ∈ cols, (nameT x).size ≤ 4611686018427387903) := fun x hx => by have := nameT_small (n3 x hx); omega
      have HLe : Hid (lets (cols.map nameT) + (cols.map nameT).length * 2 ≤ 1073741824) := by
        unfold Hid
        have := lets_map nameT cols 82 fun s h => nameT_small (n3 s h)
        rw [List.length_map]
        omega
      have hcl : cols.length ≤ 1000 := by omega
      obtain ⟨m1, m2, m3⟩ := namesB_parts qo
      obtain ⟨P2, hP2⟩ : ∃ P, listT to = P := ⟨_, rfl⟩
      have zP2 : P2.size ≤ 338 := by rw [← hP2]; have := listT_size to m3; omega
      have HP2 : Hid (txt [40] ++ joinT (to.map nameT) (txt [44, 32]) ++ txt [41] = P2) := hP2
      have HZ2 : Hid (∀ x ∈ to, (nameT x).size ≤ 4611686018427387903) := fun x hx => by have := nameT_small (m3 x hx); omega
      have HLe2 : Hid (lets (to.map nameT) + (to.map nameT).length * 2 ≤ 1073741824) := by
        unfold Hid
        have := lets_map nameT to 82 fun s h => nameT_small (m3 s h)
        rw [List.length_map]
        omega
      have htl : to.length ≤ 1000 := by omega
      obtain ⟨M, hM⟩ : ∃ M, nameT table = M := ⟨_, rfl⟩
      have zM : M.size ≤ 82 := by rw [← hM]; exact nameT_small qt
      have HM := Lib.hid hM
      have y2 : (ByteArray.mk #[114, 101, 102, 101, 114, 101, 110, 99, 101, 115]).size = 10 := rfl
      have HV : Hid (joinT ([(ByteArray.mk #[99, 111, 110, 115, 116, 114, 97, 105, 110, 116]), N, (ByteArray.mk #[102, 111, 114, 101, 105, 103, 110, 32, 107, 101, 121])] ++ [P, (ByteArray.mk #[114, 101, 102, 101, 114, 101, 110, 99, 101, 115]), M, P2]) (txt [32]) = r) := by
        unfold Hid
        rw [← hr]
        unfold ruleR
        simp only [if_true, Int.reduceEq, if_false]
        rw [hN, hP, hM, hP2]
        simp only [List.cons_append, List.nil_append]
        rw [joinT_cons, joinT_cons, joinT_cons, joinT_cons, joinT_cons, joinT_cons, joinT_one]
        apply ba_ext
        simp only [ba_list, List.append_assoc]
        rfl
      clear hr hN hP hP2 hM qn qc q3 qt qo q6 n1 n2 n3 m1 m2 m3
      go_enter Tryz.func14, Tryz.ntmps14
      go_wp2_with fail
      refine (HC.out _ (HB.out _).2).mono ?_
      rintro e w1 ⟨rfl, b1⟩
      have B1 := Lib.hid ((HB.out 42).call b1)
      clear b1
      rw [HCC.out]
      have R1 := Lib.hid (HT.out _ B1.out.2).rules
      have hst : Hid (∀ p q : World, ((p.cell? ⟨w.heap.size, 0, none⟩ = some (.string name) ∧ p.cell? ⟨w.heap.size, 1, none⟩ = some (.int .i64 3) ∧ p.cell? ⟨w.heap.size, 2, none⟩ = some (.slice a0 cols.length c0) ∧ p.cell? ⟨w.heap.size, 3, none⟩ = some (.slice a1 expr.length c1) ∧ p.cell? ⟨w.heap.size, 4, none⟩ = some (.string table) ∧ p.cell? ⟨w.heap.size, 5, none⟩ = some (.slice a2 to.length c2) ∧ p.cell? ⟨0, 18, none⟩ = some (.string (ByteArray.mk #[102, 111, 114, 101, 105, 103, 110, 32, 107, 101, 121]))) ∧ Hid (BoxV w [.string name, .int .i64 3, .slice a0 cols.length c0, .slice a1 expr.length c1, .string table, .slice a2 to.length c2] p)) → Below p.heap.size p q → ((q.cell? ⟨w.heap.size, 0, none⟩ = some (.string name) ∧ q.cell? ⟨w.heap.size, 1, none⟩ = some (.int .i64 3) ∧ q.cell? ⟨w.heap.size, 2, none⟩ = some (.slice a0 cols.length c0) ∧ q.cell? ⟨w.heap.size, 3, none⟩ = some (.slice a1 expr.length c1) ∧ q.cell? ⟨w.heap.size, 4, none⟩ = some (.string table) ∧ q.cell? ⟨w.heap.size, 5, none⟩ = some (.slice a2 to.length c2) ∧ q.cell? ⟨0, 18, none⟩ = some (.string (ByteArray.mk #[102, 111, 114, 101, 105, 103, 110, 32, 107, 101, 121]))) ∧ Hid (BoxV w [.string name, .int .i64 3, .slice a0 cols.length c0, .slice a1 expr.length c1, .string table, .slice a2 to.length c2] q))) := fun p q h hb => by
        have T := h.2.out.call hb
        have R := (HT.out _ T.2).rules
        exact ⟨⟨(T.1.2 0 (by simp)).1, (T.1.2 1 (by simp)).1, (T.1.2 2 (by simp)).1, (T.1.2 3 (by simp)).1, (T.1.2 4 (by simp)).1, (T.1.2 5 (by simp)).1, (R).2 3 (by omega) 0 (by decide)⟩, T⟩
      have D1 := Lib.hid (B1.out.call (below_drewE (Below.refl _ _)))
      have D1r := Lib.hid (HT.out _ D1.out.2).rules
      go_wp2_with fail
      go_region_held3 (fun w' => (w'.cell? ⟨w.heap.size, 0, none⟩ = some (.string name) ∧ w'.cell? ⟨w.heap.size, 1, none⟩ = some (.int .i64 3) ∧ w'.cell? ⟨w.heap.size, 2, none⟩ = some (.slice a0 cols.length c0) ∧ w'.cell? ⟨w.heap.size, 3, none⟩ = some (.slice a1 expr.length c1) ∧ w'.cell? ⟨w.heap.size, 4, none⟩ = some (.string table) ∧ w'.cell? ⟨w.heap.size, 5, none⟩ = some (.slice a2 to.length c2) ∧ w'.cell? ⟨0, 18, none⟩ = some (.string (ByteArray.mk #[102, 111, 114, 101, 105, 103, 110, 32, 107, 101, 121]))) ∧ Hid (BoxV w [.string name, .int .i64 3, .slice a0 cols.length c0, .slice a1 expr.length c1, .string table, .slice a2 to.length c2] w')) (first | assumption | exact ⟨⟨(D1.out.1.2 0 (by simp)).1, (D1.out.1.2 1 (by simp)).1, (D1.out.1.2 2 (by simp)).1, (D1.out.1.2 3 (by simp)).1, (D1.out.1.2 4 (by simp)).1, (D1.out.1.2 5 (by simp)).1, (D1r.out).2 3 (by omega) 0 (by decide)⟩, D1.out⟩ | exact hst.out _ _ (by assumption) ((Below.refl _ _).alloc (Nat.le_refl _) _))
        ((go_at_call 30; refine (implPutName name _ Zn.out N HN.out).mono ?_; rintro e wq ⟨rfl, bq⟩; have hq := hst.out _ _ (by assumption) bq; have T9 := Lib.hid hq.2.out))
      clear hst bq hq D1 D1r R1
      have HPh : Hid (Strs (wq.alloc (.cells #[.string (ByteArray.mk #[99, 111, 110, 115, 116, 114, 97, 105, 110, 116]), .string N, .string (ByteArray.mk #[102, 111, 114, 101, 105, 103, 110, 32, 107, 101, 121])] 9)) (some ⟨wq.heap.size, 0, none⟩) 3 [(ByteArray.mk #[99, 111, 110, 115, 116, 114, 97, 105, 110, 116]), N, (ByteArray.mk #[102, 111, 114, 101, 105, 103, 110, 32, 107, 101, 121])]) := rowLit1 wq [(ByteArray.mk #[99, 111, 110, 115, 116, 114, 97, 105, 110, 116]), N, (ByteArray.mk #[102, 111, 114, 101, 105, 103, 110, 32, 107, 101, 121])] (by intro t ht; simp only [List.mem_cons, List.not_mem_nil, or_false] at ht; unfold maxLen; rcases ht with rfl | rfl | rfl <;> omega) (by simp)
      have B3 : Hid (BoxV w [.string name, .int .i64 3, .slice a0 cols.length c0, .slice a1 expr.length c1, .string table, .slice a2 to.length c2] (wq.alloc (.cells #[.string (ByteArray.mk #[99, 111, 110, 115, 116, 114, 97, 105, 110, 116]), .string N, .string (ByteArray.mk #[102, 111, 114, 101, 105, 103, 110, 32, 107, 101, 121])] 9))) := T9.out.call ((Below.refl _ _).alloc (Nat.le_refl _) _)
      clear T9
      generalize wq.alloc (.cells #[.string (ByteArray.mk #[99, 111, 110, 115, 116, 114, 97, 105, 110, 116]), .string N, .string (ByteArray.mk #[102, 111, 114, 101, 105, 103, 110, 32, 107, 101, 121])] 9) = W3 at HPh B3 ⊢
      generalize wq.heap.size = pb at HPh ⊢
      have g3_0 : W3.cell? ⟨w.heap.size, 0, none⟩ = some (.string name) := (B3.out.1.2 0 (by simp)).1
      have g3_1 : W3.cell? ⟨w.heap.size, 1, none⟩ = some (.int .i64 3) := (B3.out.1.2 1 (by simp)).1
      have g3_2 : W3.cell? ⟨w.heap.size, 2, none⟩ = some (.slice a0 cols.length c0) := (B3.out.1.2 2 (by simp)).1
      have g3_3 : W3.cell? ⟨w.heap.size, 3, none⟩ = some (.slice a1 expr.length c1) := (B3.out.1.2 3 (by simp)).1
      have g3_4 : W3.cell? ⟨w.heap.size, 4, none⟩ = some (.string table) := (B3.out.1.2 4 (by simp)).1
      have g3_5 : W3.cell? ⟨w.heap.size, 5, none⟩ = some (.slice a2 to.length c2) := (B3.out.1.2 5 (by simp)).1
      go_wp2_with fail
      refine (textsN a2 c2 to _ (HK.out _ B3.out.2).2.2.sl trivial Zo.out htl HZ2.out).mono ?_
      rintro e w4 ⟨a4, c4, rfl, ho4, b4⟩
      have HS4 := Lib.hid (ho4.strs fun t ht => by obtain ⟨u, hu, rfl⟩ := List.mem_map.1 ht; have := HZ2.out u hu; unfold maxLen; omega)
      have B4 := Lib.hid (B3.out.call b4)
      have HP4 := Lib.hid (HPh.out.below b4)
      clear ho4 b4
      go_wp2_with fail
      have hip := inParens a4 c4 (to.map nameT) w4 HS4.out HLe2.out P2 HP2.out
      rw [List.length_map] at hip
      refine hip.mono ?_
      rintro e w5 ⟨rfl, b5⟩
      have B5 := Lib.hid (B4.out.call b5)
      have HP5 := Lib.hid (HP4.out.below b5)
      clear b5 hip g3_0 g3_1 g3_2 g3_3 g3_4 g3_5
      have hst : Hid (∀ p q : World, ((p.cell? ⟨w.heap.size, 2, none⟩ = some (.slice a0 cols.length c0) ∧ p.cell? ⟨w.heap.size, 4, none⟩ = some (.string table)) ∧ Hid (BoxV w [.string name, .int .i64 3, .slice a0 cols.length c0, .slice a1 expr.length c1, .string table, .slice a2 to.length c2] p ∧ Strs p (some ⟨pb, 0, none⟩) 3 [(ByteArray.mk #[99, 111, 110, 115, 116, 114, 97, 105, 110, 116]), N, (ByteArray.mk #[102, 111, 114, 101, 105, 103, 110, 32, 107, 101, 121])])) → Below p.heap.size p q → ((q.cell? ⟨w.heap.size, 2, none⟩ = some (.slice a0 cols.length c0) ∧ q.cell? ⟨w.heap.size, 4, none⟩ = some (.string table)) ∧ Hid (BoxV w [.string name, .int .i64 3, .slice a0 cols.length c0, .slice a1 expr.length c1, .string table, .slice a2 to.length c2] q ∧ Strs q (some ⟨pb, 0, none⟩) 3 [(ByteArray.mk #[99, 111, 110, 115, 116, 114, 97, 105, 110, 116]), N, (ByteArray.mk #[102, 111, 114, 101, 105, 103, 110, 32, 107, 101, 121])]))) := fun p q h hb => by
        have T := h.2.out.1.call hb
        exact ⟨⟨(T.1.2 2 (by simp)).1, (T.1.2 4 (by simp)).1⟩, T, h.2.out.2.below hb⟩
      have D5 := Lib.hid (And.intro (B5.out.call (below_drewE (Below.refl _ _))) (HP5.out.below (below_drewE (Below.refl _ _))))
      go_wp2_with fail
      go_region_held3 (fun w' => (w'.cell? ⟨w.heap.size, 2, none⟩ = some (.slice a0 cols.length c0) ∧ w'.cell? ⟨w.heap.size, 4, none⟩ = some (.string table)) ∧ Hid (BoxV w [.string name, .int .i64 3, .slice a0 cols.length c0, .slice a1 expr.length c1, .string table, .slice a2 to.length c2] w' ∧ Strs w' (some ⟨pb, 0, none⟩) 3 [(ByteArray.mk #[99, 111, 110, 115, 116, 114, 97, 105, 110, 116]), N, (ByteArray.mk #[102, 111, 114, 101, 105, 103, 110, 32, 107, 101, 121])])) (first | assumption | exact ⟨⟨(D5.out.1.1.2 2 (by simp)).1, (D5.out.1.1.2 4 (by simp)).1⟩, D5.out⟩ | exact hst.out _ _ (by assumption) ((Below.refl _ _).alloc (Nat.le_refl _) _))
        (first
          | (go_at_call 45; refine (textsN a0 c0 cols _ (HK.out _ (And.right (by assumption : _ ∧ Hid (BoxV w [.string name, .int .i64 3, .slice a0 cols.length c0, .slice a1 expr.length c1, .string table, .slice a2 to.length c2] _ ∧ Strs _ (some ⟨pb, 0, none⟩) 3 [(ByteArray.mk #[99, 111, 110, 115, 116, 114, 97, 105, 110, 116]), N, (ByteArray.mk #[102, 111, 114, 101, 105, 103, 110, 32, 107, 101, 121])]))).out.1.2).1.sl trivial Zc.out hcl HZ.out).mono ?_; rintro e wa ⟨aa, ca, rfl, ha, ba⟩; have h1 := hst.out _ _ (by assumption) ba; have HSa := Lib.hid (ha.strs fun t ht => by obtain ⟨u, hu, rfl⟩ := List.mem_map.1 ht; have := HZ.out u hu; unfold maxLen; omega))
          | (go_at_call 42; have hip := inParens aa ca (cols.map nameT) wa HSa.out HLe.out P HP.out; rw [List.length_map] at hip; refine hip.mono ?_; rintro e wb ⟨rfl, bb⟩; have h2 := hst.out _ _ h1 bb)
          | (go_at_call 30; refine (implPutName table _ Zt.out M HM.out).mono ?_; rintro e wc ⟨rfl, bc⟩; have h3 := hst.out _ _ h2 bc)
          | (go_at_call 32; have hrow := rowLit1 wc [P, (ByteArray.mk #[114, 101, 102, 101, 114, 101, 110, 99, 101, 115]), M, P2] (by intro t ht; simp only [List.mem_cons, List.not_mem_nil, or_false] at ht; unfold maxLen; rcases ht with rfl | rfl | rfl | rfl <;> omega) (by simp); refine (phraseAnd (some ⟨pb, 0, none⟩) 3 [(ByteArray.mk #[99, 111, 110, 115, 116, 114, 97, 105, 110, 116]), N, (ByteArray.mk #[102, 111, 114, 101, 105, 103, 110, 32, 107, 101, 121])] _ 4 [P, (ByteArray.mk #[114, 101, 102, 101, 114, 101, 110, 99, 101, 115]), M, P2] _ (h3.2.out.2.below ((Below.refl _ _).alloc (Nat.le_refl _) _)) hrow (.inr ⟨_, _, rfl⟩) (by simp)).mono ?_; rintro e wd ⟨ad, cd, rfl, hd, bd⟩; have h4 := hst.out _ _ (hst.out _ _ h3 ((Below.refl _ _).alloc (Nat.le_refl _) _)) bd; have HSd := Lib.hid hd)
          | (go_at_call 34; refine (phraseText ad cd ([(ByteArray.mk #[99, 111, 110, 115, 116, 114, 97, 105, 110, 116]), N, (ByteArray.mk #[102, 111, 114, 101, 105, 103, 110, 32, 107, 101, 121])] ++ [P, (ByteArray.mk #[114, 101, 102, 101, 114, 101, 110, 99, 101, 115]), M, P2]) _ HSd.out (by simp only [List.cons_append, List.nil_append, lets_cons, lets_nil, List.length_cons, List.length_nil]; omega) r HV.out).mono ?_; rintro e wf ⟨rfl, bf⟩; have h5 := hst.out _ _ h4 bf))
      go_wp2_with fail
      go_ret
      exact ⟨rfl, h5.2.out.1.2⟩

end Go.Proofs.YtpdcmmhhgnackaaGreatDoor

namespace Go.Proofs.YtpdcmmhhgnackaaGreatDoor
open Go.RowKit

set_option maxHeartbeats 2000000 in
theorem szRu (vs : List Value) (x : Ru) (left : Int) (w : World) (hR : RRu 0 w vs x) (h0 : 0 ≤ left) (h1 : left ≤ 1048576) :
    Calls Tryz.prog 11 #[.agg vs.toArray, .int .i64 left] w fun e w' => e = .returned (.int .i64 (leftN x.wt left)) ∧ Below w.heap.size w w' := by
  obtain ⟨a0, c0, a1, c1, a2, c2, rfl, hfit, k0, k1, k2⟩ := hR
  have t_name : x.name.size ≤ 9223372036854775807 := by have : x.name.size ≤ maxLen := hfit.1; unfold maxLen at this; omega
  have t_table : x.table.size ≤ 9223372036854775807 := by have : x.table.size ≤ maxLen := hfit.2.2; unfold maxLen at this; omega
  have K0 := Lib.hid (fun w' (hb : Below w.heap.size w w') => k0.kept (Kept.below hb))
  clear k0
  have K1 := Lib.hid (fun w' (hb : Below w.heap.size w w') => k1.kept (Kept.below hb))
  clear k1
  have K2 := Lib.hid (fun w' (hb : Below w.heap.size w w') => k2.kept (Kept.below hb))
  clear k2
  have HW := Lib.hid (show x.wt = x.name.size + (x.cols.length + lets x.cols) + (x.expr.length + wtL x.expr) + x.table.size + (x.to.length + lets x.to) from rfl)
  go_enter Tryz.func11, Tryz.ntmps11
  by_cases q0 : left < ((x.name.size : Nat) : Int)
  · have H : Hid (leftN x.wt left = -1) := by unfold Hid leftN; rw [if_pos (by have := HW.out; omega)]
    have d0 : decide (left - ((x.name.size : Nat) : Int) < 0) = true := by simp; omega
    go_wp2_with fail
    go_ret
    exact ⟨by rw [H.out]; rfl, (Below.refl _ _).alloc (Nat.le_refl _) _⟩
  · have d0 : decide (left - ((x.name.size : Nat) : Int) < 0) = false := by simp; omega
    go_wp2_with fail
    refine (szSs a0 c0 x.cols (left - ((x.name.size : Nat) : Int)) _ (K0.out _ ?_) (by omega) (by omega)).mono ?_
    · exact (Below.refl _ _).alloc (Nat.le_refl _) _
    by_cases q1 : left - ((x.name.size : Nat) : Int) < (((x.cols.length + lets x.cols) : Nat) : Int)
    · have H : Hid (leftN x.wt left = -1) := by unfold Hid leftN; rw [if_pos (by have := HW.out; omega)]
      rw [show leftN (x.cols.length + lets x.cols) (left - ((x.name.size : Nat) : Int)) = -1 from if_pos q1]
      rintro e w1 ⟨rfl, b1⟩
      have B1 := Lib.hid (Below.call b1 ((Below.refl _ _).alloc (Nat.le_refl _) _))
      clear b1
      go_wp2_with fail
      go_ret
      exact ⟨by rw [H.out]; rfl, B1.out⟩
    · have d1 : decide (left - ((x.name.size : Nat) : Int) - (((x.cols.length + lets x.cols) : Nat) : Int) < 0) = false := by simp; omega
      rw [show leftN (x.cols.length + lets x.cols) (left - ((x.name.size : Nat) : Int)) = left - ((x.name.size : Nat) : Int) - (((x.cols.length + lets x.cols) : Nat) : Int) from if_neg q1]
      rintro e w1 ⟨rfl, b1⟩
      have B1 := Lib.hid (Below.call b1 ((Below.refl _ _).alloc (Nat.le_refl _) _))
      have A1 := Lib.hid (Blk.call b1 (blk_new w _ [.string x.name, .int .i64 x.kind, .slice a0 x.cols.length c0, .slice a1 x.expr.length c1, .string x.table, .slice a2 x.to.length c2]))
      clear b1
      have g1_0 : w1.cell? ⟨w.heap.size, 0, none⟩ = some (.string x.name) := (A1.out.2 0 (by simp)).1
      have g1_1 : w1.cell? ⟨w.heap.size, 1, none⟩ = some (.int .i64 x.kind) := (A1.out.2 1 (by simp)).1
      have g1_2 : w1.cell? ⟨w.heap.size, 2, none⟩ = some (.slice a0 x.cols.length c0) := (A1.out.2 2 (by simp)).1
      have g1_3 : w1.cell? ⟨w.heap.size, 3, none⟩ = some (.slice a1 x.expr.length c1) := (A1.out.2 3 (by simp)).1
      have g1_4 : w1.cell? ⟨w.heap.size, 4, none⟩ = some (.string x.table) := (A1.out.2 4 (by simp)).1
      have g1_5 : w1.cell? ⟨w.heap.size, 5, none⟩ = some (.slice a2 x.to.length c2) := (A1.out.2 5 (by simp)).1
      go_wp2_with fail
      refine (szKs a1 c1 x.expr (left - ((x.name.size : Nat) : Int) - (((x.cols.length + lets x.cols) : Nat) : Int)) _ (K1.out _ ?_) (by omega) (by omega)).mono ?_
      · exact B1.out
      by_cases q2 : left - ((x.name.size : Nat) : Int) - (((x.cols.length + lets x.cols) : Nat) : Int) < (((x.expr.length + wtL x.expr) : Nat) : Int)
      · have H : Hid (leftN x.wt left = -1) := by unfold Hid leftN; rw [if_pos (by have := HW.out; omega)]
        rw [show leftN (x.expr.length + wtL x.expr) (left - ((x.name.size : Nat) : Int) - (((x.cols.length + lets x.cols) : Nat) : Int)) = -1 from if_pos q2]
        rintro e w2 ⟨rfl, b2⟩
        have B2 := Lib.hid (Below.call b2 B1.out)
        clear b2
        go_wp2_with fail
        go_ret
        exact ⟨by rw [H.out]; rfl, B2.out⟩
      · have d2 : decide (left - ((x.name.size : Nat) : Int) - (((x.cols.length + lets x.cols) : Nat) : Int) - (((x.expr.length + wtL x.expr) : Nat) : Int) < 0) = false := by simp; omega
        rw [show leftN (x.expr.length + wtL x.expr) (left - ((x.name.size : Nat) : Int) - (((x.cols.length + lets x.cols) : Nat) : Int)) = left - ((x.name.size : Nat) : Int) - (((x.cols.length + lets x.cols) : Nat) : Int) - (((x.expr.length + wtL x.expr) : Nat) : Int) from if_neg q2]
        rintro e w2 ⟨rfl, b2⟩
        have B2 := Lib.hid (Below.call b2 B1.out)
        have A2 := Lib.hid (Blk.call b2 A1.out)
        clear b2
        clear g1_0 g1_1 g1_2 g1_3 g1_4 g1_5
        have g2_0 : w2.cell? ⟨w.heap.size, 0, none⟩ = some (.string x.name) := (A2.out.2 0 (by simp)).1
        have g2_1 : w2.cell? ⟨w.heap.size, 1, none⟩ = some (.int .i64 x.kind) := (A2.out.2 1 (by simp)).1
        have g2_2 : w2.cell? ⟨w.heap.size, 2, none⟩ = some (.slice a0 x.cols.length c0) := (A2.out.2 2 (by simp)).1
        have g2_3 : w2.cell? ⟨w.heap.size, 3, none⟩ = some (.slice a1 x.expr.length c1) := (A2.out.2 3 (by simp)).1
        have g2_4 : w2.cell? ⟨w.heap.size, 4, none⟩ = some (.string x.table) := (A2.out.2 4 (by simp)).1
        have g2_5 : w2.cell? ⟨w.heap.size, 5, none⟩ = some (.slice a2 x.to.length c2) := (A2.out.2 5 (by simp)).1
        by_cases q3 : left - ((x.name.size : Nat) : Int) - (((x.cols.length + lets x.cols) : Nat) : Int) - (((x.expr.length + wtL x.expr) : Nat) : Int) < ((x.table.size : Nat) : Int)
        · have H : Hid (leftN x.wt left = -1) := by unfold Hid leftN; rw [if_pos (by have := HW.out; omega)]
          have d3 : decide (left - ((x.name.size : Nat) : Int) - (((x.cols.length + lets x.cols) : Nat) : Int) - (((x.expr.length + wtL x.expr) : Nat) : Int) - ((x.table.size : Nat) : Int) < 0) = true := by simp; omega
          go_wp2_with fail
          go_ret
          exact ⟨by rw [H.out]; rfl, B2.out⟩
        · have d3 : decide (left - ((x.name.size : Nat) : Int) - (((x.cols.length + lets x.cols) : Nat) : Int) - (((x.expr.length + wtL x.expr) : Nat) : Int) - ((x.table.size : Nat) : Int) < 0) = false := by simp; omega
          go_wp2_with fail
          refine (szSs a2 c2 x.to (left - ((x.name.size : Nat) : Int) - (((x.cols.length + lets x.cols) : Nat) : Int) - (((x.expr.length + wtL x.expr) : Nat) : Int) - ((x.table.size : Nat) : Int)) _ (K2.out _ ?_) (by omega) (by omega)).mono ?_
          · exact B2.out
          by_cases q4 : left - ((x.name.size : Nat) : Int) - (((x.cols.length + lets x.cols) : Nat) : Int) - (((x.expr.length + wtL x.expr) : Nat) : Int) - ((x.table.size : Nat) : Int) < (((x.to.length + lets x.to) : Nat) : Int)
          · have H : Hid (leftN x.wt left = -1) := by unfold Hid leftN; rw [if_pos (by have := HW.out; omega)]
            rw [show leftN (x.to.length + lets x.to) (left - ((x.name.size : Nat) : Int) - (((x.cols.length + lets x.cols) : Nat) : Int) - (((x.expr.length + wtL x.expr) : Nat) : Int) - ((x.table.size : Nat) : Int)) = -1 from if_pos q4]
            rintro e w4 ⟨rfl, b4⟩
            have B4 := Lib.hid (Below.call b4 B2.out)
            clear b4
            go_wp2_with fail
            go_ret
            exact ⟨by rw [H.out]; rfl, B4.out⟩
          · have d4 : decide (left - ((x.name.size : Nat) : Int) - (((x.cols.length + lets x.cols) : Nat) : Int) - (((x.expr.length + wtL x.expr) : Nat) : Int) - ((x.table.size : Nat) : Int) - (((x.to.length + lets x.to) : Nat) : Int) < 0) = false := by simp; omega
            rw [show leftN (x.to.length + lets x.to) (left - ((x.name.size : Nat) : Int) - (((x.cols.length + lets x.cols) : Nat) : Int) - (((x.expr.length + wtL x.expr) : Nat) : Int) - ((x.table.size : Nat) : Int)) = left - ((x.name.size : Nat) : Int) - (((x.cols.length + lets x.cols) : Nat) : Int) - (((x.expr.length + wtL x.expr) : Nat) : Int) - ((x.table.size : Nat) : Int) - (((x.to.length + lets x.to) : Nat) : Int) from if_neg q4]
            rintro e w4 ⟨rfl, b4⟩
            have B4 := Lib.hid (Below.call b4 B2.out)
            have A4 := Lib.hid (Blk.call b4 A2.out)
            clear b4
            clear g2_0 g2_1 g2_2 g2_3 g2_4 g2_5
            have g4_0 : w4.cell? ⟨w.heap.size, 0, none⟩ = some (.string x.name) := (A4.out.2 0 (by simp)).1
            have g4_1 : w4.cell? ⟨w.heap.size, 1, none⟩ = some (.int .i64 x.kind) := (A4.out.2 1 (by simp)).1
            have g4_2 : w4.cell? ⟨w.heap.size, 2, none⟩ = some (.slice a0 x.cols.length c0) := (A4.out.2 2 (by simp)).1
            have g4_3 : w4.cell? ⟨w.heap.size, 3, none⟩ = some (.slice a1 x.expr.length c1) := (A4.out.2 3 (by simp)).1
            have g4_4 : w4.cell? ⟨w.heap.size, 4, none⟩ = some (.string x.table) := (A4.out.2 4 (by simp)).1
            have g4_5 : w4.cell? ⟨w.heap.size, 5, none⟩ = some (.slice a2 x.to.length c2) := (A4.out.2 5 (by simp)).1
            have H : Hid (leftN x.wt left = left - ((x.name.size : Nat) : Int) - (((x.cols.length + lets x.cols) : Nat) : Int) - (((x.expr.length + wtL x.expr) : Nat) : Int) - ((x.table.size : Nat) : Int) - (((x.to.length + lets x.to) : Nat) : Int)) := by unfold Hid leftN; rw [if_neg (by have := HW.out; omega)]; have := HW.out; omega
            go_wp2_with fail
            go_ret
            exact ⟨by rw [H.out]; rfl, B4.out⟩

set_option maxHeartbeats 2000000 in
theorem szRuS (a : Option Addr) (c : Nat) (xs : List Ru) (left : Int) (w : World) (hx : Sl 6 RRu 0 w a c xs) (h0 : 0 ≤ left) (h1 : left ≤ 1048576) :
    Calls Tryz.prog 48 #[.slice a xs.length c, .int .i64 left] w fun e w' => e = .returned (.int .i64 (leftN (xs.length + wtS Ru.wt xs) left)) ∧ Below w.heap.size w w' := by
  have hl := hx.len
  by_cases hs : left < xs.length
  · have H : Hid (leftN (xs.length + wtS Ru.wt xs) left = -1) := by unfold Hid leftN; rw [if_pos (by omega)]
    go_enter Tryz.func48, Tryz.ntmps48
    go_wp2
    go_ret
    exact ⟨by rw [H.out]; rfl, Below.refl _ _⟩
  · have hs' : (xs.length : Int) ≤ left := by omega
    have HX := Lib.hid (fun w' (hb : Below w.heap.size w w') => hx.kept goodRu (Kept.below hb))
    clear hx
    go_enter Tryz.func48, Tryz.ntmps48
    go_wp2
    go_loopw [1, 5] (fun l i wr => ∃ k : Nat, k ≤ xs.length ∧ i = .int .i64 k ∧ wtS Ru.wt (xs.take k) ≤ left - xs.length ∧ l = .int .i64 (left - xs.length - wtS Ru.wt (xs.take k)) ∧ Below w.heap.size w wr) (fun _ i _ => xs.length - (intOf i).toNat)
    case atStart => exact ⟨0, Nat.zero_le _, rfl, by simp [wtS]; omega, by simp [wtS], Below.refl _ _⟩
    case round =>
      obtain ⟨k, hk, rfl, hsm, rfl, hb⟩ := hrel
      by_cases hlt : k < xs.length
      · obtain ⟨b, off, vs, rfl, hbl, hcs, hR⟩ := (HX.out _ hb).spot hlt
        have HR := hR
        obtain ⟨a0, c0, a1, c1, a2, c2, rfl, _⟩ := hR
        have hc0 : wr.cell? ⟨b, off + k * 6, none⟩ = some (.string xs[k].name) := hcs 0 (by simp)
        have hc1 : wr.cell? ⟨b, off + k * 6 + 1, none⟩ = some (.int .i64 xs[k].kind) := hcs 1 (by simp)
        have hc2 : wr.cell? ⟨b, off + k * 6 + 2, none⟩ = some (.slice a0 xs[k].cols.length c0) := hcs 2 (by simp)
        have hc3 : wr.cell? ⟨b, off + k * 6 + 3, none⟩ = some (.slice a1 xs[k].expr.length c1) := hcs 3 (by simp)
        have hc4 : wr.cell? ⟨b, off + k * 6 + 4, none⟩ = some (.string xs[k].table) := hcs 4 (by simp)
        have hc5 : wr.cell? ⟨b, off + k * 6 + 5, none⟩ = some (.slice a2 xs[k].to.length c2) := hcs 5 (by simp)
        have HT := Lib.hid (wtS_take Ru.wt xs k hlt)
        have HL := Lib.hid (wtS_le Ru.wt xs (k + 1))
        have HK := Lib.hid HR
        clear HR hcs
        go_wp2_with fail
        refine (szRu _ xs[k] (left - xs.length - wtS Ru.wt (xs.take k)) _ HK.out (by omega) (by omega)).mono ?_
        by_cases hle : left - xs.length - wtS Ru.wt (xs.take k) < xs[k].wt
        · rw [show leftN xs[k].wt (left - xs.length - wtS Ru.wt (xs.take k)) = -1 from if_pos hle]
          rintro e w2 ⟨rfl, hb2⟩
          have H : Hid (leftN (xs.length + wtS Ru.wt xs) left = -1) := by unfold Hid leftN; rw [if_pos (by have := HT.out; have := HL.out; omega)]
          go_wp2_with fail
          go_ret
          exact ⟨by rw [H.out]; rfl, hb.trans (hb2.mono hb.size)⟩
        · rw [show leftN xs[k].wt (left - xs.length - wtS Ru.wt (xs.take k)) = left - xs.length - wtS Ru.wt (xs.take k) - xs[k].wt from if_neg hle]
          rintro e w2 ⟨rfl, hb2⟩
          go_wp2_with fail
          go_roundw
          case rel => exact ⟨k + 1, by omega, by go_num, by have := HT.out; omega, by rw [HT.out]; go_num, hb.trans (hb2.mono hb.size)⟩
          case measure => simp [intOf]; omega
      · obtain rfl : k = xs.length := by omega
        have H : Hid (leftN (xs.length + wtS Ru.wt xs) left = left - xs.length - wtS Ru.wt xs) := by
          unfold Hid leftN; rw [List.take_length] at hsm; rw [if_neg (by omega)]; omega
        go_wp2_with fail
        go_ret
        exact ⟨by rw [H.out, List.take_length]; rfl, hb⟩

end Go.Proofs.YtpdcmmhhgnackaaGreatDoor
