/- The model's PutRule. Written by tools/gen_prule.py. -/
import Derived.Test.YtpdcmmhhgnackaaGreatDoorMTxtI
namespace Go.Proofs.YtpdcmmhhgnackaaGreatDoor
open Go.RowKit

set_option maxRecDepth 100000 in
set_option maxHeartbeats 4000000 in
theorem specPutRule (vs : List Value) (x : Ru) (w : World) (hR : RRu 0 w vs x) (hwt : x.wt ≤ 1048576) (r : ByteArray) (hr : ruleT x = r) :
    Calls Tryz.prog 12 #[.agg vs.toArray] w fun e w' => e = .returned (.string r) ∧ Below w.heap.size w w' := by
  have HC := Lib.hid (fun w' (hb : Below w.heap.size w w') => specRuleOk vs x w' (goodRu.kept hR (Kept.below hb)) hwt _ rfl)
  obtain ⟨name, kind, cols, expr, table, to⟩ := x
  obtain ⟨a0, c0, a1, c1, a2, c2, rfl, hfit, k0, k1, k2⟩ := hR
  simp only at k0 k1 k2 HC
  have HK := Lib.hid (fun w' (hb : Below w.heap.size w w') => (show Ss 0 w' a0 c0 cols ∧ Ks 0 w' a1 c1 expr ∧ Ss 0 w' a2 c2 to from ⟨k0.kept (Kept.below hb), k1.kept (Kept.below hb), k2.kept (Kept.below hb)⟩))
  have hW : (Ru.mk name kind cols expr table to).wt = name.size + (cols.length + lets cols) + (expr.length + wtL expr) + table.size + (to.length + lets to) := rfl
  have Zn := Lib.hid (show name.size ≤ 1048576 by omega)
  have Zt := Lib.hid (show table.size ≤ 1048576 by omega)
  have Zx := Lib.hid (fun (e : Ex) (hm : e ∈ expr) => (show e.wt ≤ 1048576 by have := wtL_mem hm; omega))
  have HB := Lib.hid (fun T => boxV_new w [.string name, .int .i64 kind, .slice a0 cols.length c0, .slice a1 expr.length c1, .string table, .slice a2 to.length c2] T)
  unfold ruleT at hr
  clear k0 k1 k2 hW
  cases hc : ruleB ⟨name, kind, cols, expr, table, to⟩ with
  | false =>
    have HCC := Lib.hid hc
    have HV : Hid (r = ⟨#[]⟩) := by unfold Hid; rw [← hr, hc]; rfl
    clear hr hc
    go_enter Tryz.func12, Tryz.ntmps12
    go_wp2_with fail
    refine (HC.out _ (HB.out _).2).mono ?_
    rintro e w1 ⟨rfl, b1⟩
    have B1 := Lib.hid ((HB.out 42).call b1)
    clear b1
    rw [HCC.out]
    go_wp2_with fail
    go_ret
    exact ⟨by rw [HV.out] <;> rfl, B1.out.2⟩
  | true =>
    rw [if_pos hc] at hr
    have hin : kind = 0 ∨ kind = 1 ∨ kind = 2 ∨ kind = 3 := by
      by_cases hin : 0 ≤ kind ∧ kind ≤ 3
      · omega
      · rw [ruleB_none _ _ _ _ _ _ hin] at hc; cases hc
    rcases hin with rfl | rfl | rfl | rfl
    · have HCC := Lib.hid hc
      rw [ruleB_key name 0 cols expr table to (.inl rfl)] at hc
      simp only [Bool.and_eq_true] at hc
      obtain ⟨qn, qc, q3, q4, q5⟩ := hc
      obtain ⟨N, hN⟩ : ∃ N, nameT name = N := ⟨_, rfl⟩
      have zN : N.size ≤ 82 := by rw [← hN]; exact nameT_small qn
      have HN := Lib.hid hN
      have y0 : (ByteArray.mk #[99, 111, 110, 115, 116, 114, 97, 105, 110, 116, 32]).size = 11 := rfl
      have y1 : (ByteArray.mk #[32]).size = 1 := rfl
      have y2 : (ByteArray.mk #[41]).size = 1 := rfl
      obtain ⟨p1, hp1⟩ : ∃ p, p = (ByteArray.mk #[99, 111, 110, 115, 116, 114, 97, 105, 110, 116, 32]) ++ N := ⟨_, rfl⟩
      have z1 : p1.size ≤ 93 := by rw [hp1, ByteArray.size_append]; omega
      have ad1 := run_add Tryz.prog (ByteArray.mk #[99, 111, 110, 115, 116, 114, 97, 105, 110, 116, 32]) N p1 hp1 (by omega)
      obtain ⟨n1, n2, n3⟩ := namesB_parts qc
      obtain ⟨C, hC⟩ : ∃ C, listT cols = C := ⟨_, rfl⟩
      have zC : C.size ≤ 338 := by rw [← hC]; have := listT_size cols n3; omega
      have HCl : Hid (∀ W, Strs W a0 c0 cols → Calls Tryz.prog 39 #[.slice a0 cols.length c0] W fun e w' => e = .returned (.string C) ∧ Below W.heap.size W w') := fun W h => specListT a0 c0 cols W h (by omega) n3 C hC
      have y3 : (ByteArray.mk #[32, 112, 114, 105, 109, 97, 114, 121, 32, 107, 101, 121, 32]).size = 13 := rfl
      obtain ⟨p2, hp2⟩ : ∃ p, p = p1 ++ (ByteArray.mk #[32, 112, 114, 105, 109, 97, 114, 121, 32, 107, 101, 121, 32]) := ⟨_, rfl⟩
      obtain ⟨p3, hp3⟩ : ∃ p, p = p2 ++ C := ⟨_, rfl⟩
      have z2 : p2.size ≤ 120 := by rw [hp2, ByteArray.size_append]; omega
      have z3 : p3.size ≤ 460 := by rw [hp3, ByteArray.size_append]; omega
      have ad2 := run_add Tryz.prog p1 _ p2 hp2 (by omega)
      have ad3 := run_add Tryz.prog p2 C p3 hp3 (by omega)
      have HV : Hid (r = p3) := by
        unfold Hid
        rw [← hr, hp3, hp2, hp1]
        unfold ruleR
        simp only [if_true, Int.reduceEq, if_false]
        rw [hN, hC]
        simp only [ba_assoc]
        rfl
      clear hr hN hC hp1 hp2 hp3 qn qc q3 q4 q5 n1 n2 n3
      go_enter Tryz.func12, Tryz.ntmps12
      go_wp2_with fail
      refine (HC.out _ (HB.out _).2).mono ?_
      rintro e w1 ⟨rfl, b1⟩
      have B1 := Lib.hid ((HB.out 42).call b1)
      clear b1
      rw [HCC.out]
      have gB1_0 : w1.cell? ⟨w.heap.size, 0, none⟩ = some (.string name) := (B1.out.1.2 0 (by simp)).1
      have gB1_1 : w1.cell? ⟨w.heap.size, 1, none⟩ = some (.int .i64 0) := (B1.out.1.2 1 (by simp)).1
      have gB1_2 : w1.cell? ⟨w.heap.size, 2, none⟩ = some (.slice a0 cols.length c0) := (B1.out.1.2 2 (by simp)).1
      have gB1_3 : w1.cell? ⟨w.heap.size, 3, none⟩ = some (.slice a1 expr.length c1) := (B1.out.1.2 3 (by simp)).1
      have gB1_4 : w1.cell? ⟨w.heap.size, 4, none⟩ = some (.string table) := (B1.out.1.2 4 (by simp)).1
      have gB1_5 : w1.cell? ⟨w.heap.size, 5, none⟩ = some (.slice a2 to.length c2) := (B1.out.1.2 5 (by simp)).1
      go_wp2_with fail
      refine (specPutName name _ Zn.out N HN.out).mono ?_
      rintro e w2 ⟨rfl, b2⟩
      have B2 := Lib.hid (B1.out.call b2)
      clear b2
      clear gB1_0 gB1_1 gB1_2 gB1_3 gB1_4 gB1_5
      have gB2_0 : w2.cell? ⟨w.heap.size, 0, none⟩ = some (.string name) := (B2.out.1.2 0 (by simp)).1
      have gB2_1 : w2.cell? ⟨w.heap.size, 1, none⟩ = some (.int .i64 0) := (B2.out.1.2 1 (by simp)).1
      have gB2_2 : w2.cell? ⟨w.heap.size, 2, none⟩ = some (.slice a0 cols.length c0) := (B2.out.1.2 2 (by simp)).1
      have gB2_3 : w2.cell? ⟨w.heap.size, 3, none⟩ = some (.slice a1 expr.length c1) := (B2.out.1.2 3 (by simp)).1
      have gB2_4 : w2.cell? ⟨w.heap.size, 4, none⟩ = some (.string table) := (B2.out.1.2 4 (by simp)).1
      have gB2_5 : w2.cell? ⟨w.heap.size, 5, none⟩ = some (.slice a2 to.length c2) := (B2.out.1.2 5 (by simp)).1
      go_wp2_with fail
      refine (HCl.out _ (HK.out _ B2.out.2).1.1).mono ?_
      rintro e w3 ⟨rfl, b3⟩
      have B3 := Lib.hid (B2.out.call b3)
      clear b3
      clear gB2_0 gB2_1 gB2_2 gB2_3 gB2_4 gB2_5
      go_wp2_with fail
      go_ret
      exact ⟨by rw [HV.out] <;> rfl, B3.out.2⟩
    · have HCC := Lib.hid hc
      rw [ruleB_key name 1 cols expr table to (.inr rfl)] at hc
      simp only [Bool.and_eq_true] at hc
      obtain ⟨qn, qc, q3, q4, q5⟩ := hc
      obtain ⟨N, hN⟩ : ∃ N, nameT name = N := ⟨_, rfl⟩
      have zN : N.size ≤ 82 := by rw [← hN]; exact nameT_small qn
      have HN := Lib.hid hN
      have y0 : (ByteArray.mk #[99, 111, 110, 115, 116, 114, 97, 105, 110, 116, 32]).size = 11 := rfl
      have y1 : (ByteArray.mk #[32]).size = 1 := rfl
      have y2 : (ByteArray.mk #[41]).size = 1 := rfl
      obtain ⟨p1, hp1⟩ : ∃ p, p = (ByteArray.mk #[99, 111, 110, 115, 116, 114, 97, 105, 110, 116, 32]) ++ N := ⟨_, rfl⟩
      have z1 : p1.size ≤ 93 := by rw [hp1, ByteArray.size_append]; omega
      have ad1 := run_add Tryz.prog (ByteArray.mk #[99, 111, 110, 115, 116, 114, 97, 105, 110, 116, 32]) N p1 hp1 (by omega)
      obtain ⟨n1, n2, n3⟩ := namesB_parts qc
      obtain ⟨C, hC⟩ : ∃ C, listT cols = C := ⟨_, rfl⟩
      have zC : C.size ≤ 338 := by rw [← hC]; have := listT_size cols n3; omega
      have HCl : Hid (∀ W, Strs W a0 c0 cols → Calls Tryz.prog 39 #[.slice a0 cols.length c0] W fun e w' => e = .returned (.string C) ∧ Below W.heap.size W w') := fun W h => specListT a0 c0 cols W h (by omega) n3 C hC
      have y3 : (ByteArray.mk #[32, 117, 110, 105, 113, 117, 101, 32]).size = 8 := rfl
      obtain ⟨p2, hp2⟩ : ∃ p, p = p1 ++ (ByteArray.mk #[32, 117, 110, 105, 113, 117, 101, 32]) := ⟨_, rfl⟩
      obtain ⟨p3, hp3⟩ : ∃ p, p = p2 ++ C := ⟨_, rfl⟩
      have z2 : p2.size ≤ 120 := by rw [hp2, ByteArray.size_append]; omega
      have z3 : p3.size ≤ 460 := by rw [hp3, ByteArray.size_append]; omega
      have ad2 := run_add Tryz.prog p1 _ p2 hp2 (by omega)
      have ad3 := run_add Tryz.prog p2 C p3 hp3 (by omega)
      have HV : Hid (r = p3) := by
        unfold Hid
        rw [← hr, hp3, hp2, hp1]
        unfold ruleR
        simp only [if_true, Int.reduceEq, if_false]
        rw [hN, hC]
        simp only [ba_assoc]
        rfl
      clear hr hN hC hp1 hp2 hp3 qn qc q3 q4 q5 n1 n2 n3
      go_enter Tryz.func12, Tryz.ntmps12
      go_wp2_with fail
      refine (HC.out _ (HB.out _).2).mono ?_
      rintro e w1 ⟨rfl, b1⟩
      have B1 := Lib.hid ((HB.out 42).call b1)
      clear b1
      rw [HCC.out]
      have gB1_0 : w1.cell? ⟨w.heap.size, 0, none⟩ = some (.string name) := (B1.out.1.2 0 (by simp)).1
      have gB1_1 : w1.cell? ⟨w.heap.size, 1, none⟩ = some (.int .i64 1) := (B1.out.1.2 1 (by simp)).1
      have gB1_2 : w1.cell? ⟨w.heap.size, 2, none⟩ = some (.slice a0 cols.length c0) := (B1.out.1.2 2 (by simp)).1
      have gB1_3 : w1.cell? ⟨w.heap.size, 3, none⟩ = some (.slice a1 expr.length c1) := (B1.out.1.2 3 (by simp)).1
      have gB1_4 : w1.cell? ⟨w.heap.size, 4, none⟩ = some (.string table) := (B1.out.1.2 4 (by simp)).1
      have gB1_5 : w1.cell? ⟨w.heap.size, 5, none⟩ = some (.slice a2 to.length c2) := (B1.out.1.2 5 (by simp)).1
      go_wp2_with fail
      refine (specPutName name _ Zn.out N HN.out).mono ?_
      rintro e w2 ⟨rfl, b2⟩
      have B2 := Lib.hid (B1.out.call b2)
      clear b2
      clear gB1_0 gB1_1 gB1_2 gB1_3 gB1_4 gB1_5
      have gB2_0 : w2.cell? ⟨w.heap.size, 0, none⟩ = some (.string name) := (B2.out.1.2 0 (by simp)).1
      have gB2_1 : w2.cell? ⟨w.heap.size, 1, none⟩ = some (.int .i64 1) := (B2.out.1.2 1 (by simp)).1
      have gB2_2 : w2.cell? ⟨w.heap.size, 2, none⟩ = some (.slice a0 cols.length c0) := (B2.out.1.2 2 (by simp)).1
      have gB2_3 : w2.cell? ⟨w.heap.size, 3, none⟩ = some (.slice a1 expr.length c1) := (B2.out.1.2 3 (by simp)).1
      have gB2_4 : w2.cell? ⟨w.heap.size, 4, none⟩ = some (.string table) := (B2.out.1.2 4 (by simp)).1
      have gB2_5 : w2.cell? ⟨w.heap.size, 5, none⟩ = some (.slice a2 to.length c2) := (B2.out.1.2 5 (by simp)).1
      go_wp2_with fail
      refine (HCl.out _ (HK.out _ B2.out.2).1.1).mono ?_
      rintro e w3 ⟨rfl, b3⟩
      have B3 := Lib.hid (B2.out.call b3)
      clear b3
      clear gB2_0 gB2_1 gB2_2 gB2_3 gB2_4 gB2_5
      go_wp2_with fail
      go_ret
      exact ⟨by rw [HV.out] <;> rfl, B3.out.2⟩
    · have HCC := Lib.hid hc
      rw [ruleB_check name cols expr table to] at hc
      simp only [Bool.and_eq_true] at hc
      obtain ⟨qn, q2, qe, q4, q5⟩ := hc
      obtain ⟨N, hN⟩ : ∃ N, nameT name = N := ⟨_, rfl⟩
      have zN : N.size ≤ 82 := by rw [← hN]; exact nameT_small qn
      have HN := Lib.hid hN
      have y0 : (ByteArray.mk #[99, 111, 110, 115, 116, 114, 97, 105, 110, 116, 32]).size = 11 := rfl
      have y1 : (ByteArray.mk #[32]).size = 1 := rfl
      have y2 : (ByteArray.mk #[41]).size = 1 := rfl
      obtain ⟨p1, hp1⟩ : ∃ p, p = (ByteArray.mk #[99, 111, 110, 115, 116, 114, 97, 105, 110, 116, 32]) ++ N := ⟨_, rfl⟩
      have z1 : p1.size ≤ 93 := by rw [hp1, ByteArray.size_append]; omega
      have ad1 := run_add Tryz.prog (ByteArray.mk #[99, 111, 110, 115, 116, 114, 97, 105, 110, 116, 32]) N p1 hp1 (by omega)
      obtain ⟨e1, rfl, hok⟩ := one_expr qe
      obtain ⟨E, hE⟩ : ∃ E, putT e1 = E := ⟨_, rfl⟩
      have zE : E.size ≤ 8400 := by rw [← hE]; exact putT_small hok
      have HE := Lib.hid hE
      have y3 : (ByteArray.mk #[32, 99, 104, 101, 99, 107, 32, 40]).size = 8 := rfl
      obtain ⟨p2, hp2⟩ : ∃ p, p = p1 ++ (ByteArray.mk #[32, 99, 104, 101, 99, 107, 32, 40]) := ⟨_, rfl⟩
      obtain ⟨p3, hp3⟩ : ∃ p, p = p2 ++ E := ⟨_, rfl⟩
      obtain ⟨p4, hp4⟩ : ∃ p, p = p3 ++ (ByteArray.mk #[41]) := ⟨_, rfl⟩
      have z2 : p2.size ≤ 120 := by rw [hp2, ByteArray.size_append]; omega
      have z3 : p3.size ≤ 8520 := by rw [hp3, ByteArray.size_append]; omega
      have ad2 := run_add Tryz.prog p1 _ p2 hp2 (by omega)
      have ad3 := run_add Tryz.prog p2 E p3 hp3 (by omega)
      have ad4 := run_add Tryz.prog p3 _ p4 hp4 (by omega)
      have HV : Hid (r = p4) := by
        unfold Hid
        rw [← hr, hp4, hp3, hp2, hp1]
        unfold ruleR exT
        simp only [if_true, Int.reduceEq, if_false]
        rw [hN, hE]
        simp only [ba_assoc]
        rfl
      clear hr hN hE hp1 hp2 hp3 hp4 qn q2 qe q4 q5
      go_enter Tryz.func12, Tryz.ntmps12
      go_wp2_with fail
      refine (HC.out _ (HB.out _).2).mono ?_
      rintro e w1 ⟨rfl, b1⟩
      have B1 := Lib.hid ((HB.out 42).call b1)
      clear b1
      rw [HCC.out]
      have gB1_0 : w1.cell? ⟨w.heap.size, 0, none⟩ = some (.string name) := (B1.out.1.2 0 (by simp)).1
      have gB1_1 : w1.cell? ⟨w.heap.size, 1, none⟩ = some (.int .i64 2) := (B1.out.1.2 1 (by simp)).1
      have gB1_2 : w1.cell? ⟨w.heap.size, 2, none⟩ = some (.slice a0 cols.length c0) := (B1.out.1.2 2 (by simp)).1
      have gB1_3 : w1.cell? ⟨w.heap.size, 3, none⟩ = some (.slice a1 [e1].length c1) := (B1.out.1.2 3 (by simp)).1
      have gB1_4 : w1.cell? ⟨w.heap.size, 4, none⟩ = some (.string table) := (B1.out.1.2 4 (by simp)).1
      have gB1_5 : w1.cell? ⟨w.heap.size, 5, none⟩ = some (.slice a2 to.length c2) := (B1.out.1.2 5 (by simp)).1
      go_wp2_with fail
      refine (specPutName name _ Zn.out N HN.out).mono ?_
      rintro e w2 ⟨rfl, b2⟩
      have B2 := Lib.hid (B1.out.call b2)
      clear b2
      clear gB1_0 gB1_1 gB1_2 gB1_3 gB1_4 gB1_5
      have gB2_0 : w2.cell? ⟨w.heap.size, 0, none⟩ = some (.string name) := (B2.out.1.2 0 (by simp)).1
      have gB2_1 : w2.cell? ⟨w.heap.size, 1, none⟩ = some (.int .i64 2) := (B2.out.1.2 1 (by simp)).1
      have gB2_2 : w2.cell? ⟨w.heap.size, 2, none⟩ = some (.slice a0 cols.length c0) := (B2.out.1.2 2 (by simp)).1
      have gB2_3 : w2.cell? ⟨w.heap.size, 3, none⟩ = some (.slice a1 [e1].length c1) := (B2.out.1.2 3 (by simp)).1
      have gB2_4 : w2.cell? ⟨w.heap.size, 4, none⟩ = some (.string table) := (B2.out.1.2 4 (by simp)).1
      have gB2_5 : w2.cell? ⟨w.heap.size, 5, none⟩ = some (.slice a2 to.length c2) := (B2.out.1.2 5 (by simp)).1
      obtain ⟨dd, hsl⟩ := (HK.out _ B2.out.2).2.1.sl
      obtain ⟨eb, eoff, evs, rfl, hbl, hcs, hR1⟩ := hsl.spot (i := 0) (by simp)
      obtain ⟨ea, ec, rfl, hfit1, hkid⟩ := hR1
      simp only [List.getElem_cons_zero] at hcs hkid
      have hc0 : w2.cell? ⟨eb, eoff, none⟩ = some (.int .i64 e1.kind) := by have := hcs 0 (by simp); simpa using this
      have hc1 : w2.cell? ⟨eb, eoff + 1, none⟩ = some (.string e1.text) := by have := hcs 1 (by simp); simpa using this
      have hc2 : w2.cell? ⟨eb, eoff + 2, none⟩ = some (.int .i64 e1.num) := by have := hcs 2 (by simp); simpa using this
      have hc3 : w2.cell? ⟨eb, eoff + 3, none⟩ = some (.slice ea e1.kids.length ec) := by have := hcs 3 (by simp); simpa using this
      have HKd := Lib.hid hkid.at
      clear hkid hcs hsl
      simp only [List.length_cons, List.length_nil] at gB2_3
      go_wp2_with fail
      refine (specPutExpr e1 ea ec dd _ HKd.out (Zx.out e1 (by simp)) E HE.out).mono ?_
      rintro e w3 ⟨rfl, b3⟩
      have B3 := Lib.hid (B2.out.call b3)
      clear b3
      go_wp2_with fail
      go_ret
      exact ⟨by rw [HV.out] <;> rfl, B3.out.2⟩
    · have HCC := Lib.hid hc
      rw [ruleB_ref name cols expr table to] at hc
      simp only [Bool.and_eq_true] at hc
      obtain ⟨qn, qc, q3, qt, qo, q6⟩ := hc
      obtain ⟨N, hN⟩ : ∃ N, nameT name = N := ⟨_, rfl⟩
      have zN : N.size ≤ 82 := by rw [← hN]; exact nameT_small qn
      have HN := Lib.hid hN
      have y0 : (ByteArray.mk #[99, 111, 110, 115, 116, 114, 97, 105, 110, 116, 32]).size = 11 := rfl
      have y1 : (ByteArray.mk #[32]).size = 1 := rfl
      have y2 : (ByteArray.mk #[41]).size = 1 := rfl
      obtain ⟨p1, hp1⟩ : ∃ p, p = (ByteArray.mk #[99, 111, 110, 115, 116, 114, 97, 105, 110, 116, 32]) ++ N := ⟨_, rfl⟩
      have z1 : p1.size ≤ 93 := by rw [hp1, ByteArray.size_append]; omega
      have ad1 := run_add Tryz.prog (ByteArray.mk #[99, 111, 110, 115, 116, 114, 97, 105, 110, 116, 32]) N p1 hp1 (by omega)
      obtain ⟨n1, n2, n3⟩ := namesB_parts qc
      obtain ⟨rs, hrs⟩ : ∃ rs : List ByteArray → ByteArray, rs = listT := ⟨_, rfl⟩
      obtain ⟨C, hC⟩ : ∃ C, rs cols = C := ⟨_, rfl⟩
      have zC : C.size ≤ 338 := by rw [← hC, hrs]; have := listT_size cols n3; omega
      have y3 : (ByteArray.mk #[32, 102, 111, 114, 101, 105, 103, 110, 32, 107, 101, 121, 32]).size = 13 := rfl
      obtain ⟨p2, hp2⟩ : ∃ p, p = p1 ++ (ByteArray.mk #[32, 102, 111, 114, 101, 105, 103, 110, 32, 107, 101, 121, 32]) := ⟨_, rfl⟩
      obtain ⟨p3, hp3⟩ : ∃ p, p = p2 ++ C := ⟨_, rfl⟩
      have z2 : p2.size ≤ 120 := by rw [hp2, ByteArray.size_append]; omega
      have z3 : p3.size ≤ 460 := by rw [hp3, ByteArray.size_append]; omega
      have ad2 := run_add Tryz.prog p1 _ p2 hp2 (by omega)
      have ad3 := run_add Tryz.prog p2 C p3 hp3 (by omega)
      rw [← hC] at ad3
      obtain ⟨m1, m2, m3⟩ := namesB_parts qo
      have zD : (rs to).size ≤ 338 := by rw [hrs]; have := listT_size to m3; omega
      have HLl : Hid (∀ (aa : Option Addr) (cc : Nat) (l : List ByteArray) (W : World), ((aa = a0 ∧ cc = c0 ∧ l = cols) ∨ (aa = a2 ∧ cc = c2 ∧ l = to)) → Below w.heap.size w W → Calls Tryz.prog 39 #[.slice aa l.length cc] W fun e w' => e = .returned (.string (rs l)) ∧ Below W.heap.size W w') := by
        intro aa cc l W h hb
        rcases h with ⟨rfl, rfl, rfl⟩ | ⟨rfl, rfl, rfl⟩
        · exact specListT _ _ _ W (HK.out _ hb).1.1 (by omega) n3 _ (by rw [hrs])
        · exact specListT _ _ _ W (HK.out _ hb).2.2.1 (by omega) m3 _ (by rw [hrs])
      obtain ⟨M, hM⟩ : ∃ M, nameT table = M := ⟨_, rfl⟩
      have zM : M.size ≤ 82 := by rw [← hM]; exact nameT_small qt
      have HM := Lib.hid hM
      have y4 : (ByteArray.mk #[32, 114, 101, 102, 101, 114, 101, 110, 99, 101, 115, 32]).size = 12 := rfl
      obtain ⟨p4, hp4⟩ : ∃ p, p = p3 ++ (ByteArray.mk #[32, 114, 101, 102, 101, 114, 101, 110, 99, 101, 115, 32]) := ⟨_, rfl⟩
      obtain ⟨p5, hp5⟩ : ∃ p, p = p4 ++ M := ⟨_, rfl⟩
      obtain ⟨p6, hp6⟩ : ∃ p, p = p5 ++ (ByteArray.mk #[32]) := ⟨_, rfl⟩
      obtain ⟨p7, hp7⟩ : ∃ p, p = p6 ++ rs to := ⟨_, rfl⟩
      have z4 : p4.size ≤ 480 := by rw [hp4, ByteArray.size_append]; omega
      have z5 : p5.size ≤ 570 := by rw [hp5, ByteArray.size_append]; omega
      have z6 : p6.size ≤ 571 := by rw [hp6, ByteArray.size_append]; omega
      have ad4 := run_add Tryz.prog p3 _ p4 hp4 (by omega)
      have ad5 := run_add Tryz.prog p4 M p5 hp5 (by omega)
      have ad6 := run_add Tryz.prog p5 _ p6 hp6 (by omega)
      have ad7 := run_add Tryz.prog p6 (rs to) p7 hp7 (by omega)
      have HV : Hid (r = p7) := by
        unfold Hid
        rw [← hr, hp7, hp6, hp5, hp4, hp3, hp2, hp1]
        unfold ruleR
        simp only
        rw [if_neg (by omega), if_neg (by omega), if_neg (by omega), hN, hM, ← hC, hrs]
        simp only [ba_assoc]
        rfl
      clear hrs hr hN hC hM hp1 hp2 hp3 hp4 hp5 hp6 hp7 qn qc q3 qt qo q6 n1 n2 n3 m1 m2 m3
      go_enter Tryz.func12, Tryz.ntmps12
      go_wp2_with fail
      refine (HC.out _ (HB.out _).2).mono ?_
      rintro e w1 ⟨rfl, b1⟩
      have B1 := Lib.hid ((HB.out 42).call b1)
      clear b1
      rw [HCC.out]
      have gB1_0 : w1.cell? ⟨w.heap.size, 0, none⟩ = some (.string name) := (B1.out.1.2 0 (by simp)).1
      have gB1_1 : w1.cell? ⟨w.heap.size, 1, none⟩ = some (.int .i64 3) := (B1.out.1.2 1 (by simp)).1
      have gB1_2 : w1.cell? ⟨w.heap.size, 2, none⟩ = some (.slice a0 cols.length c0) := (B1.out.1.2 2 (by simp)).1
      have gB1_3 : w1.cell? ⟨w.heap.size, 3, none⟩ = some (.slice a1 expr.length c1) := (B1.out.1.2 3 (by simp)).1
      have gB1_4 : w1.cell? ⟨w.heap.size, 4, none⟩ = some (.string table) := (B1.out.1.2 4 (by simp)).1
      have gB1_5 : w1.cell? ⟨w.heap.size, 5, none⟩ = some (.slice a2 to.length c2) := (B1.out.1.2 5 (by simp)).1
      go_wp2_with fail
      refine (specPutName name _ Zn.out N HN.out).mono ?_
      rintro e w2 ⟨rfl, b2⟩
      have B2 := Lib.hid (B1.out.call b2)
      clear b2
      clear gB1_0 gB1_1 gB1_2 gB1_3 gB1_4 gB1_5
      have gB2_0 : w2.cell? ⟨w.heap.size, 0, none⟩ = some (.string name) := (B2.out.1.2 0 (by simp)).1
      have gB2_1 : w2.cell? ⟨w.heap.size, 1, none⟩ = some (.int .i64 3) := (B2.out.1.2 1 (by simp)).1
      have gB2_2 : w2.cell? ⟨w.heap.size, 2, none⟩ = some (.slice a0 cols.length c0) := (B2.out.1.2 2 (by simp)).1
      have gB2_3 : w2.cell? ⟨w.heap.size, 3, none⟩ = some (.slice a1 expr.length c1) := (B2.out.1.2 3 (by simp)).1
      have gB2_4 : w2.cell? ⟨w.heap.size, 4, none⟩ = some (.string table) := (B2.out.1.2 4 (by simp)).1
      have gB2_5 : w2.cell? ⟨w.heap.size, 5, none⟩ = some (.slice a2 to.length c2) := (B2.out.1.2 5 (by simp)).1
      have hst : Hid (∀ p q : World, ((p.cell? ⟨w.heap.size, 2, none⟩ = some (.slice a0 cols.length c0) ∧ p.cell? ⟨w.heap.size, 4, none⟩ = some (.string table) ∧ p.cell? ⟨w.heap.size, 5, none⟩ = some (.slice a2 to.length c2)) ∧ Hid (BoxV w [.string name, .int .i64 3, .slice a0 cols.length c0, .slice a1 expr.length c1, .string table, .slice a2 to.length c2] p)) → Below p.heap.size p q → ((q.cell? ⟨w.heap.size, 2, none⟩ = some (.slice a0 cols.length c0) ∧ q.cell? ⟨w.heap.size, 4, none⟩ = some (.string table) ∧ q.cell? ⟨w.heap.size, 5, none⟩ = some (.slice a2 to.length c2)) ∧ Hid (BoxV w [.string name, .int .i64 3, .slice a0 cols.length c0, .slice a1 expr.length c1, .string table, .slice a2 to.length c2] q))) := fun p q h hb => by
        have T := h.2.out.call hb
        exact ⟨⟨(T.1.2 2 (by simp)).1, (T.1.2 4 (by simp)).1, (T.1.2 5 (by simp)).1⟩, T⟩
      have D2 := Lib.hid (B2.out.call (below_drewE (Below.refl _ _)))
      go_wp2_with fail
      go_region_held3 (fun w' => (w'.cell? ⟨w.heap.size, 2, none⟩ = some (.slice a0 cols.length c0) ∧ w'.cell? ⟨w.heap.size, 4, none⟩ = some (.string table) ∧ w'.cell? ⟨w.heap.size, 5, none⟩ = some (.slice a2 to.length c2)) ∧ Hid (BoxV w [.string name, .int .i64 3, .slice a0 cols.length c0, .slice a1 expr.length c1, .string table, .slice a2 to.length c2] w')) (first | assumption | exact ⟨⟨(D2.out.1.2 2 (by simp)).1, (D2.out.1.2 4 (by simp)).1, (D2.out.1.2 5 (by simp)).1⟩, D2.out⟩)
        (first
          | (go_at_call 39; refine (HLl.out _ _ _ _ (by first | exact .inl ⟨rfl, rfl, rfl⟩ | exact .inr ⟨rfl, rfl, rfl⟩) (And.right (by assumption : _ ∧ Hid (BoxV w [.string name, .int .i64 3, .slice a0 cols.length c0, .slice a1 expr.length c1, .string table, .slice a2 to.length c2] _))).out.2).mono ?_; rintro e wq ⟨rfl, bq⟩; have hq := hst.out _ _ (by assumption) bq)
          | (go_at_call 24; refine (specPutName table _ Zt.out M HM.out).mono ?_; rintro e wz ⟨rfl, bz⟩; have hz := hst.out _ _ (by assumption) bz))
      go_wp2_with fail
      go_ret
      exact ⟨by rw [HV.out] <;> rfl, hq.2.out.2⟩

end Go.Proofs.YtpdcmmhhgnackaaGreatDoor
