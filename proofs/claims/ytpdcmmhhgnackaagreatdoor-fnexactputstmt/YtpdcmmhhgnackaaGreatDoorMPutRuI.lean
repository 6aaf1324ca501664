/- The program's PutRule. Written by tools/gen_prule.py. -/
/- impl.textsOf over impl.putLabel. Written by tools/gen_every.py. -/
/- impl.textsOf over impl.PutCol. Written by tools/gen_every.py. -/
/- impl.textsOf over impl.PutRule. Written by tools/gen_every.py. -/
import Derived.Test.YtpdcmmhhgnackaaGreatDoorMTxtI
import Derived.Test.YtpdcmmhhgnackaaGreatDoorMStFo
import Derived.Test.YtpdcmmhhgnackaaGreatDoorMTypeTextJ
import Derived.Test.YtpdcmmhhgnackaaGreatDoorMStAg
namespace Go.Proofs.YtpdcmmhhgnackaaGreatDoor
open Go.RowKit

theorem lets_nil : lets [] = 0 := rfl

set_option maxRecDepth 100000 in
set_option maxHeartbeats 4000000 in
theorem implPutRule (vs : List Value) (x : Ru) (w : World) (hT : TabR w) (hR : RRu 0 w vs x) (hwt : x.wt ≤ 1048576) (r : ByteArray) (hr : ruleT x = r) :
    Calls Tryz.prog 14 #[.agg vs.toArray] w fun e w' => e = .returned (.string r) ∧ Below w.heap.size w w' := by
  have HC := Lib.hid (fun w' (hb : Below w.heap.size w w') => implRuleFits vs x w' (hT.call hb).formR (goodRu.kept hR (Kept.below hb)) hwt _ rfl)
  have HT := Lib.hid (fun w' (hb : Below w.heap.size w w') => hT.call hb)
  have hlr : 0 < w.heap.size := hT.rules.1
  obtain ⟨name, kind, cols, expr, table, to⟩ := x
  obtain ⟨a0, c0, a1, c1, a2, c2, rfl, hfit, k0, k1, k2⟩ := hR
  simp only at k0 k1 k2 HC
  have HK := Lib.hid (fun w' (hb : Below w.heap.size w w') => (show Ss 0 w' a0 c0 cols ∧ Ks 0 w' a1 c1 expr ∧ Ss 0 w' a2 c2 to from ⟨k0.kept (Kept.below hb), k1.kept (Kept.below hb), k2.kept (Kept.below hb)⟩))
  have hW : (Ru.mk name kind cols expr table to).wt = name.size + (cols.length + lets cols) + (expr.length + wtL expr) + table.size + (to.length + lets to) := rfl
  have Zn := Lib.hid (show name.size ≤ 1048576 by omega)
  have Zt := Lib.hid (show table.size ≤ 1048576 by omega)
  have Zx := Lib.hid (fun (e : Ex) (hm : e ∈ expr) => (show e.wt ≤ 1048576 by have := wtL_mem hm; omega))
  have Zc := Lib.hid (fun (s : ByteArray) (hm : s ∈ cols) => (show s.size ≤ 1048576 by have := lets_mem hm; omega))
  have Zo := Lib.hid (fun (s : ByteArray) (hm : s ∈ to) => (show s.size ≤ 1048576 by have := lets_mem hm; omega))
  have HB := Lib.hid (fun T => boxV_new w [.string name, .int .i64 kind, .slice a0 cols.length c0, .slice a1 expr.length c1, .string table, .slice a2 to.length c2] T)
  unfold ruleT at hr
  clear k0 k1 k2 hW hT
  cases hc : ruleB ⟨name, kind, cols, expr, table, to⟩ with
  | false =>
    have HCC := Lib.hid hc
    have HV : Hid (r = ⟨#[]⟩) := by unfold Hid; rw [← hr, hc]; rfl
    clear hr hc
    go_enter Tryz.func14, Tryz.ntmps14
    go_wp2_with fail
    refine (HC.out _ (HB.out _).2).mono ?_
    rintro e w1 ⟨rfl, b1⟩
    have B1 := Lib.hid ((HB.out 42).call b1)
    clear b1
    rw [HCC.out]
    go_wp2_with fail
    go_ret
    exact ⟨by rw [HV.out] <;> rfl, B1.out.2⟩
  | true =>
    rw [if_pos hc] at hr
    have hin : kind = 0 ∨ kind = 1 ∨ kind = 2 ∨ kind = 3 := by
      by_cases hin : 0 ≤ kind ∧ kind ≤ 3
      · omega
      · rw [ruleB_none _ _ _ _ _ _ hin] at hc; cases hc
    rcases hin with rfl | rfl | rfl | rfl
    · have HCC := Lib.hid hc
      rw [ruleB_key name 0 cols expr table to (.inl rfl)] at hc
      simp only [Bool.and_eq_true] at hc
      obtain ⟨qn, qc, q3, q4, q5⟩ := hc
      obtain ⟨N, hN⟩ : ∃ N, nameT name = N := ⟨_, rfl⟩
      have zN : N.size ≤ 82 := by rw [← hN]; exact nameT_small qn
      have HN := Lib.hid hN
      have y0 : (ByteArray.mk #[99, 111, 110, 115, 116, 114, 97, 105, 110, 116]).size = 10 := rfl
      have y1 : (ByteArray.mk #[112, 114, 105, 109, 97, 114, 121, 32, 107, 101, 121]).size = 11 := rfl
      obtain ⟨n1, n2, n3⟩ := namesB_parts qc
      obtain ⟨P, hP⟩ : ∃ P, listT cols = P := ⟨_, rfl⟩
      have zP : P.size ≤ 338 := by rw [← hP]; have := listT_size cols n3; omega
      have HP : Hid (txt [40] ++ joinT (cols.map nameT) (txt [44, 32]) ++ txt [41] = P) := hP
      have HZ : Hid (∀ x ∈ cols, (nameT x).size ≤ 4611686018427387903) := fun x hx => by have := nameT_small (n3 x hx); omega
      have HLe : Hid (lets (cols.map nameT) + (cols.map nameT).length * 2 ≤ 1073741824) := by
        unfold Hid
        have := lets_map nameT cols 82 fun s h => nameT_small (n3 s h)
        rw [List.length_map]
        omega
      have hcl : cols.length ≤ 1000 := by omega
      have HV : Hid (joinT ([(ByteArray.mk #[99, 111, 110, 115, 116, 114, 97, 105, 110, 116]), N, (ByteArray.mk #[112, 114, 105, 109, 97, 114, 121, 32, 107, 101, 121])] ++ [P]) (txt [32]) = r) := by
        unfold Hid
        rw [← hr]
        unfold ruleR
        simp only [if_true, Int.reduceEq, if_false]
        rw [hN, hP]
        simp only [List.cons_append, List.nil_append]
        rw [joinT_cons, joinT_cons, joinT_cons, joinT_one]
        apply ba_ext
        simp only [ba_list, List.append_assoc]
        rfl
      clear hr hN hP qn qc q3 q4 q5 n1 n2 n3
      go_enter Tryz.func14, Tryz.ntmps14
      go_wp2_with fail
      refine (HC.out _ (HB.out _).2).mono ?_
      rintro e w1 ⟨rfl, b1⟩
      have B1 := Lib.hid ((HB.out 42).call b1)
      clear b1
      rw [HCC.out]
      have R1 := Lib.hid (HT.out _ B1.out.2).rules
      have hst : Hid (∀ p q : World, ((p.cell? ⟨w.heap.size, 0, none⟩ = some (.string name) ∧ p.cell? ⟨w.heap.size, 1, none⟩ = some (.int .i64 0) ∧ p.cell? ⟨w.heap.size, 2, none⟩ = some (.slice a0 cols.length c0) ∧ p.cell? ⟨w.heap.size, 3, none⟩ = some (.slice a1 expr.length c1) ∧ p.cell? ⟨w.heap.size, 4, none⟩ = some (.string table) ∧ p.cell? ⟨w.heap.size, 5, none⟩ = some (.slice a2 to.length c2) ∧ p.cell? ⟨0, 0, none⟩ = some (.string (ByteArray.mk #[112, 114, 105, 109, 97, 114, 121, 32, 107, 101, 121]))) ∧ Hid (BoxV w [.string name, .int .i64 0, .slice a0 cols.length c0, .slice a1 expr.length c1, .string table, .slice a2 to.length c2] p)) → Below p.heap.size p q → ((q.cell? ⟨w.heap.size, 0, none⟩ = some (.string name) ∧ q.cell? ⟨w.heap.size, 1, none⟩ = some (.int .i64 0) ∧ q.cell? ⟨w.heap.size, 2, none⟩ = some (.slice a0 cols.length c0) ∧ q.cell? ⟨w.heap.size, 3, none⟩ = some (.slice a1 expr.length c1) ∧ q.cell? ⟨w.heap.size, 4, none⟩ = some (.string table) ∧ q.cell? ⟨w.heap.size, 5, none⟩ = some (.slice a2 to.length c2) ∧ q.cell? ⟨0, 0, none⟩ = some (.string (ByteArray.mk #[112, 114, 105, 109, 97, 114, 121, 32, 107, 101, 121]))) ∧ Hid (BoxV w [.string name, .int .i64 0, .slice a0 cols.length c0, .slice a1 expr.length c1, .string table, .slice a2 to.length c2] q))) := fun p q h hb => by
        have T := h.2.out.call hb
        have R := (HT.out _ T.2).rules
        exact ⟨⟨(T.1.2 0 (by simp)).1, (T.1.2 1 (by simp)).1, (T.1.2 2 (by simp)).1, (T.1.2 3 (by simp)).1, (T.1.2 4 (by simp)).1, (T.1.2 5 (by simp)).1, (R).2 0 (by omega) 0 (by decide)⟩, T⟩
      have D1 := Lib.hid (B1.out.call (below_drewE (Below.refl _ _)))
      have D1r := Lib.hid (HT.out _ D1.out.2).rules
      go_wp2_with fail
      go_region_held3 (fun w' => (w'.cell? ⟨w.heap.size, 0, none⟩ = some (.string name) ∧ w'.cell? ⟨w.heap.size, 1, none⟩ = some (.int .i64 0) ∧ w'.cell? ⟨w.heap.size, 2, none⟩ = some (.slice a0 cols.length c0) ∧ w'.cell? ⟨w.heap.size, 3, none⟩ = some (.slice a1 expr.length c1) ∧ w'.cell? ⟨w.heap.size, 4, none⟩ = some (.string table) ∧ w'.cell? ⟨w.heap.size, 5, none⟩ = some (.slice a2 to.length c2) ∧ w'.cell? ⟨0, 0, none⟩ = some (.string (ByteArray.mk #[112, 114, 105, 109, 97, 114, 121, 32, 107, 101, 121]))) ∧ Hid (BoxV w [.string name, .int .i64 0, .slice a0 cols.length c0, .slice a1 expr.length c1, .string table, .slice a2 to.length c2] w')) (first | assumption | exact ⟨⟨(D1.out.1.2 0 (by simp)).1, (D1.out.1.2 1 (by simp)).1, (D1.out.1.2 2 (by simp)).1, (D1.out.1.2 3 (by simp)).1, (D1.out.1.2 4 (by simp)).1, (D1.out.1.2 5 (by simp)).1, (D1r.out).2 0 (by omega) 0 (by decide)⟩, D1.out⟩ | exact hst.out _ _ (by assumption) ((Below.refl _ _).alloc (Nat.le_refl _) _))
        ((go_at_call 30; refine (implPutName name _ Zn.out N HN.out).mono ?_; rintro e wq ⟨rfl, bq⟩; have hq := hst.out _ _ (by assumption) bq; have T9 := Lib.hid hq.2.out))
      clear hst bq hq D1 D1r R1
      have HPh : Hid (Strs (wq.alloc (.cells #[.string (ByteArray.mk #[99, 111, 110, 115, 116, 114, 97, 105, 110, 116]), .string N, .string (ByteArray.mk #[112, 114, 105, 109, 97, 114, 121, 32, 107, 101, 121])] 9)) (some ⟨wq.heap.size, 0, none⟩) 3 [(ByteArray.mk #[99, 111, 110, 115, 116, 114, 97, 105, 110, 116]), N, (ByteArray.mk #[112, 114, 105, 109, 97, 114, 121, 32, 107, 101, 121])]) := rowLit1 wq [(ByteArray.mk #[99, 111, 110, 115, 116, 114, 97, 105, 110, 116]), N, (ByteArray.mk #[112, 114, 105, 109, 97, 114, 121, 32, 107, 101, 121])] (by intro t ht; simp only [List.mem_cons, List.not_mem_nil, or_false] at ht; unfold maxLen; rcases ht with rfl | rfl | rfl <;> omega) (by simp)
      have B3 : Hid (BoxV w [.string name, .int .i64 0, .slice a0 cols.length c0, .slice a1 expr.length c1, .string table, .slice a2 to.length c2] (wq.alloc (.cells #[.string (ByteArray.mk #[99, 111, 110, 115, 116, 114, 97, 105, 110, 116]), .string N, .string (ByteArray.mk #[112, 114, 105, 109, 97, 114, 121, 32, 107, 101, 121])] 9))) := T9.out.call ((Below.refl _ _).alloc (Nat.le_refl _) _)
      clear T9
      generalize wq.alloc (.cells #[.string (ByteArray.mk #[99, 111, 110, 115, 116, 114, 97, 105, 110, 116]), .string N, .string (ByteArray.mk #[112, 114, 105, 109, 97, 114, 121, 32, 107, 101, 121])] 9) = W3 at HPh B3 ⊢
      generalize wq.heap.size = pb at HPh ⊢
      have g3_0 : W3.cell? ⟨w.heap.size, 0, none⟩ = some (.string name) := (B3.out.1.2 0 (by simp)).1
      have g3_1 : W3.cell? ⟨w.heap.size, 1, none⟩ = some (.int .i64 0) := (B3.out.1.2 1 (by simp)).1
      have g3_2 : W3.cell? ⟨w.heap.size, 2, none⟩ = some (.slice a0 cols.length c0) := (B3.out.1.2 2 (by simp)).1
      have g3_3 : W3.cell? ⟨w.heap.size, 3, none⟩ = some (.slice a1 expr.length c1) := (B3.out.1.2 3 (by simp)).1
      have g3_4 : W3.cell? ⟨w.heap.size, 4, none⟩ = some (.string table) := (B3.out.1.2 4 (by simp)).1
      have g3_5 : W3.cell? ⟨w.heap.size, 5, none⟩ = some (.slice a2 to.length c2) := (B3.out.1.2 5 (by simp)).1
      go_wp2_with fail
      refine (textsN a0 c0 cols _ (HK.out _ B3.out.2).1.sl trivial Zc.out hcl HZ.out).mono ?_
      rintro e w4 ⟨a4, c4, rfl, ho4, b4⟩
      have HS4 := Lib.hid (ho4.strs fun t ht => by obtain ⟨u, hu, rfl⟩ := List.mem_map.1 ht; have := HZ.out u hu; unfold maxLen; omega)
      have B4 := Lib.hid (B3.out.call b4)
      have HP4 := Lib.hid (HPh.out.below b4)
      clear ho4 b4
      go_wp2_with fail
      have hip := inParens a4 c4 (cols.map nameT) w4 HS4.out HLe.out P HP.out
      rw [List.length_map] at hip
      refine hip.mono ?_
      rintro e w5 ⟨rfl, b5⟩
      have B5 := Lib.hid (B4.out.call b5)
      have HP5 := Lib.hid (HP4.out.below b5)
      clear b5 hip
      go_wp2_with fail
      have hrow := rowLit1 w5 [P] (by intro t ht; simp only [List.mem_cons, List.not_mem_nil, or_false] at ht; rw [ht]; unfold maxLen; omega) (by simp)
      refine (phraseAnd (some ⟨pb, 0, none⟩) 3 [(ByteArray.mk #[99, 111, 110, 115, 116, 114, 97, 105, 110, 116]), N, (ByteArray.mk #[112, 114, 105, 109, 97, 114, 121, 32, 107, 101, 121])] _ 1 [P] _ (HP5.out.below ((Below.refl _ _).alloc (Nat.le_refl _) _)) hrow (.inr ⟨_, _, rfl⟩) (by simp)).mono ?_
      rintro e w6 ⟨a6, c6, rfl, hs6, b6⟩
      have HS6 := Lib.hid hs6
      have B6 := Lib.hid ((B5.out.call ((Below.refl _ _).alloc (Nat.le_refl _) _)).call b6)
      clear hs6 b6 hrow
      go_wp2_with fail
      refine (phraseText a6 c6 ([(ByteArray.mk #[99, 111, 110, 115, 116, 114, 97, 105, 110, 116]), N, (ByteArray.mk #[112, 114, 105, 109, 97, 114, 121, 32, 107, 101, 121])] ++ [P]) _ HS6.out (by simp only [List.cons_append, List.nil_append, lets_cons, lets_nil, List.length_cons, List.length_nil]; omega) r HV.out).mono ?_
      rintro e w7 ⟨rfl, b7⟩
      have B7 := Lib.hid (B6.out.call b7)
      clear b7
      go_wp2_with fail
      go_ret
      exact ⟨rfl, B7.out.2⟩
    · have HCC := Lib.hid hc
      rw [ruleB_key name 1 cols expr table to (.inr rfl)] at hc
      simp only [Bool.and_eq_true] at hc
      obtain ⟨qn, qc, q3, q4, q5⟩ := hc
      obtain ⟨N, hN⟩ : ∃ N, nameT name = N := ⟨_, rfl⟩
      have zN : N.size ≤ 82 := by rw [← hN]; exact nameT_small qn
      have HN := Lib.hid hN
      have y0 : (ByteArray.mk #[99, 111, 110, 115, 116, 114, 97, 105, 110, 116]).size = 10 := rfl
      have y1 : (ByteArray.mk #[117, 110, 105, 113, 117, 101]).size = 6 := rfl
      obtain ⟨n1, n2, n3⟩ := namesB_parts qc
      obtain ⟨P, hP⟩ : ∃ P, listT cols = P := ⟨_, rfl⟩
      have zP : P.size ≤ 338 := by rw [← hP]; have := listT_size cols n3; omega
      have HP : Hid (txt [40] ++ joinT (cols.map nameT) (txt [44, 32]) ++ txt [41] = P) := hP
      have HZ : Hid (∀ x ∈ cols, (nameT x).size ≤ 4611686018427387903) := fun x hx => by have := nameT_small (n3 x hx); omega
      have HLe : Hid (lets (cols.map nameT) + (cols.map nameT).length * 2 ≤ 1073741824) := by
        unfold Hid
        have := lets_map nameT cols 82 fun s h => nameT_small (n3 s h)
        rw [List.length_map]
        omega
      have hcl : cols.length ≤ 1000 := by omega
      have HV : Hid (joinT ([(ByteArray.mk #[99, 111, 110, 115, 116, 114, 97, 105, 110, 116]), N, (ByteArray.mk #[117, 110, 105, 113, 117, 101])] ++ [P]) (txt [32]) = r) := by
        unfold Hid
        rw [← hr]
        unfold ruleR
        simp only [if_true, Int.reduceEq, if_false]
        rw [hN, hP]
        simp only [List.cons_append, List.nil_append]
        rw [joinT_cons, joinT_cons, joinT_cons, joinT_one]
        apply ba_ext
        simp only [ba_list, List.append_assoc]
        rfl
      clear hr hN hP qn qc q3 q4 q5 n1 n2 n3
      go_enter Tryz.func14, Tryz.ntmps14
      go_wp2_with fail
      refine (HC.out _ (HB.out _).2).mono ?_
      rintro e w1 ⟨rfl, b1⟩
      have B1 := Lib.hid ((HB.out 42).call b1)
      clear b1
      rw [HCC.out]
      have R1 := Lib.hid (HT.out _ B1.out.2).rules
      have hst : Hid (∀ p q : World, ((p.cell? ⟨w.heap.size, 0, none⟩ = some (.string name) ∧ p.cell? ⟨w.heap.size, 1, none⟩ = some (.int .i64 1) ∧ p.cell? ⟨w.heap.size, 2, none⟩ = some (.slice a0 cols.length c0) ∧ p.cell? ⟨w.heap.size, 3, none⟩ = some (.slice a1 expr.length c1) ∧ p.cell? ⟨w.heap.size, 4, none⟩ = some (.string table) ∧ p.cell? ⟨w.heap.size, 5, none⟩ = some (.slice a2 to.length c2) ∧ p.cell? ⟨0, 6, none⟩ = some (.string (ByteArray.mk #[117, 110, 105, 113, 117, 101]))) ∧ Hid (BoxV w [.string name, .int .i64 1, .slice a0 cols.length c0, .slice a1 expr.length c1, .string table, .slice a2 to.length c2] p)) → Below p.heap.size p q → ((q.cell? ⟨w.heap.size, 0, none⟩ = some (.string name) ∧ q.cell? ⟨w.heap.size, 1, none⟩ = some (.int .i64 1) ∧ q.cell? ⟨w.heap.size, 2, none⟩ = some (.slice a0 cols.length c0) ∧ q.cell? ⟨w.heap.size, 3, none⟩ = some (.slice a1 expr.length c1) ∧ q.cell? ⟨w.heap.size, 4, none⟩ = some (.string table) ∧ q.cell? ⟨w.heap.size, 5, none⟩ = some (.slice a2 to.length c2) ∧ q.cell? ⟨0, 6, none⟩ = some (.string (ByteArray.mk #[117, 110, 105, 113, 117, 101]))) ∧ Hid (BoxV w [.string name, .int .i64 1, .slice a0 cols.length c0, .slice a1 expr.length c1, .string table, .slice a2 to.length c2] q))) := fun p q h hb => by
        have T := h.2.out.call hb
        have R := (HT.out _ T.2).rules
        exact ⟨⟨(T.1.2 0 (by simp)).1, (T.1.2 1 (by simp)).1, (T.1.2 2 (by simp)).1, (T.1.2 3 (by simp)).1, (T.1.2 4 (by simp)).1, (T.1.2 5 (by simp)).1, (R).2 1 (by omega) 0 (by decide)⟩, T⟩
      have D1 := Lib.hid (B1.out.call (below_drewE (Below.refl _ _)))
      have D1r := Lib.hid (HT.out _ D1.out.2).rules
      go_wp2_with fail
      go_region_held3 (fun w' => (w'.cell? ⟨w.heap.size, 0, none⟩ = some (.string name) ∧ w'.cell? ⟨w.heap.size, 1, none⟩ = some (.int .i64 1) ∧ w'.cell? ⟨w.heap.size, 2, none⟩ = some (.slice a0 cols.length c0) ∧ w'.cell? ⟨w.heap.size, 3, none⟩ = some (.slice a1 expr.length c1) ∧ w'.cell? ⟨w.heap.size, 4, none⟩ = some (.string table) ∧ w'.cell? ⟨w.heap.size, 5, none⟩ = some (.slice a2 to.length c2) ∧ w'.cell? ⟨0, 6, none⟩ = some (.string (ByteArray.mk #[117, 110, 105, 113, 117, 101]))) ∧ Hid (BoxV w [.string name, .int .i64 1, .slice a0 cols.length c0, .slice a1 expr.length c1, .string table, .slice a2 to.length c2] w')) (first | assumption | exact ⟨⟨(D1.out.1.2 0 (by simp)).1, (D1.out.1.2 1 (by simp)).1, (D1.out.1.2 2 (by simp)).1, (D1.out.1.2 3 (by simp)).1, (D1.out.1.2 4 (by simp)).1, (D1.out.1.2 5 (by simp)).1, (D1r.out).2 1 (by omega) 0 (by decide)⟩, D1.out⟩ | exact hst.out _ _ (by assumption) ((Below.refl _ _).alloc (Nat.le_refl _) _))
        ((go_at_call 30; refine (implPutName name _ Zn.out N HN.out).mono ?_; rintro e wq ⟨rfl, bq⟩; have hq := hst.out _ _ (by assumption) bq; have T9 := Lib.hid hq.2.out))
      clear hst bq hq D1 D1r R1
      have HPh : Hid (Strs (wq.alloc (.cells #[.string (ByteArray.mk #[99, 111, 110, 115, 116, 114, 97, 105, 110, 116]), .string N, .string (ByteArray.mk #[117, 110, 105, 113, 117, 101])] 9)) (some ⟨wq.heap.size, 0, none⟩) 3 [(ByteArray.mk #[99, 111, 110, 115, 116, 114, 97, 105, 110, 116]), N, (ByteArray.mk #[117, 110, 105, 113, 117, 101])]) := rowLit1 wq [(ByteArray.mk #[99, 111, 110, 115, 116, 114, 97, 105, 110, 116]), N, (ByteArray.mk #[117, 110, 105, 113, 117, 101])] (by intro t ht; simp only [List.mem_cons, List.not_mem_nil, or_false] at ht; unfold maxLen; rcases ht with rfl | rfl | rfl <;> omega) (by simp)
      have B3 : Hid (BoxV w [.string name, .int .i64 1, .slice a0 cols.length c0, .slice a1 expr.length c1, .string table, .slice a2 to.length c2] (wq.alloc (.cells #[.string (ByteArray.mk #[99, 111, 110, 115, 116, 114, 97, 105, 110, 116]), .string N, .string (ByteArray.mk #[117, 110, 105, 113, 117, 101])] 9))) := T9.out.call ((Below.refl _ _).alloc (Nat.le_refl _) _)
      clear T9
      generalize wq.alloc (.cells #[.string (ByteArray.mk #[99, 111, 110, 115, 116, 114, 97, 105, 110, 116]), .string N, .string (ByteArray.mk #[117, 110, 105, 113, 117, 101])] 9) = W3 at HPh B3 ⊢
      generalize wq.heap.size = pb at HPh ⊢
      have g3_0 : W3.cell? ⟨w.heap.size, 0, none⟩ = some (.string name) := (B3.out.1.2 0 (by simp)).1
      have g3_1 : W3.cell? ⟨w.heap.size, 1, none⟩ = some (.int .i64 1) := (B3.out.1.2 1 (by simp)).1
      have g3_2 : W3.cell? ⟨w.heap.size, 2, none⟩ = some (.slice a0 cols.length c0) := (B3.out.1.2 2 (by simp)).1
      have g3_3 : W3.cell? ⟨w.heap.size, 3, none⟩ = some (.slice a1 expr.length c1) := (B3.out.1.2 3 (by simp)).1
      have g3_4 : W3.cell? ⟨w.heap.size, 4, none⟩ = some (.string table) := (B3.out.1.2 4 (by simp)).1
      have g3_5 : W3.cell? ⟨w.heap.size, 5, none⟩ = some (.slice a2 to.length c2) := (B3.out.1.2 5 (by simp)).1
      go_wp2_with fail
      refine (textsN a0 c0 cols _ (HK.out _ B3.out.2).1.sl trivial Zc.out hcl HZ.out).mono ?_
      rintro e w4 ⟨a4, c4, rfl, ho4, b4⟩
      have HS4 := Lib.hid (ho4.strs fun t ht => by obtain ⟨u, hu, rfl⟩ := List.mem_map.1 ht; have := HZ.out u hu; unfold maxLen; omega)
      have B4 := Lib.hid (B3.out.call b4)
      have HP4 := Lib.hid (HPh.out.below b4)
      clear ho4 b4
      go_wp2_with fail
      have hip := inParens a4 c4 (cols.map nameT) w4 HS4.out HLe.out P HP.out
      rw [List.length_map] at hip
      refine hip.mono ?_
      rintro e w5 ⟨rfl, b5⟩
      have B5 := Lib.hid (B4.out.call b5)
      have HP5 := Lib.hid (HP4.out.below b5)
      clear b5 hip
      go_wp2_with fail
      have hrow := rowLit1 w5 [P] (by intro t ht; simp only [List.mem_cons, List.not_mem_nil, or_false] at ht; rw [ht]; unfold maxLen; omega) (by simp)
      refine (phraseAnd (some ⟨pb, 0, none⟩) 3 [(ByteArray.mk #[99, 111, 110, 115, 116, 114, 97, 105, 110, 116]), N, (ByteArray.mk #[117, 110, 105, 113, 117, 101])] _ 1 [P] _ (HP5.out.below ((Below.refl _ _).alloc (Nat.le_refl _) _)) hrow (.inr ⟨_, _, rfl⟩) (by simp)).mono ?_
      rintro e w6 ⟨a6, c6, rfl, hs6, b6⟩
      have HS6 := Lib.hid hs6
      have B6 := Lib.hid ((B5.out.call ((Below.refl _ _).alloc (Nat.le_refl _) _)).call b6)
      clear hs6 b6 hrow
      go_wp2_with fail
      refine (phraseText a6 c6 ([(ByteArray.mk #[99, 111, 110, 115, 116, 114, 97, 105, 110, 116]), N, (ByteArray.mk #[117, 110, 105, 113, 117, 101])] ++ [P]) _ HS6.out (by simp only [List.cons_append, List.nil_append, lets_cons, lets_nil, List.length_cons, List.length_nil]; omega) r HV.out).mono ?_
      rintro e w7 ⟨rfl, b7⟩
      have B7 := Lib.hid (B6.out.call b7)
      clear b7
      go_wp2_with fail
      go_ret
      exact ⟨rfl, B7.out.2⟩
    · have HCC := Lib.hid hc
      rw [ruleB_check name cols expr table to] at hc
      simp only [Bool.and_eq_true] at hc
      obtain ⟨qn, q2, qe, q4, q5⟩ := hc
      obtain ⟨N, hN⟩ : ∃ N, nameT name = N := ⟨_, rfl⟩
      have zN : N.size ≤ 82 := by rw [← hN]; exact nameT_small qn
      have HN := Lib.hid hN
      have y0 : (ByteArray.mk #[99, 111, 110, 115, 116, 114, 97, 105, 110, 116]).size = 10 := rfl
      have y1 : (ByteArray.mk #[99, 104, 101, 99, 107]).size = 5 := rfl
      obtain ⟨e1, rfl, hok⟩ := one_expr qe
      obtain ⟨E, hE⟩ : ∃ E, putT e1 = E := ⟨_, rfl⟩
      have zE : E.size ≤ 8400 := by rw [← hE]; exact putT_small hok
      obtain ⟨P, hP⟩ : ∃ P, txt [40] ++ joinT [E] (txt [44, 32]) ++ txt [41] = P := ⟨_, rfl⟩
      have zP : P.size ≤ 8402 := by rw [← hP, joinT_one, ByteArray.size_append, ByteArray.size_append, show (txt [40]).size = 1 from rfl, show (txt [41]).size = 1 from rfl]; omega
      have HP := Lib.hid hP
      have HMap : Hid ([e1].map putT = [E]) := by unfold Hid; rw [← hE]; rfl
      have HZ : Hid (∀ x ∈ [e1], (putT x).size ≤ 4611686018427387903) := by intro x hx; simp only [List.mem_cons, List.not_mem_nil, or_false] at hx; rw [hx, hE]; omega
      have HV : Hid (joinT ([(ByteArray.mk #[99, 111, 110, 115, 116, 114, 97, 105, 110, 116]), N, (ByteArray.mk #[99, 104, 101, 99, 107])] ++ [P]) (txt [32]) = r) := by
        unfold Hid
        rw [← hr, ← hP, joinT_one]
        unfold ruleR exT
        simp only [if_true, Int.reduceEq, if_false]
        rw [hN, hE]
        simp only [List.cons_append, List.nil_append]
        rw [joinT_cons, joinT_cons, joinT_cons, joinT_one]
        apply ba_ext
        simp only [ba_list, List.append_assoc]
        rfl
      clear hr hN hE hP qn q2 qe q4 q5
      go_enter Tryz.func14, Tryz.ntmps14
      go_wp2_with fail
      refine (HC.out _ (HB.out _).2).mono ?_
      rintro e w1 ⟨rfl, b1⟩
      have B1 := Lib.hid ((HB.out 42).call b1)
      clear b1
      rw [HCC.out]
      have R1 := Lib.hid (HT.out _ B1.out.2).rules
      have hst : Hid (∀ p q : World, ((p.cell? ⟨w.heap.size, 0, none⟩ = some (.string name) ∧ p.cell? ⟨w.heap.size, 1, none⟩ = some (.int .i64 2) ∧ p.cell? ⟨w.heap.size, 2, none⟩ = some (.slice a0 cols.length c0) ∧ p.cell? ⟨w.heap.size, 3, none⟩ = some (.slice a1 [e1].length c1) ∧ p.cell? ⟨w.heap.size, 4, none⟩ = some (.string table) ∧ p.cell? ⟨w.heap.size, 5, none⟩ = some (.slice a2 to.length c2) ∧ p.cell? ⟨0, 12, none⟩ = some (.string (ByteArray.mk #[99, 104, 101, 99, 107]))) ∧ Hid (BoxV w [.string name, .int .i64 2, .slice a0 cols.length c0, .slice a1 [e1].length c1, .string table, .slice a2 to.length c2] p)) → Below p.heap.size p q → ((q.cell? ⟨w.heap.size, 0, none⟩ = some (.string name) ∧ q.cell? ⟨w.heap.size, 1, none⟩ = some (.int .i64 2) ∧ q.cell? ⟨w.heap.size, 2, none⟩ = some (.slice a0 cols.length c0) ∧ q.cell? ⟨w.heap.size, 3, none⟩ = some (.slice a1 [e1].length c1) ∧ q.cell? ⟨w.heap.size, 4, none⟩ = some (.string table) ∧ q.cell? ⟨w.heap.size, 5, none⟩ = some (.slice a2 to.length c2) ∧ q.cell? ⟨0, 12, none⟩ = some (.string (ByteArray.mk #[99, 104, 101, 99, 107]))) ∧ Hid (BoxV w [.string name, .int .i64 2, .slice a0 cols.length c0, .slice a1 [e1].length c1, .string table, .slice a2 to.length c2] q))) := fun p q h hb => by
        have T := h.2.out.call hb
        have R := (HT.out _ T.2).rules
        exact ⟨⟨(T.1.2 0 (by simp)).1, (T.1.2 1 (by simp)).1, (T.1.2 2 (by simp)).1, (T.1.2 3 (by simp)).1, (T.1.2 4 (by simp)).1, (T.1.2 5 (by simp)).1, (R).2 2 (by omega) 0 (by decide)⟩, T⟩
      have D1 := Lib.hid (B1.out.call (below_drewE (Below.refl _ _)))
      have D1r := Lib.hid (HT.out _ D1.out.2).rules
      go_wp2_with fail
      go_region_held3 (fun w' => (w'.cell? ⟨w.heap.size, 0, none⟩ = some (.string name) ∧ w'.cell? ⟨w.heap.size, 1, none⟩ = some (.int .i64 2) ∧ w'.cell? ⟨w.heap.size, 2, none⟩ = some (.slice a0 cols.length c0) ∧ w'.cell? ⟨w.heap.size, 3, none⟩ = some (.slice a1 [e1].length c1) ∧ w'.cell? ⟨w.heap.size, 4, none⟩ = some (.string table) ∧ w'.cell? ⟨w.heap.size, 5, none⟩ = some (.slice a2 to.length c2) ∧ w'.cell? ⟨0, 12, none⟩ = some (.string (ByteArray.mk #[99, 104, 101, 99, 107]))) ∧ Hid (BoxV w [.string name, .int .i64 2, .slice a0 cols.length c0, .slice a1 [e1].length c1, .string table, .slice a2 to.length c2] w')) (first | assumption | exact ⟨⟨(D1.out.1.2 0 (by simp)).1, (D1.out.1.2 1 (by simp)).1, (D1.out.1.2 2 (by simp)).1, (D1.out.1.2 3 (by simp)).1, (D1.out.1.2 4 (by simp)).1, (D1.out.1.2 5 (by simp)).1, (D1r.out).2 2 (by omega) 0 (by decide)⟩, D1.out⟩ | exact hst.out _ _ (by assumption) ((Below.refl _ _).alloc (Nat.le_refl _) _))
        ((go_at_call 30; refine (implPutName name _ Zn.out N HN.out).mono ?_; rintro e wq ⟨rfl, bq⟩; have hq := hst.out _ _ (by assumption) bq; have T9 := Lib.hid hq.2.out))
      clear hst bq hq D1 D1r R1
      have HPh : Hid (Strs (wq.alloc (.cells #[.string (ByteArray.mk #[99, 111, 110, 115, 116, 114, 97, 105, 110, 116]), .string N, .string (ByteArray.mk #[99, 104, 101, 99, 107])] 9)) (some ⟨wq.heap.size, 0, none⟩) 3 [(ByteArray.mk #[99, 111, 110, 115, 116, 114, 97, 105, 110, 116]), N, (ByteArray.mk #[99, 104, 101, 99, 107])]) := rowLit1 wq [(ByteArray.mk #[99, 111, 110, 115, 116, 114, 97, 105, 110, 116]), N, (ByteArray.mk #[99, 104, 101, 99, 107])] (by intro t ht; simp only [List.mem_cons, List.not_mem_nil, or_false] at ht; unfold maxLen; rcases ht with rfl | rfl | rfl <;> omega) (by simp)
      have B3 : Hid (BoxV w [.string name, .int .i64 2, .slice a0 cols.length c0, .slice a1 [e1].length c1, .string table, .slice a2 to.length c2] (wq.alloc (.cells #[.string (ByteArray.mk #[99, 111, 110, 115, 116, 114, 97, 105, 110, 116]), .string N, .string (ByteArray.mk #[99, 104, 101, 99, 107])] 9))) := T9.out.call ((Below.refl _ _).alloc (Nat.le_refl _) _)
      clear T9
      generalize wq.alloc (.cells #[.string (ByteArray.mk #[99, 111, 110, 115, 116, 114, 97, 105, 110, 116]), .string N, .string (ByteArray.mk #[99, 104, 101, 99, 107])] 9) = W3 at HPh B3 ⊢
      generalize wq.heap.size = pb at HPh ⊢
      have g3_0 : W3.cell? ⟨w.heap.size, 0, none⟩ = some (.string name) := (B3.out.1.2 0 (by simp)).1
      have g3_1 : W3.cell? ⟨w.heap.size, 1, none⟩ = some (.int .i64 2) := (B3.out.1.2 1 (by simp)).1
      have g3_2 : W3.cell? ⟨w.heap.size, 2, none⟩ = some (.slice a0 cols.length c0) := (B3.out.1.2 2 (by simp)).1
      have g3_3 : W3.cell? ⟨w.heap.size, 3, none⟩ = some (.slice a1 [e1].length c1) := (B3.out.1.2 3 (by simp)).1
      have g3_4 : W3.cell? ⟨w.heap.size, 4, none⟩ = some (.string table) := (B3.out.1.2 4 (by simp)).1
      have g3_5 : W3.cell? ⟨w.heap.size, 5, none⟩ = some (.slice a2 to.length c2) := (B3.out.1.2 5 (by simp)).1
      simp only [List.length_cons, List.length_nil] at g3_3
      go_wp2_with fail
      obtain ⟨dd, hsl⟩ := (HK.out _ B3.out.2).2.1.sl
      refine (textsX dd a1 c1 [e1] _ hsl (HT.out _ B3.out.2).tabs Zx.out (by simp) HZ.out).mono ?_
      rintro e w4 ⟨a4, c4, rfl, ho4, b4⟩
      rw [HMap.out] at ho4
      have HS4 : Hid (Strs w4 a4 c4 [E]) := ho4.strs fun t ht => by simp only [List.mem_cons, List.not_mem_nil, or_false] at ht; rw [ht]; unfold maxLen; omega
      have B4 := Lib.hid (B3.out.call b4)
      have HP4 := Lib.hid (HPh.out.below b4)
      clear ho4 b4 hsl
      go_wp2_with fail
      refine (inParens a4 c4 [E] _ HS4.out (by simp only [lets_cons, lets_nil, List.length_cons, List.length_nil]; omega) P HP.out).mono ?_
      rintro e w5 ⟨rfl, b5⟩
      have B5 := Lib.hid (B4.out.call b5)
      have HP5 := Lib.hid (HP4.out.below b5)
      clear b5
      go_wp2_with fail
      have hrow := rowLit1 w5 [P] (by intro t ht; simp only [List.mem_cons, List.not_mem_nil, or_false] at ht; rw [ht]; unfold maxLen; omega) (by simp)
      refine (phraseAnd (some ⟨pb, 0, none⟩) 3 [(ByteArray.mk #[99, 111, 110, 115, 116, 114, 97, 105, 110, 116]), N, (ByteArray.mk #[99, 104, 101, 99, 107])] _ 1 [P] _ (HP5.out.below ((Below.refl _ _).alloc (Nat.le_refl _) _)) hrow (.inr ⟨_, _, rfl⟩) (by simp)).mono ?_
      rintro e w6 ⟨a6, c6, rfl, hs6, b6⟩
      have HS6 := Lib.hid hs6
      have B6 := Lib.hid ((B5.out.call ((Below.refl _ _).alloc (Nat.le_refl _) _)).call b6)
      clear hs6 b6 hrow
      go_wp2_with fail
      refine (phraseText a6 c6 ([(ByteArray.mk #[99, 111, 110, 115, 116, 114, 97, 105, 110, 116]), N, (ByteArray.mk #[99, 104, 101, 99, 107])] ++ [P]) _ HS6.out (by simp only [List.cons_append, List.nil_append, lets_cons, lets_nil, List.length_cons, List.length_nil]; omega) r HV.out).mono ?_
      rintro e w7 ⟨rfl, b7⟩
      have B7 := Lib.hid (B6.out.call b7)
      clear b7
      go_wp2_with fail
      go_ret
      exact ⟨rfl, B7.out.2⟩
    · have HCC := Lib.hid hc
      rw [ruleB_ref name cols expr table to] at hc
      simp only [Bool.and_eq_true] at hc
      obtain ⟨qn, qc, q3, qt, qo, q6⟩ := hc
      obtain ⟨N, hN⟩ : ∃ N, nameT name = N := ⟨_, rfl⟩
      have zN : N.size ≤ 82 := by rw [← hN]; exact nameT_small qn
      have HN := Lib.hid hN
      have y0 : (ByteArray.mk #[99, 111, 110, 115, 116, 114, 97, 105, 110, 116]).size = 10 := rfl
      have y1 : (ByteArray.mk #[102, 111, 114, 101, 105, 103, 110, 32, 107, 101, 121]).size = 11 := rfl
      obtain ⟨n1, n2, n3⟩ := namesB_parts qc
      obtain ⟨P, hP⟩ : ∃ P, listT cols = P := ⟨_, rfl⟩
      have zP : P.size ≤ 338 := by rw [← hP]; have := listT_size cols n3; omega
      have HP : Hid (txt [40] ++ joinT (cols.map nameT) (txt [44, 32]) ++ txt [41] = P) := hP
      have HZ : Hid (∀ x ∈ cols, (nameT x).size ≤ 4611686018427387903) := fun x hx => by have := nameT_small (n3 x hx); omega
      have HLe : Hid (lets (cols.map nameT) + (cols.map nameT).length * 2 ≤ 1073741824) := by
        unfold Hid
        have := lets_map nameT cols 82 fun s h => nameT_small (n3 s h)
        rw [List.length_map]
        omega
      have hcl : cols.length ≤ 1000 := by omega
      obtain ⟨m1, m2, m3⟩ := namesB_parts qo
      obtain ⟨P2, hP2⟩ : ∃ P, listT to = P := ⟨_, rfl⟩
      have zP2 : P2.size ≤ 338 := by rw [← hP2]; have := listT_size to m3; omega
      have HP2 : Hid (txt [40] ++ joinT (to.map nameT) (txt [44, 32]) ++ txt [41] = P2) := hP2
      have HZ2 : Hid (∀ x ∈ to, (nameT x).size ≤ 4611686018427387903) := fun x hx => by have := nameT_small (m3 x hx); omega
      have HLe2 : Hid (lets (to.map nameT) + (to.map nameT).length * 2 ≤ 1073741824) := by
        unfold Hid
        have := lets_map nameT to 82 fun s h => nameT_small (m3 s h)
        rw [List.length_map]
        omega
      have htl : to.length ≤ 1000 := by omega
      obtain ⟨M, hM⟩ : ∃ M, nameT table = M := ⟨_, rfl⟩
      have zM : M.size ≤ 82 := by rw [← hM]; exact nameT_small qt
      have HM := Lib.hid hM
      have y2 : (ByteArray.mk #[114, 101, 102, 101, 114, 101, 110, 99, 101, 115]).size = 10 := rfl
      have HV : Hid (joinT ([(ByteArray.mk #[99, 111, 110, 115, 116, 114, 97, 105, 110, 116]), N, (ByteArray.mk #[102, 111, 114, 101, 105, 103, 110, 32, 107, 101, 121])] ++ [P, (ByteArray.mk #[114, 101, 102, 101, 114, 101, 110, 99, 101, 115]), M, P2]) (txt [32]) = r) := by
        unfold Hid
        rw [← hr]
        unfold ruleR
        simp only [if_true, Int.reduceEq, if_false]
        rw [hN, hP, hM, hP2]
        simp only [List.cons_append, List.nil_append]
        rw [joinT_cons, joinT_cons, joinT_cons, joinT_cons, joinT_cons, joinT_cons, joinT_one]
        apply ba_ext
        simp only [ba_list, List.append_assoc]
        rfl
      clear hr hN hP hP2 hM qn qc q3 qt qo q6 n1 n2 n3 m1 m2 m3
      go_enter Tryz.func14, Tryz.ntmps14
      go_wp2_with fail
      refine (HC.out _ (HB.out _).2).mono ?_
      rintro e w1 ⟨rfl, b1⟩
      have B1 := Lib.hid ((HB.out 42).call b1)
      clear b1
      rw [HCC.out]
      have R1 := Lib.hid (HT.out _ B1.out.2).rules
      have hst : Hid (∀ p q : World, ((p.cell? ⟨w.heap.size, 0, none⟩ = some (.string name) ∧ p.cell? ⟨w.heap.size, 1, none⟩ = some (.int .i64 3) ∧ p.cell? ⟨w.heap.size, 2, none⟩ = some (.slice a0 cols.length c0) ∧ p.cell? ⟨w.heap.size, 3, none⟩ = some (.slice a1 expr.length c1) ∧ p.cell? ⟨w.heap.size, 4, none⟩ = some (.string table) ∧ p.cell? ⟨w.heap.size, 5, none⟩ = some (.slice a2 to.length c2) ∧ p.cell? ⟨0, 18, none⟩ = some (.string (ByteArray.mk #[102, 111, 114, 101, 105, 103, 110, 32, 107, 101, 121]))) ∧ Hid (BoxV w [.string name, .int .i64 3, .slice a0 cols.length c0, .slice a1 expr.length c1, .string table, .slice a2 to.length c2] p)) → Below p.heap.size p q → ((q.cell? ⟨w.heap.size, 0, none⟩ = some (.string name) ∧ q.cell? ⟨w.heap.size, 1, none⟩ = some (.int .i64 3) ∧ q.cell? ⟨w.heap.size, 2, none⟩ = some (.slice a0 cols.length c0) ∧ q.cell? ⟨w.heap.size, 3, none⟩ = some (.slice a1 expr.length c1) ∧ q.cell? ⟨w.heap.size, 4, none⟩ = some (.string table) ∧ q.cell? ⟨w.heap.size, 5, none⟩ = some (.slice a2 to.length c2) ∧ q.cell? ⟨0, 18, none⟩ = some (.string (ByteArray.mk #[102, 111, 114, 101, 105, 103, 110, 32, 107, 101, 121]))) ∧ Hid (BoxV w [.string name, .int .i64 3, .slice a0 cols.length c0, .slice a1 expr.length c1, .string table, .slice a2 to.length c2] q))) := fun p q h hb => by
        have T := h.2.out.call hb
        have R := (HT.out _ T.2).rules
        exact ⟨⟨(T.1.2 0 (by simp)).1, (T.1.2 1 (by simp)).1, (T.1.2 2 (by simp)).1, (T.1.2 3 (by simp)).1, (T.1.2 4 (by simp)).1, (T.1.2 5 (by simp)).1, (R).2 3 (by omega) 0 (by decide)⟩, T⟩
      have D1 := Lib.hid (B1.out.call (below_drewE (Below.refl _ _)))
      have D1r := Lib.hid (HT.out _ D1.out.2).rules
      go_wp2_with fail
      go_region_held3 (fun w' => (w'.cell? ⟨w.heap.size, 0, none⟩ = some (.string name) ∧ w'.cell? ⟨w.heap.size, 1, none⟩ = some (.int .i64 3) ∧ w'.cell? ⟨w.heap.size, 2, none⟩ = some (.slice a0 cols.length c0) ∧ w'.cell? ⟨w.heap.size, 3, none⟩ = some (.slice a1 expr.length c1) ∧ w'.cell? ⟨w.heap.size, 4, none⟩ = some (.string table) ∧ w'.cell? ⟨w.heap.size, 5, none⟩ = some (.slice a2 to.length c2) ∧ w'.cell? ⟨0, 18, none⟩ = some (.string (ByteArray.mk #[102, 111, 114, 101, 105, 103, 110, 32, 107, 101, 121]))) ∧ Hid (BoxV w [.string name, .int .i64 3, .slice a0 cols.length c0, .slice a1 expr.length c1, .string table, .slice a2 to.length c2] w')) (first | assumption | exact ⟨⟨(D1.out.1.2 0 (by simp)).1, (D1.out.1.2 1 (by simp)).1, (D1.out.1.2 2 (by simp)).1, (D1.out.1.2 3 (by simp)).1, (D1.out.1.2 4 (by simp)).1, (D1.out.1.2 5 (by simp)).1, (D1r.out).2 3 (by omega) 0 (by decide)⟩, D1.out⟩ | exact hst.out _ _ (by assumption) ((Below.refl _ _).alloc (Nat.le_refl _) _))
        ((go_at_call 30; refine (implPutName name _ Zn.out N HN.out).mono ?_; rintro e wq ⟨rfl, bq⟩; have hq := hst.out _ _ (by assumption) bq; have T9 := Lib.hid hq.2.out))
      clear hst bq hq D1 D1r R1
      have HPh : Hid (Strs (wq.alloc (.cells #[.string (ByteArray.mk #[99, 111, 110, 115, 116, 114, 97, 105, 110, 116]), .string N, .string (ByteArray.mk #[102, 111, 114, 101, 105, 103, 110, 32, 107, 101, 121])] 9)) (some ⟨wq.heap.size, 0, none⟩) 3 [(ByteArray.mk #[99, 111, 110, 115, 116, 114, 97, 105, 110, 116]), N, (ByteArray.mk #[102, 111, 114, 101, 105, 103, 110, 32, 107, 101, 121])]) := rowLit1 wq [(ByteArray.mk #[99, 111, 110, 115, 116, 114, 97, 105, 110, 116]), N, (ByteArray.mk #[102, 111, 114, 101, 105, 103, 110, 32, 107, 101, 121])] (by intro t ht; simp only [List.mem_cons, List.not_mem_nil, or_false] at ht; unfold maxLen; rcases ht with rfl | rfl | rfl <;> omega) (by simp)
      have B3 : Hid (BoxV w [.string name, .int .i64 3, .slice a0 cols.length c0, .slice a1 expr.length c1, .string table, .slice a2 to.length c2] (wq.alloc (.cells #[.string (ByteArray.mk #[99, 111, 110, 115, 116, 114, 97, 105, 110, 116]), .string N, .string (ByteArray.mk #[102, 111, 114, 101, 105, 103, 110, 32, 107, 101, 121])] 9))) := T9.out.call ((Below.refl _ _).alloc (Nat.le_refl _) _)
      clear T9
      generalize wq.alloc (.cells #[.string (ByteArray.mk #[99, 111, 110, 115, 116, 114, 97, 105, 110, 116]), .string N, .string (ByteArray.mk #[102, 111, 114, 101, 105, 103, 110, 32, 107, 101, 121])] 9) = W3 at HPh B3 ⊢
      generalize wq.heap.size = pb at HPh ⊢
      have g3_0 : W3.cell? ⟨w.heap.size, 0, none⟩ = some (.string name) := (B3.out.1.2 0 (by simp)).1
      have g3_1 : W3.cell? ⟨w.heap.size, 1, none⟩ = some (.int .i64 3) := (B3.out.1.2 1 (by simp)).1
      have g3_2 : W3.cell? ⟨w.heap.size, 2, none⟩ = some (.slice a0 cols.length c0) := (B3.out.1.2 2 (by simp)).1
      have g3_3 : W3.cell? ⟨w.heap.size, 3, none⟩ = some (.slice a1 expr.length c1) := (B3.out.1.2 3 (by simp)).1
      have g3_4 : W3.cell? ⟨w.heap.size, 4, none⟩ = some (.string table) := (B3.out.1.2 4 (by simp)).1
      have g3_5 : W3.cell? ⟨w.heap.size, 5, none⟩ = some (.slice a2 to.length c2) := (B3.out.1.2 5 (by simp)).1
      go_wp2_with fail
      refine (textsN a2 c2 to _ (HK.out _ B3.out.2).2.2.sl trivial Zo.out htl HZ2.out).mono ?_
      rintro e w4 ⟨a4, c4, rfl, ho4, b4⟩
      have HS4 := Lib.hid (ho4.strs fun t ht => by obtain ⟨u, hu, rfl⟩ := List.mem_map.1 ht; have := HZ2.out u hu; unfold maxLen; omega)
      have B4 := Lib.hid (B3.out.call b4)
      have HP4 := Lib.hid (HPh.out.below b4)
      clear ho4 b4
      go_wp2_with fail
      have hip := inParens a4 c4 (to.map nameT) w4 HS4.out HLe2.out P2 HP2.out
      rw [List.length_map] at hip
      refine hip.mono ?_
      rintro e w5 ⟨rfl, b5⟩
      have B5 := Lib.hid (B4.out.call b5)
      have HP5 := Lib.hid (HP4.out.below b5)
      clear b5 hip g3_0 g3_1 g3_2 g3_3 g3_4 g3_5
      have hst : Hid (∀ p q : World, ((p.cell? ⟨w.heap.size, 2, none⟩ = some (.slice a0 cols.length c0) ∧ p.cell? ⟨w.heap.size, 4, none⟩ = some (.string table)) ∧ Hid (BoxV w [.string name, .int .i64 3, .slice a0 cols.length c0, .slice a1 expr.length c1, .string table, .slice a2 to.length c2] p ∧ Strs p (some ⟨pb, 0, none⟩) 3 [(ByteArray.mk #[99, 111, 110, 115, 116, 114, 97, 105, 110, 116]), N, (ByteArray.mk #[102, 111, 114, 101, 105, 103, 110, 32, 107, 101, 121])])) → Below p.heap.size p q → ((q.cell? ⟨w.heap.size, 2, none⟩ = some (.slice a0 cols.length c0) ∧ q.cell? ⟨w.heap.size, 4, none⟩ = some (.string table)) ∧ Hid (BoxV w [.string name, .int .i64 3, .slice a0 cols.length c0, .slice a1 expr.length c1, .string table, .slice a2 to.length c2] q ∧ Strs q (some ⟨pb, 0, none⟩) 3 [(ByteArray.mk #[99, 111, 110, 115, 116, 114, 97, 105, 110, 116]), N, (ByteArray.mk #[102, 111, 114, 101, 105, 103, 110, 32, 107, 101, 121])]))) := fun p q h hb => by
        have T := h.2.out.1.call hb
        exact ⟨⟨(T.1.2 2 (by simp)).1, (T.1.2 4 (by simp)).1⟩, T, h.2.out.2.below hb⟩
      have D5 := Lib.hid (And.intro (B5.out.call (below_drewE (Below.refl _ _))) (HP5.out.below (below_drewE (Below.refl _ _))))
      go_wp2_with fail
      go_region_held3 (fun w' => (w'.cell? ⟨w.heap.size, 2, none⟩ = some (.slice a0 cols.length c0) ∧ w'.cell? ⟨w.heap.size, 4, none⟩ = some (.string table)) ∧ Hid (BoxV w [.string name, .int .i64 3, .slice a0 cols.length c0, .slice a1 expr.length c1, .string table, .slice a2 to.length c2] w' ∧ Strs w' (some ⟨pb, 0, none⟩) 3 [(ByteArray.mk #[99, 111, 110, 115, 116, 114, 97, 105, 110, 116]), N, (ByteArray.mk #[102, 111, 114, 101, 105, 103, 110, 32, 107, 101, 121])])) (first | assumption | exact ⟨⟨(D5.out.1.1.2 2 (by simp)).1, (D5.out.1.1.2 4 (by simp)).1⟩, D5.out⟩ | exact hst.out _ _ (by assumption) ((Below.refl _ _).alloc (Nat.le_refl _) _))
        (first
          | (go_at_call 45; refine (textsN a0 c0 cols _ (HK.out _ (And.right (by assumption : _ ∧ Hid (BoxV w [.string name, .int .i64 3, .slice a0 cols.length c0, .slice a1 expr.length c1, .string table, .slice a2 to.length c2] _ ∧ Strs _ (some ⟨pb, 0, none⟩) 3 [(ByteArray.mk #[99, 111, 110, 115, 116, 114, 97, 105, 110, 116]), N, (ByteArray.mk #[102, 111, 114, 101, 105, 103, 110, 32, 107, 101, 121])]))).out.1.2).1.sl trivial Zc.out hcl HZ.out).mono ?_; rintro e wa ⟨aa, ca, rfl, ha, ba⟩; have h1 := hst.out _ _ (by assumption) ba; have HSa := Lib.hid (ha.strs fun t ht => by obtain ⟨u, hu, rfl⟩ := List.mem_map.1 ht; have := HZ.out u hu; unfold maxLen; omega))
          | (go_at_call 42; have hip := inParens aa ca (cols.map nameT) wa HSa.out HLe.out P HP.out; rw [List.length_map] at hip; refine hip.mono ?_; rintro e wb ⟨rfl, bb⟩; have h2 := hst.out _ _ h1 bb)
          | (go_at_call 30; refine (implPutName table _ Zt.out M HM.out).mono ?_; rintro e wc ⟨rfl, bc⟩; have h3 := hst.out _ _ h2 bc)
          | (go_at_call 32; have hrow := rowLit1 wc [P, (ByteArray.mk #[114, 101, 102, 101, 114, 101, 110, 99, 101, 115]), M, P2] (by intro t ht; simp only [List.mem_cons, List.not_mem_nil, or_false] at ht; unfold maxLen; rcases ht with rfl | rfl | rfl | rfl <;> omega) (by simp); refine (phraseAnd (some ⟨pb, 0, none⟩) 3 [(ByteArray.mk #[99, 111, 110, 115, 116, 114, 97, 105, 110, 116]), N, (ByteArray.mk #[102, 111, 114, 101, 105, 103, 110, 32, 107, 101, 121])] _ 4 [P, (ByteArray.mk #[114, 101, 102, 101, 114, 101, 110, 99, 101, 115]), M, P2] _ (h3.2.out.2.below ((Below.refl _ _).alloc (Nat.le_refl _) _)) hrow (.inr ⟨_, _, rfl⟩) (by simp)).mono ?_; rintro e wd ⟨ad, cd, rfl, hd, bd⟩; have h4 := hst.out _ _ (hst.out _ _ h3 ((Below.refl _ _).alloc (Nat.le_refl _) _)) bd; have HSd := Lib.hid hd)
          | (go_at_call 34; refine (phraseText ad cd ([(ByteArray.mk #[99, 111, 110, 115, 116, 114, 97, 105, 110, 116]), N, (ByteArray.mk #[102, 111, 114, 101, 105, 103, 110, 32, 107, 101, 121])] ++ [P, (ByteArray.mk #[114, 101, 102, 101, 114, 101, 110, 99, 101, 115]), M, P2]) _ HSd.out (by simp only [List.cons_append, List.nil_append, lets_cons, lets_nil, List.length_cons, List.length_nil]; omega) r HV.out).mono ?_; rintro e wf ⟨rfl, bf⟩; have h5 := hst.out _ _ h4 bf))
      go_wp2_with fail
      go_ret
      exact ⟨rfl, h5.2.out.1.2⟩

end Go.Proofs.YtpdcmmhhgnackaaGreatDoor

namespace Go.Proofs.YtpdcmmhhgnackaaGreatDoor
open Go.RowKit

def labT (s : ByteArray) : ByteArray := quoteT s 39

theorem implPutLabel (s : ByteArray) (w : World) (hs : s.size ≤ 1048576) (r : ByteArray) (hr : labT s = r) :
    Calls Tryz.prog 130 #[.string s] w fun e w' => e = .returned (.string r) ∧ Below w.heap.size w w' := by
  have HR := Lib.hid hr
  clear hr
  go_enter Tryz.func130, Tryz.ntmps130
  go_wp2_with fail
  refine (implQuote s 39 _ hs).mono ?_
  rintro e w1 ⟨rfl, b1⟩
  rw [show quoteT s 39 = r from HR.out]
  go_wp2_with fail
  go_ret
  exact ⟨rfl, b1⟩

set_option maxRecDepth 100000 in
set_option maxHeartbeats 2000000 in
theorem textsL (a : Option Addr) (c : Nat) (xs : List ByteArray) (w : World) (hx : Sl 1 RNm 0 w a c xs) (hJ : AnyW w) (hq : ∀ x ∈ xs, x.size ≤ 1048576) (hn : xs.length ≤ 1000) (hz : ∀ x ∈ xs, (labT x).size ≤ 4611686018427387903) :
    Calls Tryz.prog 45 #[.slice a xs.length c, .func (.func 130) #[] #[]] w fun e w' => ∃ a' c', e = .returned (.slice a' xs.length c') ∧ Own w' w.heap.size a' c' (xs.map labT) ∧ Below w.heap.size w w' := by
  obtain ⟨i0, hi0, hi1⟩ := Option.map_eq_some_iff.1 Tryz.infoString
  have hz0 : i0.zero = some (.string ByteArray.empty) := (Prod.mk.inj hi1).1
  have hz1 : i0.size = 1 := (Prod.mk.inj (Prod.mk.inj hi1).2).1
  have hz2 : i0.bytes = 16 := (Prod.mk.inj (Prod.mk.inj hi1).2).2
  have hl := hx.len
  have HX := Lib.hid (fun w' (hb : Below w.heap.size w w') => hx.kept goodRNm (Kept.below hb))
  have HJ := Lib.hid (fun w' (hb : Below w.heap.size w w') => hJ.call hb)
  have HQ := Lib.hid hq
  have HZ := Lib.hid hz
  clear hx hJ hq hz
  go_enter Tryz.func45, Tryz.ntmps45
  go_wp2
  go_loopw [5, 10] (fun v i wr => ∃ (k : Nat) (a1 : Option Addr) (c1 : Nat) (l : List ByteArray), k ≤ xs.length ∧ i = .int .i64 k ∧ v = .slice a1 l.length c1 ∧ Hid (l = (xs.take k).map labT ∧ Own wr w.heap.size a1 c1 l) ∧ Below w.heap.size w wr) (fun _ i _ => xs.length - (intOf i).toNat)
  case atStart => exact ⟨0, none, 0, [], Nat.zero_le _, rfl, rfl, ⟨rfl, Own.nil _ _⟩, Below.refl _ _⟩
  case round =>
    obtain ⟨k, a1, c1, l, hk, rfl, rfl, hown, hb⟩ := hrel
    have hsz := hb.size
    by_cases hlt : k < xs.length
    · obtain ⟨b, off, vs, rfl, hbl, hcs, hR⟩ := (HX.out _ hb).spot hlt
      have HR := hR
      obtain ⟨rfl, _⟩ := hR
      have hc0 : wr.cell? ⟨b, off + k, none⟩ = some (.string xs[k]) := by have := hcs 0 (by simp); simpa using this
      have HKx := Lib.hid HR
      have hll : l.length = k := by rw [hown.out.1]; simp; omega
      obtain ⟨N, hN⟩ : ∃ N, labT xs[k] = N := ⟨_, rfl⟩
      have hNm : N.size ≤ maxLen := by rw [← hN]; have := HZ.out _ (List.getElem_mem hlt); unfold maxLen; omega
      have HNN := Lib.hid hN
      have HLN : Hid (l ++ [N] = (xs.take (k + 1)).map labT) := by unfold Hid; rw [hown.out.1, List.take_succ_eq_append_getElem hlt, List.map_append, ← hN]; rfl
      have HO := Lib.hid hown.out.2
      have HL := Lib.hid hll
      clear hown hN hll HR hcs
      go_wp2_with fail
      refine (implPutLabel xs[k] _ (HQ.out _ (List.getElem_mem hlt)) N HNN.out).mono ?_
      rintro e w2 ⟨rfl, b2⟩
      have B2 := Lib.hid (show Below w.heap.size w w2 from hb.trans (b2.mono hsz))
      have HO2 := Lib.hid (HO.out.below b2)
      have hsz2 := B2.out.size
      clear b2
      go_wp2_with (at_builtin; refine wpAppendPh rfl _ _ rfl i0 hi0 hz0 hz1 hz2 w.heap.size a1 c1 l (some ⟨_, 0, none⟩) 1 [N] rfl (HO2.out.alloc _) rfl (strsOne _ _ hNm) (by have := HL.out; simp only [List.length_cons, List.length_nil]; omega) (by simp; omega) ?_; intro a3 c3 w3 hown3 hg3)
      have B3 := Lib.hid (appended B2.out (Nat.le_refl _) HO2.out hg3)
      have HO3 := Lib.hid hown3
      clear hown3 hg3
      go_roundw
      case rel => exact ⟨k + 1, a3, c3, l ++ [N], by omega, by go_num, by rw [List.length_append]; rfl, ⟨HLN.out, HO3.out⟩, B3.out⟩
      case measure => simp [intOf]; omega
    · obtain rfl : k = xs.length := by omega
      have hll : l = xs.map labT := by have := hown.out.1; rwa [List.take_length] at this
      have hle : l.length = xs.length := by rw [hll, List.length_map]
      have HO : Hid (Own wr w.heap.size a1 c1 (xs.map labT)) := by unfold Hid; rw [← hll]; exact hown.out.2
      rw [hle]
      clear hown hll hle
      go_wp2_with fail
      go_ret
      exact ⟨_, _, rfl, HO.out, hb⟩

end Go.Proofs.YtpdcmmhhgnackaaGreatDoor

namespace Go.Proofs.YtpdcmmhhgnackaaGreatDoor
open Go.RowKit

set_option maxRecDepth 100000 in
set_option maxHeartbeats 2000000 in
theorem textsC (a : Option Addr) (c : Nat) (xs : List Co) (w : World) (hx : Sl 6 RCo 0 w a c xs) (hJ : Tabs w) (hq : ∀ x ∈ xs, x.wt ≤ 1048576) (hn : xs.length ≤ 1000) (hz : ∀ x ∈ xs, (colT x).size ≤ 4611686018427387903) :
    Calls Tryz.prog 131 #[.slice a xs.length c, .func (.func 9) #[] #[]] w fun e w' => ∃ a' c', e = .returned (.slice a' xs.length c') ∧ Own w' w.heap.size a' c' (xs.map colT) ∧ Below w.heap.size w w' := by
  obtain ⟨i0, hi0, hi1⟩ := Option.map_eq_some_iff.1 Tryz.infoString
  have hz0 : i0.zero = some (.string ByteArray.empty) := (Prod.mk.inj hi1).1
  have hz1 : i0.size = 1 := (Prod.mk.inj (Prod.mk.inj hi1).2).1
  have hz2 : i0.bytes = 16 := (Prod.mk.inj (Prod.mk.inj hi1).2).2
  have hl := hx.len
  have HX := Lib.hid (fun w' (hb : Below w.heap.size w w') => hx.kept goodCo (Kept.below hb))
  have HJ := Lib.hid (fun w' (hb : Below w.heap.size w w') => hJ.call hb)
  have HQ := Lib.hid hq
  have HZ := Lib.hid hz
  clear hx hJ hq hz
  go_enter Tryz.func131, Tryz.ntmps131
  go_wp2
  go_loopw [5, 10] (fun v i wr => ∃ (k : Nat) (a1 : Option Addr) (c1 : Nat) (l : List ByteArray), k ≤ xs.length ∧ i = .int .i64 k ∧ v = .slice a1 l.length c1 ∧ Hid (l = (xs.take k).map colT ∧ Own wr w.heap.size a1 c1 l) ∧ Below w.heap.size w wr) (fun _ i _ => xs.length - (intOf i).toNat)
  case atStart => exact ⟨0, none, 0, [], Nat.zero_le _, rfl, rfl, ⟨rfl, Own.nil _ _⟩, Below.refl _ _⟩
  case round =>
    obtain ⟨k, a1, c1, l, hk, rfl, rfl, hown, hb⟩ := hrel
    have hsz := hb.size
    by_cases hlt : k < xs.length
    · obtain ⟨b, off, vs, rfl, hbl, hcs, hR⟩ := (HX.out _ hb).spot hlt
      have HR := hR
      obtain ⟨a0, c0, rfl, _⟩ := hR
      have hc0 : wr.cell? ⟨b, off + k * 6, none⟩ = some (.string xs[k].name) := hcs 0 (by simp)
      have hc1 : wr.cell? ⟨b, off + k * 6 + 1, none⟩ = some (.int .i64 xs[k].ty.kind) := hcs 1 (by simp)
      have hc2 : wr.cell? ⟨b, off + k * 6 + 2, none⟩ = some (.int .i64 xs[k].ty.len) := hcs 2 (by simp)
      have hc3 : wr.cell? ⟨b, off + k * 6 + 3, none⟩ = some (.string xs[k].ty.name) := hcs 3 (by simp)
      have hc4 : wr.cell? ⟨b, off + k * 6 + 4, none⟩ = some (.bool xs[k].notNull) := hcs 4 (by simp)
      have hc5 : wr.cell? ⟨b, off + k * 6 + 5, none⟩ = some (.slice a0 xs[k].dflt.length c0) := hcs 5 (by simp)
      have HKx := Lib.hid HR
      have hll : l.length = k := by rw [hown.out.1]; simp; omega
      obtain ⟨N, hN⟩ : ∃ N, colT xs[k] = N := ⟨_, rfl⟩
      have hNm : N.size ≤ maxLen := by rw [← hN]; have := HZ.out _ (List.getElem_mem hlt); unfold maxLen; omega
      have HNN := Lib.hid hN
      have HLN : Hid (l ++ [N] = (xs.take (k + 1)).map colT) := by unfold Hid; rw [hown.out.1, List.take_succ_eq_append_getElem hlt, List.map_append, ← hN]; rfl
      have HO := Lib.hid hown.out.2
      have HL := Lib.hid hll
      clear hown hN hll HR hcs
      go_wp2_with fail
      refine (implPutCol _ xs[k] _ (HJ.out _ (hb.alloc hsz _)) (goodCo.kept HKx.out (Kept.below ((Below.refl wr.heap.size wr).alloc (Nat.le_refl _) _))) (HQ.out _ (List.getElem_mem hlt)) N HNN.out).mono ?_
      rintro e w2 ⟨rfl, b2⟩
      have B2 := Lib.hid (show Below w.heap.size w w2 from Below.call b2 (hb.alloc hsz _))
      have HO2 := Lib.hid ((HO.out.alloc _).below b2)
      have hsz2 := B2.out.size
      clear b2
      go_wp2_with (at_builtin; refine wpAppendPh rfl _ _ rfl i0 hi0 hz0 hz1 hz2 w.heap.size a1 c1 l (some ⟨_, 0, none⟩) 1 [N] rfl (HO2.out.alloc _) rfl (strsOne _ _ hNm) (by have := HL.out; simp only [List.length_cons, List.length_nil]; omega) (by simp; omega) ?_; intro a3 c3 w3 hown3 hg3)
      have B3 := Lib.hid (appended B2.out (Nat.le_refl _) HO2.out hg3)
      have HO3 := Lib.hid hown3
      clear hown3 hg3
      go_roundw
      case rel => exact ⟨k + 1, a3, c3, l ++ [N], by omega, by go_num, by rw [List.length_append]; rfl, ⟨HLN.out, HO3.out⟩, B3.out⟩
      case measure => simp [intOf]; omega
    · obtain rfl : k = xs.length := by omega
      have hll : l = xs.map colT := by have := hown.out.1; rwa [List.take_length] at this
      have hle : l.length = xs.length := by rw [hll, List.length_map]
      have HO : Hid (Own wr w.heap.size a1 c1 (xs.map colT)) := by unfold Hid; rw [← hll]; exact hown.out.2
      rw [hle]
      clear hown hll hle
      go_wp2_with fail
      go_ret
      exact ⟨_, _, rfl, HO.out, hb⟩

end Go.Proofs.YtpdcmmhhgnackaaGreatDoor

namespace Go.Proofs.YtpdcmmhhgnackaaGreatDoor
open Go.RowKit

set_option maxRecDepth 100000 in
set_option maxHeartbeats 2000000 in
theorem textsU (a : Option Addr) (c : Nat) (xs : List Ru) (w : World) (hx : Sl 6 RRu 0 w a c xs) (hJ : TabR w) (hq : ∀ x ∈ xs, x.wt ≤ 1048576) (hn : xs.length ≤ 1000) (hz : ∀ x ∈ xs, (ruleT x).size ≤ 4611686018427387903) :
    Calls Tryz.prog 132 #[.slice a xs.length c, .func (.func 14) #[] #[]] w fun e w' => ∃ a' c', e = .returned (.slice a' xs.length c') ∧ Own w' w.heap.size a' c' (xs.map ruleT) ∧ Below w.heap.size w w' := by
  obtain ⟨i0, hi0, hi1⟩ := Option.map_eq_some_iff.1 Tryz.infoString
  have hz0 : i0.zero = some (.string ByteArray.empty) := (Prod.mk.inj hi1).1
  have hz1 : i0.size = 1 := (Prod.mk.inj (Prod.mk.inj hi1).2).1
  have hz2 : i0.bytes = 16 := (Prod.mk.inj (Prod.mk.inj hi1).2).2
  have hl := hx.len
  have HX := Lib.hid (fun w' (hb : Below w.heap.size w w') => hx.kept goodRu (Kept.below hb))
  have HJ := Lib.hid (fun w' (hb : Below w.heap.size w w') => hJ.call hb)
  have HQ := Lib.hid hq
  have HZ := Lib.hid hz
  clear hx hJ hq hz
  go_enter Tryz.func132, Tryz.ntmps132
  go_wp2
  go_loopw [5, 10] (fun v i wr => ∃ (k : Nat) (a1 : Option Addr) (c1 : Nat) (l : List ByteArray), k ≤ xs.length ∧ i = .int .i64 k ∧ v = .slice a1 l.length c1 ∧ Hid (l = (xs.take k).map ruleT ∧ Own wr w.heap.size a1 c1 l) ∧ Below w.heap.size w wr) (fun _ i _ => xs.length - (intOf i).toNat)
  case atStart => exact ⟨0, none, 0, [], Nat.zero_le _, rfl, rfl, ⟨rfl, Own.nil _ _⟩, Below.refl _ _⟩
  case round =>
    obtain ⟨k, a1, c1, l, hk, rfl, rfl, hown, hb⟩ := hrel
    have hsz := hb.size
    by_cases hlt : k < xs.length
    · obtain ⟨b, off, vs, rfl, hbl, hcs, hR⟩ := (HX.out _ hb).spot hlt
      have HR := hR
      obtain ⟨p0, q0, p1, q1, p2, q2, rfl, _⟩ := hR
      have hc0 : wr.cell? ⟨b, off + k * 6, none⟩ = some (.string xs[k].name) := hcs 0 (by simp)
      have hc1 : wr.cell? ⟨b, off + k * 6 + 1, none⟩ = some (.int .i64 xs[k].kind) := hcs 1 (by simp)
      have hc2 : wr.cell? ⟨b, off + k * 6 + 2, none⟩ = some (.slice p0 xs[k].cols.length q0) := hcs 2 (by simp)
      have hc3 : wr.cell? ⟨b, off + k * 6 + 3, none⟩ = some (.slice p1 xs[k].expr.length q1) := hcs 3 (by simp)
      have hc4 : wr.cell? ⟨b, off + k * 6 + 4, none⟩ = some (.string xs[k].table) := hcs 4 (by simp)
      have hc5 : wr.cell? ⟨b, off + k * 6 + 5, none⟩ = some (.slice p2 xs[k].to.length q2) := hcs 5 (by simp)
      have HKx := Lib.hid HR
      have hll : l.length = k := by rw [hown.out.1]; simp; omega
      obtain ⟨N, hN⟩ : ∃ N, ruleT xs[k] = N := ⟨_, rfl⟩
      have hNm : N.size ≤ maxLen := by rw [← hN]; have := HZ.out _ (List.getElem_mem hlt); unfold maxLen; omega
      have HNN := Lib.hid hN
      have HLN : Hid (l ++ [N] = (xs.take (k + 1)).map ruleT) := by unfold Hid; rw [hown.out.1, List.take_succ_eq_append_getElem hlt, List.map_append, ← hN]; rfl
      have HO := Lib.hid hown.out.2
      have HL := Lib.hid hll
      clear hown hN hll HR hcs
      go_wp2_with fail
      refine (implPutRule _ xs[k] _ (HJ.out _ (hb.alloc hsz _)) (goodRu.kept HKx.out (Kept.below ((Below.refl wr.heap.size wr).alloc (Nat.le_refl _) _))) (HQ.out _ (List.getElem_mem hlt)) N HNN.out).mono ?_
      rintro e w2 ⟨rfl, b2⟩
      have B2 := Lib.hid (show Below w.heap.size w w2 from Below.call b2 (hb.alloc hsz _))
      have HO2 := Lib.hid ((HO.out.alloc _).below b2)
      have hsz2 := B2.out.size
      clear b2
      go_wp2_with (at_builtin; refine wpAppendPh rfl _ _ rfl i0 hi0 hz0 hz1 hz2 w.heap.size a1 c1 l (some ⟨_, 0, none⟩) 1 [N] rfl (HO2.out.alloc _) rfl (strsOne _ _ hNm) (by have := HL.out; simp only [List.length_cons, List.length_nil]; omega) (by simp; omega) ?_; intro a3 c3 w3 hown3 hg3)
      have B3 := Lib.hid (appended B2.out (Nat.le_refl _) HO2.out hg3)
      have HO3 := Lib.hid hown3
      clear hown3 hg3
      go_roundw
      case rel => exact ⟨k + 1, a3, c3, l ++ [N], by omega, by go_num, by rw [List.length_append]; rfl, ⟨HLN.out, HO3.out⟩, B3.out⟩
      case measure => simp [intOf]; omega
    · obtain rfl : k = xs.length := by omega
      have hll : l = xs.map ruleT := by have := hown.out.1; rwa [List.take_length] at this
      have hle : l.length = xs.length := by rw [hll, List.length_map]
      have HO : Hid (Own wr w.heap.size a1 c1 (xs.map ruleT)) := by unfold Hid; rw [← hll]; exact hown.out.2
      rw [hle]
      clear hown hll hle
      go_wp2_with fail
      go_ret
      exact ⟨_, _, rfl, HO.out, hb⟩

end Go.Proofs.YtpdcmmhhgnackaaGreatDoor
