/- The model's look at the rest of a statement. Written by tools/gen_st.py. -/
import Derived.Test.YtpdcmmhhgnackaaGreatDoorMRuleI
namespace Go.Proofs.YtpdcmmhhgnackaaGreatDoor
open Go.RowKit

theorem boolS : (∀ s, nmB s = nameB s.data.toList) ∧ (!true) = false ∧ (!false) = true ∧ (∀ b, (false && b) = false) ∧ (∀ b, (b && false) = false) ∧ (∀ b, (true && b) = b) ∧ (∀ b, (b && true) = b) ∧ (∀ b, (b || false) = b) ∧ (∀ b, (false || b) = b) ∧ (∀ b, (true || b) = true) :=
  ⟨fun _ => rfl, rfl, rfl, Bool.false_and, Bool.and_false, Bool.true_and, Bool.and_true, Bool.or_false, Bool.false_or, Bool.true_or⟩

set_option maxRecDepth 100000 in
set_option maxHeartbeats 8000000 in
theorem specRest_0 (name on : ByteArray) (list : List ByteArray) (num : Int) (flag : Bool) (ty : Ty) (cols : List Co) (rules : List Ru) (exprs : List Ex) (a0 a1 a2 a3 : Option Addr) (c0 c1 c2 c3 : Nat) (w : World) (h0 : Ss 0 w a0 c0 list) (h3 : Ks 0 w a3 c3 exprs) (zo : on.size ≤ 1048576) (zt : ty.name.size ≤ 1048576) (zl : lets list ≤ 1048576) (ze : wtL exprs ≤ 1048576) (v : Bool)
    (hv : (on.toList.isEmpty && (namesB list 12 && ((!flag) && (tyEq ⟨ty.kind, ty.len, ty.name⟩ ⟨0, 0, ⟨#[]⟩⟩ && ((num == 0) && exprsB exprs 0 0))))) = v) :
    Calls Tryz.prog 90 #[.agg #[.int .i64 0, .string name, .string on, .slice a0 list.length c0, .int .i64 num, .bool flag, .int .i64 ty.kind, .int .i64 ty.len, .string ty.name, .slice a1 cols.length c1, .slice a2 rules.length c2, .slice a3 exprs.length c3]] w fun e w' => e = .returned (.bool v) ∧ Below w.heap.size w w' := by
  have ll := h0.1.len
  have le := h3.len
  have HL := Lib.hid (fun w' (hb : Below w.heap.size w w') => (h0.kept (Kept.below hb)).1)
  have HK := Lib.hid (fun w' (hb : Below w.heap.size w w') => h3.kept (Kept.below hb))
  have ZO := Lib.hid zo
  have ZT := Lib.hid zt
  have ZL := Lib.hid zl
  have ZE := Lib.hid ze
  have HVV := Lib.hid hv
  have hq := fun w => eqlTy ty.kind ty.len ty.name 0 0 ⟨#[]⟩ w
  have hG := fun x y w => guardTy x y ty.kind ty.len ty.name 0 0 ⟨#[]⟩ w
  have HB := Lib.hid (boxV_new w [.int .i64 0, .string name, .string on, .slice a0 list.length c0, .int .i64 num, .bool flag, .int .i64 ty.kind, .int .i64 ty.len, .string ty.name, .slice a1 cols.length c1, .slice a2 rules.length c2, .slice a3 exprs.length c3] 55)
  clear h0 h3 zo zt zl ze hv
  go_enter Tryz.func90, Tryz.ntmps90
  go_wp2_with fail
  generalize w.alloc (.cells #[.int .i64 0, .string name, .string on, .slice a0 list.length c0, .int .i64 num, .bool flag, .int .i64 ty.kind, .int .i64 ty.len, .string ty.name, .slice a1 cols.length c1, .slice a2 rules.length c2, .slice a3 exprs.length c3] 55) = W0 at HB ⊢
  have g0 : W0.cell? ⟨w.heap.size, 0, none⟩ = some (.int .i64 0) := (HB.out.1.2 0 (by simp)).1
  have g1 : W0.cell? ⟨w.heap.size, 1, none⟩ = some (.string name) := (HB.out.1.2 1 (by simp)).1
  have g2 : W0.cell? ⟨w.heap.size, 2, none⟩ = some (.string on) := (HB.out.1.2 2 (by simp)).1
  have g3 : W0.cell? ⟨w.heap.size, 3, none⟩ = some (.slice a0 list.length c0) := (HB.out.1.2 3 (by simp)).1
  have g4 : W0.cell? ⟨w.heap.size, 4, none⟩ = some (.int .i64 num) := (HB.out.1.2 4 (by simp)).1
  have g5 : W0.cell? ⟨w.heap.size, 5, none⟩ = some (.bool flag) := (HB.out.1.2 5 (by simp)).1
  have g6 : W0.cell? ⟨w.heap.size, 6, none⟩ = some (.int .i64 ty.kind) := (HB.out.1.2 6 (by simp)).1
  have g7 : W0.cell? ⟨w.heap.size, 7, none⟩ = some (.int .i64 ty.len) := (HB.out.1.2 7 (by simp)).1
  have g8 : W0.cell? ⟨w.heap.size, 8, none⟩ = some (.string ty.name) := (HB.out.1.2 8 (by simp)).1
  have g9 : W0.cell? ⟨w.heap.size, 9, none⟩ = some (.slice a1 cols.length c1) := (HB.out.1.2 9 (by simp)).1
  have g10 : W0.cell? ⟨w.heap.size, 10, none⟩ = some (.slice a2 rules.length c2) := (HB.out.1.2 10 (by simp)).1
  have g11 : W0.cell? ⟨w.heap.size, 11, none⟩ = some (.slice a3 exprs.length c3) := (HB.out.1.2 11 (by simp)).1
  refine (specInIs (list.length : Int) 1 12 _ _ rfl).mono ?_
  rintro e w1 ⟨rfl, rfl⟩
  have HL0 := Lib.hid (HL.out _ HB.out.2)
  cases hi : inI (list.length : Int) 1 12 with
  | false =>
    have HI0 := Lib.hid hi
    clear hi
    go_wp2_with fail
    go_loop [6, 9] (fun l i => ∃ (k : Nat) (bb : Bool), k ≤ list.length ∧ i = .int .i64 k ∧ l = .bool bb ∧ Hid (bb = (false && (list.take k).all nmB))) (fun _ i => list.length - (intOf i).toNat)
    case atStart => exact ⟨0, false, Nat.zero_le _, rfl, rfl, rfl⟩
    case round =>
      obtain ⟨k, bb, hk, rfl, rfl, hbb⟩ := hrel
      by_cases hlt : k < list.length
      · have hltI : (k : Int) < (list.length : Int) := by omega
        cases bb with
        | false =>
          have hl : namesB list 12 = false := by
            have h := hbb.out
            unfold namesB
            rw [HI0.out]; rfl
          clear hltI
          have hltI : (k : Int) < (list.length : Int) := by omega
          cases hn : (num == 0) with
          | false =>
            cases ho : on.toList.isEmpty with
            | false =>
              have HV : Hid (v = false) := by unfold Hid; rw [← HVV.out]; simp only [boolS, (And.intro hn (And.intro hl ho))]
              go_wp2_with fail
              go_ret
              exact ⟨by rw [HV.out] <;> rfl, HB.out.2⟩
            | true =>
              have HV : Hid (v = false) := by unfold Hid; rw [← HVV.out]; simp only [boolS, (And.intro hn (And.intro hl ho))]
              go_wp2_with fail
              go_ret
              exact ⟨by rw [HV.out] <;> rfl, HB.out.2⟩
          | true =>
            cases ho : on.toList.isEmpty with
            | false =>
              have HV : Hid (v = false) := by unfold Hid; rw [← HVV.out]; simp only [boolS, (And.intro hn (And.intro hl ho))]
              go_wp2_with fail
              go_ret
              exact ⟨by rw [HV.out] <;> rfl, HB.out.2⟩
            | true =>
              have HV : Hid (v = false) := by unfold Hid; rw [← HVV.out]; simp only [boolS, (And.intro hn (And.intro hl ho))]
              go_wp2_with fail
              go_ret
              exact ⟨by rw [HV.out] <;> rfl, HB.out.2⟩
        | true =>
          exact absurd hbb.out (by simp)
      · have hge : ¬ (k : Int) < (list.length : Int) := by omega
        have hl0 : bb = namesB list 12 := by
          have h := hbb.out
          rw [List.take_of_length_le (by omega)] at h
          rw [h]; unfold namesB; rw [HI0.out]
        cases bb with
        | false =>
          have hl := hl0.symm
          clear hl0 hbb
          cases hn : (num == 0) with
          | false =>
            cases ho : on.toList.isEmpty with
            | false =>
              have HV : Hid (v = false) := by unfold Hid; rw [← HVV.out]; simp only [boolS, (And.intro hn (And.intro hl ho))]
              go_wp2_with fail
              go_ret
              exact ⟨by rw [HV.out] <;> rfl, HB.out.2⟩
            | true =>
              have HV : Hid (v = false) := by unfold Hid; rw [← HVV.out]; simp only [boolS, (And.intro hn (And.intro hl ho))]
              go_wp2_with fail
              go_ret
              exact ⟨by rw [HV.out] <;> rfl, HB.out.2⟩
          | true =>
            cases ho : on.toList.isEmpty with
            | false =>
              have HV : Hid (v = false) := by unfold Hid; rw [← HVV.out]; simp only [boolS, (And.intro hn (And.intro hl ho))]
              go_wp2_with fail
              go_ret
              exact ⟨by rw [HV.out] <;> rfl, HB.out.2⟩
            | true =>
              have HV : Hid (v = false) := by unfold Hid; rw [← HVV.out]; simp only [boolS, (And.intro hn (And.intro hl ho))]
              go_wp2_with fail
              go_ret
              exact ⟨by rw [HV.out] <;> rfl, HB.out.2⟩
        | true =>
          have hl := hl0.symm
          clear hl0 hbb
          cases hn : (num == 0) with
          | false =>
            cases ho : on.toList.isEmpty with
            | false =>
              have HV : Hid (v = false) := by unfold Hid; rw [← HVV.out]; simp only [boolS, (And.intro hl (And.intro hn ho))]
              go_wp2_with fail
              go_ret
              exact ⟨by rw [HV.out] <;> rfl, HB.out.2⟩
            | true =>
              cases flag with
              | true =>
                have HV : Hid (v = false) := by unfold Hid; rw [← HVV.out]; simp only [boolS, (And.intro hl (And.intro hn ho))]
                go_wp2_with fail
                go_ret
                exact ⟨by rw [HV.out] <;> rfl, HB.out.2⟩
              | false =>
                cases ht : tyEq ⟨ty.kind, ty.len, ty.name⟩ ⟨0, 0, ⟨#[]⟩⟩ with
                | false =>
                  have HV : Hid (v = false) := by unfold Hid; rw [← HVV.out]; simp only [boolS, (And.intro hl (And.intro hn (And.intro ho ht)))]
                  go_wp2_with fail
                  go_ret
                  exact ⟨by rw [HV.out] <;> rfl, HB.out.2⟩
                | true =>
                  have HV : Hid (v = false) := by unfold Hid; rw [← HVV.out]; simp only [boolS, (And.intro hl (And.intro hn (And.intro ho ht)))]
                  go_wp2_with fail
                  go_ret
                  exact ⟨by rw [HV.out] <;> rfl, HB.out.2⟩
          | true =>
            cases ho : on.toList.isEmpty with
            | false =>
              have HV : Hid (v = false) := by unfold Hid; rw [← HVV.out]; simp only [boolS, (And.intro hl (And.intro hn ho))]
              go_wp2_with fail
              go_ret
              exact ⟨by rw [HV.out] <;> rfl, HB.out.2⟩
            | true =>
              cases flag with
              | true =>
                have HV : Hid (v = false) := by unfold Hid; rw [← HVV.out]; simp only [boolS, (And.intro hl (And.intro hn ho))]
                go_wp2_with fail
                go_ret
                exact ⟨by rw [HV.out] <;> rfl, HB.out.2⟩
              | false =>
                cases ht : tyEq ⟨ty.kind, ty.len, ty.name⟩ ⟨0, 0, ⟨#[]⟩⟩ with
                | false =>
                  have HV : Hid (v = false) := by unfold Hid; rw [← HVV.out]; simp only [boolS, (And.intro hl (And.intro hn (And.intro ho ht)))]
                  go_wp2_with fail
                  go_ret
                  exact ⟨by rw [HV.out] <;> rfl, HB.out.2⟩
                | true =>
                  have HV : Hid (exprsB exprs 0 0 = v) := by unfold Hid; rw [← HVV.out]; simp only [boolS, (And.intro hl (And.intro hn (And.intro ho ht)))]
                  go_wp2_with fail
                  refine (specExprs a3 c3 exprs 0 0 _ (HK.out _ (HB.out.2)) ZE.out (by unfold i64E; omega) (by unfold i64E; omega) v HV.out).mono ?_
                  rintro e wz ⟨rfl, bz⟩
                  have BZ := Lib.hid (Below.call bz (HB.out.2))
                  clear bz
                  go_wp2_with fail
                  go_ret
                  exact ⟨rfl, BZ.out⟩
  | true =>
    have HI0 := Lib.hid hi
    clear hi
    go_wp2_with fail
    go_loop [6, 9] (fun l i => ∃ (k : Nat) (bb : Bool), k ≤ list.length ∧ i = .int .i64 k ∧ l = .bool bb ∧ Hid (bb = (true && (list.take k).all nmB))) (fun _ i => list.length - (intOf i).toNat)
    case atStart => exact ⟨0, true, Nat.zero_le _, rfl, rfl, rfl⟩
    case round =>
      obtain ⟨k, bb, hk, rfl, rfl, hbb⟩ := hrel
      by_cases hlt : k < list.length
      · have hltI : (k : Int) < (list.length : Int) := by omega
        cases bb with
        | false =>
          have hl : namesB list 12 = false := by
            have h := hbb.out
            unfold namesB
            rw [Bool.true_and] at h
            have : list.all nmB = false := by
              rw [← List.take_append_drop k list, List.all_append, ← h]; rfl
            rw [this]; simp
          clear hltI
          have hltI : (k : Int) < (list.length : Int) := by omega
          cases hn : (num == 0) with
          | false =>
            cases ho : on.toList.isEmpty with
            | false =>
              have HV : Hid (v = false) := by unfold Hid; rw [← HVV.out]; simp only [boolS, (And.intro hn (And.intro hl ho))]
              go_wp2_with fail
              go_ret
              exact ⟨by rw [HV.out] <;> rfl, HB.out.2⟩
            | true =>
              have HV : Hid (v = false) := by unfold Hid; rw [← HVV.out]; simp only [boolS, (And.intro hn (And.intro hl ho))]
              go_wp2_with fail
              go_ret
              exact ⟨by rw [HV.out] <;> rfl, HB.out.2⟩
          | true =>
            cases ho : on.toList.isEmpty with
            | false =>
              have HV : Hid (v = false) := by unfold Hid; rw [← HVV.out]; simp only [boolS, (And.intro hn (And.intro hl ho))]
              go_wp2_with fail
              go_ret
              exact ⟨by rw [HV.out] <;> rfl, HB.out.2⟩
            | true =>
              have HV : Hid (v = false) := by unfold Hid; rw [← HVV.out]; simp only [boolS, (And.intro hn (And.intro hl ho))]
              go_wp2_with fail
              go_ret
              exact ⟨by rw [HV.out] <;> rfl, HB.out.2⟩
        | true =>
          obtain ⟨b, off, rfl, hbl, hc⟩ := HL0.out.spot hlt
          go_wp2_with fail
          refine (specName list[k] _ (by have := lets_mem (List.getElem_mem hlt); have := ZL.out; omega)).mono ?_
          rintro e w2 ⟨rfl, rfl⟩
          go_wp2_with fail
          go_round
          case rel => exact ⟨k + 1, nmB list[k], by omega, by go_num, rfl, by unfold Hid; rw [all_take nmB list k hlt, ← Bool.and_assoc, ← hbb.out]; simp⟩
          case measure => simp [intOf]; omega
      · have hge : ¬ (k : Int) < (list.length : Int) := by omega
        have hl0 : bb = namesB list 12 := by
          have h := hbb.out
          rw [List.take_of_length_le (by omega)] at h
          rw [h]; unfold namesB; rw [HI0.out]
        cases bb with
        | false =>
          have hl := hl0.symm
          clear hl0 hbb
          cases hn : (num == 0) with
          | false =>
            cases ho : on.toList.isEmpty with
            | false =>
              have HV : Hid (v = false) := by unfold Hid; rw [← HVV.out]; simp only [boolS, (And.intro hn (And.intro hl ho))]
              go_wp2_with fail
              go_ret
              exact ⟨by rw [HV.out] <;> rfl, HB.out.2⟩
            | true =>
              have HV : Hid (v = false) := by unfold Hid; rw [← HVV.out]; simp only [boolS, (And.intro hn (And.intro hl ho))]
              go_wp2_with fail
              go_ret
              exact ⟨by rw [HV.out] <;> rfl, HB.out.2⟩
          | true =>
            cases ho : on.toList.isEmpty with
            | false =>
              have HV : Hid (v = false) := by unfold Hid; rw [← HVV.out]; simp only [boolS, (And.intro hn (And.intro hl ho))]
              go_wp2_with fail
              go_ret
              exact ⟨by rw [HV.out] <;> rfl, HB.out.2⟩
            | true =>
              have HV : Hid (v = false) := by unfold Hid; rw [← HVV.out]; simp only [boolS, (And.intro hn (And.intro hl ho))]
              go_wp2_with fail
              go_ret
              exact ⟨by rw [HV.out] <;> rfl, HB.out.2⟩
        | true =>
          have hl := hl0.symm
          clear hl0 hbb
          cases hn : (num == 0) with
          | false =>
            cases ho : on.toList.isEmpty with
            | false =>
              have HV : Hid (v = false) := by unfold Hid; rw [← HVV.out]; simp only [boolS, (And.intro hl (And.intro hn ho))]
              go_wp2_with fail
              go_ret
              exact ⟨by rw [HV.out] <;> rfl, HB.out.2⟩
            | true =>
              cases flag with
              | true =>
                have HV : Hid (v = false) := by unfold Hid; rw [← HVV.out]; simp only [boolS, (And.intro hl (And.intro hn ho))]
                go_wp2_with fail
                go_ret
                exact ⟨by rw [HV.out] <;> rfl, HB.out.2⟩
              | false =>
                cases ht : tyEq ⟨ty.kind, ty.len, ty.name⟩ ⟨0, 0, ⟨#[]⟩⟩ with
                | false =>
                  have HV : Hid (v = false) := by unfold Hid; rw [← HVV.out]; simp only [boolS, (And.intro hl (And.intro hn (And.intro ho ht)))]
                  go_wp2_with fail
                  go_ret
                  exact ⟨by rw [HV.out] <;> rfl, HB.out.2⟩
                | true =>
                  have HV : Hid (v = false) := by unfold Hid; rw [← HVV.out]; simp only [boolS, (And.intro hl (And.intro hn (And.intro ho ht)))]
                  go_wp2_with fail
                  go_ret
                  exact ⟨by rw [HV.out] <;> rfl, HB.out.2⟩
          | true =>
            cases ho : on.toList.isEmpty with
            | false =>
              have HV : Hid (v = false) := by unfold Hid; rw [← HVV.out]; simp only [boolS, (And.intro hl (And.intro hn ho))]
              go_wp2_with fail
              go_ret
              exact ⟨by rw [HV.out] <;> rfl, HB.out.2⟩
            | true =>
              cases flag with
              | true =>
                have HV : Hid (v = false) := by unfold Hid; rw [← HVV.out]; simp only [boolS, (And.intro hl (And.intro hn ho))]
                go_wp2_with fail
                go_ret
                exact ⟨by rw [HV.out] <;> rfl, HB.out.2⟩
              | false =>
                cases ht : tyEq ⟨ty.kind, ty.len, ty.name⟩ ⟨0, 0, ⟨#[]⟩⟩ with
                | false =>
                  have HV : Hid (v = false) := by unfold Hid; rw [← HVV.out]; simp only [boolS, (And.intro hl (And.intro hn (And.intro ho ht)))]
                  go_wp2_with fail
                  go_ret
                  exact ⟨by rw [HV.out] <;> rfl, HB.out.2⟩
                | true =>
                  have HV : Hid (exprsB exprs 0 0 = v) := by unfold Hid; rw [← HVV.out]; simp only [boolS, (And.intro hl (And.intro hn (And.intro ho ht)))]
                  go_wp2_with fail
                  refine (specExprs a3 c3 exprs 0 0 _ (HK.out _ (HB.out.2)) ZE.out (by unfold i64E; omega) (by unfold i64E; omega) v HV.out).mono ?_
                  rintro e wz ⟨rfl, bz⟩
                  have BZ := Lib.hid (Below.call bz (HB.out.2))
                  clear bz
                  go_wp2_with fail
                  go_ret
                  exact ⟨rfl, BZ.out⟩

set_option maxRecDepth 100000 in
set_option maxHeartbeats 8000000 in
theorem specRest_2 (name on : ByteArray) (list : List ByteArray) (num : Int) (flag : Bool) (ty : Ty) (cols : List Co) (rules : List Ru) (exprs : List Ex) (a0 a1 a2 a3 : Option Addr) (c0 c1 c2 c3 : Nat) (w : World) (h0 : Ss 0 w a0 c0 list) (h3 : Ks 0 w a3 c3 exprs) (zo : on.size ≤ 1048576) (zt : ty.name.size ≤ 1048576) (zl : lets list ≤ 1048576) (ze : wtL exprs ≤ 1048576) (v : Bool)
    (hv : (on.toList.isEmpty && ((((list.length : Nat) : Int) == 0) && ((!flag) && (tyEq ⟨ty.kind, ty.len, ty.name⟩ ⟨0, 0, ⟨#[]⟩⟩ && (((num == 0) || inI num 0 999999999) && exprsB exprs 0 0))))) = v) :
    Calls Tryz.prog 90 #[.agg #[.int .i64 2, .string name, .string on, .slice a0 list.length c0, .int .i64 num, .bool flag, .int .i64 ty.kind, .int .i64 ty.len, .string ty.name, .slice a1 cols.length c1, .slice a2 rules.length c2, .slice a3 exprs.length c3]] w fun e w' => e = .returned (.bool v) ∧ Below w.heap.size w w' := by
  have ll := h0.1.len
  have le := h3.len
  have HL := Lib.hid (fun w' (hb : Below w.heap.size w w') => (h0.kept (Kept.below hb)).1)
  have HK := Lib.hid (fun w' (hb : Below w.heap.size w w') => h3.kept (Kept.below hb))
  have ZO := Lib.hid zo
  have ZT := Lib.hid zt
  have ZL := Lib.hid zl
  have ZE := Lib.hid ze
  have HVV := Lib.hid hv
  have hq := fun w => eqlTy ty.kind ty.len ty.name 0 0 ⟨#[]⟩ w
  have hG := fun x y w => guardTy x y ty.kind ty.len ty.name 0 0 ⟨#[]⟩ w
  have HB := Lib.hid (boxV_new w [.int .i64 2, .string name, .string on, .slice a0 list.length c0, .int .i64 num, .bool flag, .int .i64 ty.kind, .int .i64 ty.len, .string ty.name, .slice a1 cols.length c1, .slice a2 rules.length c2, .slice a3 exprs.length c3] 55)
  clear h0 h3 zo zt zl ze hv
  go_enter Tryz.func90, Tryz.ntmps90
  cases hn : (num == 0) with
  | true =>
    cases ho : on.toList.isEmpty with
    | false =>
      have HV : Hid (v = false) := by unfold Hid; rw [← HVV.out]; simp only [boolS, (And.intro hn ho)]
      go_wp2_with fail
      go_ret
      exact ⟨by rw [HV.out] <;> rfl, (Below.refl _ _).alloc (Nat.le_refl _) _⟩
    | true =>
      cases hl : (((list.length : Nat) : Int) == 0) with
      | false =>
        have HV : Hid (v = false) := by unfold Hid; rw [← HVV.out]; simp only [boolS, (And.intro hn (And.intro ho hl))]
        go_wp2_with fail
        go_ret
        exact ⟨by rw [HV.out] <;> rfl, (Below.refl _ _).alloc (Nat.le_refl _) _⟩
      | true =>
        cases flag with
        | true =>
          have HV : Hid (v = false) := by unfold Hid; rw [← HVV.out]; simp only [boolS, (And.intro hn (And.intro ho hl))]
          go_wp2_with fail
          go_ret
          exact ⟨by rw [HV.out] <;> rfl, (Below.refl _ _).alloc (Nat.le_refl _) _⟩
        | false =>
          cases ht : tyEq ⟨ty.kind, ty.len, ty.name⟩ ⟨0, 0, ⟨#[]⟩⟩ with
          | false =>
            have HV : Hid (v = false) := by unfold Hid; rw [← HVV.out]; simp only [boolS, (And.intro hn (And.intro ho (And.intro hl ht)))]
            go_wp2_with fail
            go_ret
            exact ⟨by rw [HV.out] <;> rfl, (Below.refl _ _).alloc (Nat.le_refl _) _⟩
          | true =>
            have HV : Hid (exprsB exprs 0 0 = v) := by unfold Hid; rw [← HVV.out]; simp only [boolS, (And.intro hn (And.intro ho (And.intro hl ht)))]
            go_wp2_with fail
            refine (specExprs a3 c3 exprs 0 0 _ (HK.out _ ((Below.refl _ _).alloc (Nat.le_refl _) _)) ZE.out (by unfold i64E; omega) (by unfold i64E; omega) v HV.out).mono ?_
            rintro e wz ⟨rfl, bz⟩
            have BZ := Lib.hid (Below.call bz ((Below.refl _ _).alloc (Nat.le_refl _) _))
            clear bz
            go_wp2_with fail
            go_ret
            exact ⟨rfl, BZ.out⟩
  | false =>
    go_wp2_with fail
    refine (specInIs num 0 999999999 _ _ rfl).mono ?_
    rintro e wn ⟨rfl, rfl⟩
    cases hm : inI num 0 999999999 with
    | false =>
      cases ho : on.toList.isEmpty with
      | false =>
        have HV : Hid (v = false) := by unfold Hid; rw [← HVV.out]; simp only [boolS, (And.intro hn (And.intro hm ho))]
        go_wp2_with fail
        go_ret
        exact ⟨by rw [HV.out] <;> rfl, (Below.refl _ _).alloc (Nat.le_refl _) _⟩
      | true =>
        cases hl : (((list.length : Nat) : Int) == 0) with
        | false =>
          have HV : Hid (v = false) := by unfold Hid; rw [← HVV.out]; simp only [boolS, (And.intro hn (And.intro hm (And.intro ho hl)))]
          go_wp2_with fail
          go_ret
          exact ⟨by rw [HV.out] <;> rfl, (Below.refl _ _).alloc (Nat.le_refl _) _⟩
        | true =>
          cases flag with
          | true =>
            have HV : Hid (v = false) := by unfold Hid; rw [← HVV.out]; simp only [boolS, (And.intro hn (And.intro hm (And.intro ho hl)))]
            go_wp2_with fail
            go_ret
            exact ⟨by rw [HV.out] <;> rfl, (Below.refl _ _).alloc (Nat.le_refl _) _⟩
          | false =>
            cases ht : tyEq ⟨ty.kind, ty.len, ty.name⟩ ⟨0, 0, ⟨#[]⟩⟩ with
            | false =>
              have HV : Hid (v = false) := by unfold Hid; rw [← HVV.out]; simp only [boolS, (And.intro hn (And.intro hm (And.intro ho (And.intro hl ht))))]
              go_wp2_with fail
              go_ret
              exact ⟨by rw [HV.out] <;> rfl, (Below.refl _ _).alloc (Nat.le_refl _) _⟩
            | true =>
              have HV : Hid (v = false) := by unfold Hid; rw [← HVV.out]; simp only [boolS, (And.intro hn (And.intro hm (And.intro ho (And.intro hl ht))))]
              go_wp2_with fail
              go_ret
              exact ⟨by rw [HV.out] <;> rfl, (Below.refl _ _).alloc (Nat.le_refl _) _⟩
    | true =>
      cases ho : on.toList.isEmpty with
      | false =>
        have HV : Hid (v = false) := by unfold Hid; rw [← HVV.out]; simp only [boolS, (And.intro hn (And.intro hm ho))]
        go_wp2_with fail
        go_ret
        exact ⟨by rw [HV.out] <;> rfl, (Below.refl _ _).alloc (Nat.le_refl _) _⟩
      | true =>
        cases hl : (((list.length : Nat) : Int) == 0) with
        | false =>
          have HV : Hid (v = false) := by unfold Hid; rw [← HVV.out]; simp only [boolS, (And.intro hn (And.intro hm (And.intro ho hl)))]
          go_wp2_with fail
          go_ret
          exact ⟨by rw [HV.out] <;> rfl, (Below.refl _ _).alloc (Nat.le_refl _) _⟩
        | true =>
          cases flag with
          | true =>
            have HV : Hid (v = false) := by unfold Hid; rw [← HVV.out]; simp only [boolS, (And.intro hn (And.intro hm (And.intro ho hl)))]
            go_wp2_with fail
            go_ret
            exact ⟨by rw [HV.out] <;> rfl, (Below.refl _ _).alloc (Nat.le_refl _) _⟩
          | false =>
            cases ht : tyEq ⟨ty.kind, ty.len, ty.name⟩ ⟨0, 0, ⟨#[]⟩⟩ with
            | false =>
              have HV : Hid (v = false) := by unfold Hid; rw [← HVV.out]; simp only [boolS, (And.intro hn (And.intro hm (And.intro ho (And.intro hl ht))))]
              go_wp2_with fail
              go_ret
              exact ⟨by rw [HV.out] <;> rfl, (Below.refl _ _).alloc (Nat.le_refl _) _⟩
            | true =>
              have HV : Hid (exprsB exprs 0 0 = v) := by unfold Hid; rw [← HVV.out]; simp only [boolS, (And.intro hn (And.intro hm (And.intro ho (And.intro hl ht))))]
              go_wp2_with fail
              refine (specExprs a3 c3 exprs 0 0 _ (HK.out _ ((Below.refl _ _).alloc (Nat.le_refl _) _)) ZE.out (by unfold i64E; omega) (by unfold i64E; omega) v HV.out).mono ?_
              rintro e wz ⟨rfl, bz⟩
              have BZ := Lib.hid (Below.call bz ((Below.refl _ _).alloc (Nat.le_refl _) _))
              clear bz
              go_wp2_with fail
              go_ret
              exact ⟨rfl, BZ.out⟩

set_option maxRecDepth 100000 in
set_option maxHeartbeats 8000000 in
theorem specRest_7 (name on : ByteArray) (list : List ByteArray) (num : Int) (flag : Bool) (ty : Ty) (cols : List Co) (rules : List Ru) (exprs : List Ex) (a0 a1 a2 a3 : Option Addr) (c0 c1 c2 c3 : Nat) (w : World) (h0 : Ss 0 w a0 c0 list) (h3 : Ks 0 w a3 c3 exprs) (zo : on.size ≤ 1048576) (zt : ty.name.size ≤ 1048576) (zl : lets list ≤ 1048576) (ze : wtL exprs ≤ 1048576) (v : Bool)
    (hv : (nameB on.data.toList && ((((list.length : Nat) : Int) == 0) && ((!flag) && (tyEq ⟨ty.kind, ty.len, ty.name⟩ ⟨0, 0, ⟨#[]⟩⟩ && ((num == 0) && exprsB exprs 0 0))))) = v) :
    Calls Tryz.prog 90 #[.agg #[.int .i64 7, .string name, .string on, .slice a0 list.length c0, .int .i64 num, .bool flag, .int .i64 ty.kind, .int .i64 ty.len, .string ty.name, .slice a1 cols.length c1, .slice a2 rules.length c2, .slice a3 exprs.length c3]] w fun e w' => e = .returned (.bool v) ∧ Below w.heap.size w w' := by
  have ll := h0.1.len
  have le := h3.len
  have HL := Lib.hid (fun w' (hb : Below w.heap.size w w') => (h0.kept (Kept.below hb)).1)
  have HK := Lib.hid (fun w' (hb : Below w.heap.size w w') => h3.kept (Kept.below hb))
  have ZO := Lib.hid zo
  have ZT := Lib.hid zt
  have ZL := Lib.hid zl
  have ZE := Lib.hid ze
  have HVV := Lib.hid hv
  have hq := fun w => eqlTy ty.kind ty.len ty.name 0 0 ⟨#[]⟩ w
  have hG := fun x y w => guardTy x y ty.kind ty.len ty.name 0 0 ⟨#[]⟩ w
  have HB := Lib.hid (boxV_new w [.int .i64 7, .string name, .string on, .slice a0 list.length c0, .int .i64 num, .bool flag, .int .i64 ty.kind, .int .i64 ty.len, .string ty.name, .slice a1 cols.length c1, .slice a2 rules.length c2, .slice a3 exprs.length c3] 55)
  clear h0 h3 zo zt zl ze hv
  go_enter Tryz.func90, Tryz.ntmps90
  go_wp2_with fail
  generalize w.alloc (.cells #[.int .i64 7, .string name, .string on, .slice a0 list.length c0, .int .i64 num, .bool flag, .int .i64 ty.kind, .int .i64 ty.len, .string ty.name, .slice a1 cols.length c1, .slice a2 rules.length c2, .slice a3 exprs.length c3] 55) = W0 at HB ⊢
  have g0 : W0.cell? ⟨w.heap.size, 0, none⟩ = some (.int .i64 7) := (HB.out.1.2 0 (by simp)).1
  have g1 : W0.cell? ⟨w.heap.size, 1, none⟩ = some (.string name) := (HB.out.1.2 1 (by simp)).1
  have g2 : W0.cell? ⟨w.heap.size, 2, none⟩ = some (.string on) := (HB.out.1.2 2 (by simp)).1
  have g3 : W0.cell? ⟨w.heap.size, 3, none⟩ = some (.slice a0 list.length c0) := (HB.out.1.2 3 (by simp)).1
  have g4 : W0.cell? ⟨w.heap.size, 4, none⟩ = some (.int .i64 num) := (HB.out.1.2 4 (by simp)).1
  have g5 : W0.cell? ⟨w.heap.size, 5, none⟩ = some (.bool flag) := (HB.out.1.2 5 (by simp)).1
  have g6 : W0.cell? ⟨w.heap.size, 6, none⟩ = some (.int .i64 ty.kind) := (HB.out.1.2 6 (by simp)).1
  have g7 : W0.cell? ⟨w.heap.size, 7, none⟩ = some (.int .i64 ty.len) := (HB.out.1.2 7 (by simp)).1
  have g8 : W0.cell? ⟨w.heap.size, 8, none⟩ = some (.string ty.name) := (HB.out.1.2 8 (by simp)).1
  have g9 : W0.cell? ⟨w.heap.size, 9, none⟩ = some (.slice a1 cols.length c1) := (HB.out.1.2 9 (by simp)).1
  have g10 : W0.cell? ⟨w.heap.size, 10, none⟩ = some (.slice a2 rules.length c2) := (HB.out.1.2 10 (by simp)).1
  have g11 : W0.cell? ⟨w.heap.size, 11, none⟩ = some (.slice a3 exprs.length c3) := (HB.out.1.2 11 (by simp)).1
  refine (specNameOk on _ ZO.out _ rfl).mono ?_
  rintro e w1 ⟨rfl, rfl⟩
  cases hn : (num == 0) with
  | false =>
    cases ho : nameB on.data.toList with
    | false =>
      have HV : Hid (v = false) := by unfold Hid; rw [← HVV.out]; simp only [boolS, (And.intro hn ho)]
      go_wp2_with fail
      go_ret
      exact ⟨by rw [HV.out] <;> rfl, HB.out.2⟩
    | true =>
      cases hl : (((list.length : Nat) : Int) == 0) with
      | false =>
        have HV : Hid (v = false) := by unfold Hid; rw [← HVV.out]; simp only [boolS, (And.intro hn (And.intro ho hl))]
        go_wp2_with fail
        go_ret
        exact ⟨by rw [HV.out] <;> rfl, HB.out.2⟩
      | true =>
        cases flag with
        | true =>
          have HV : Hid (v = false) := by unfold Hid; rw [← HVV.out]; simp only [boolS, (And.intro hn (And.intro ho hl))]
          go_wp2_with fail
          go_ret
          exact ⟨by rw [HV.out] <;> rfl, HB.out.2⟩
        | false =>
          cases ht : tyEq ⟨ty.kind, ty.len, ty.name⟩ ⟨0, 0, ⟨#[]⟩⟩ with
          | false =>
            have HV : Hid (v = false) := by unfold Hid; rw [← HVV.out]; simp only [boolS, (And.intro hn (And.intro ho (And.intro hl ht)))]
            go_wp2_with fail
            go_ret
            exact ⟨by rw [HV.out] <;> rfl, HB.out.2⟩
          | true =>
            have HV : Hid (v = false) := by unfold Hid; rw [← HVV.out]; simp only [boolS, (And.intro hn (And.intro ho (And.intro hl ht)))]
            go_wp2_with fail
            go_ret
            exact ⟨by rw [HV.out] <;> rfl, HB.out.2⟩
  | true =>
    cases ho : nameB on.data.toList with
    | false =>
      have HV : Hid (v = false) := by unfold Hid; rw [← HVV.out]; simp only [boolS, (And.intro hn ho)]
      go_wp2_with fail
      go_ret
      exact ⟨by rw [HV.out] <;> rfl, HB.out.2⟩
    | true =>
      cases hl : (((list.length : Nat) : Int) == 0) with
      | false =>
        have HV : Hid (v = false) := by unfold Hid; rw [← HVV.out]; simp only [boolS, (And.intro hn (And.intro ho hl))]
        go_wp2_with fail
        go_ret
        exact ⟨by rw [HV.out] <;> rfl, HB.out.2⟩
      | true =>
        cases flag with
        | true =>
          have HV : Hid (v = false) := by unfold Hid; rw [← HVV.out]; simp only [boolS, (And.intro hn (And.intro ho hl))]
          go_wp2_with fail
          go_ret
          exact ⟨by rw [HV.out] <;> rfl, HB.out.2⟩
        | false =>
          cases ht : tyEq ⟨ty.kind, ty.len, ty.name⟩ ⟨0, 0, ⟨#[]⟩⟩ with
          | false =>
            have HV : Hid (v = false) := by unfold Hid; rw [← HVV.out]; simp only [boolS, (And.intro hn (And.intro ho (And.intro hl ht)))]
            go_wp2_with fail
            go_ret
            exact ⟨by rw [HV.out] <;> rfl, HB.out.2⟩
          | true =>
            have HV : Hid (exprsB exprs 0 0 = v) := by unfold Hid; rw [← HVV.out]; simp only [boolS, (And.intro hn (And.intro ho (And.intro hl ht)))]
            go_wp2_with fail
            refine (specExprs a3 c3 exprs 0 0 _ (HK.out _ (HB.out.2)) ZE.out (by unfold i64E; omega) (by unfold i64E; omega) v HV.out).mono ?_
            rintro e wz ⟨rfl, bz⟩
            have BZ := Lib.hid (Below.call bz (HB.out.2))
            clear bz
            go_wp2_with fail
            go_ret
            exact ⟨rfl, BZ.out⟩

set_option maxRecDepth 100000 in
set_option maxHeartbeats 8000000 in
theorem specRest_12 (name on : ByteArray) (list : List ByteArray) (num : Int) (flag : Bool) (ty : Ty) (cols : List Co) (rules : List Ru) (exprs : List Ex) (a0 a1 a2 a3 : Option Addr) (c0 c1 c2 c3 : Nat) (w : World) (h0 : Ss 0 w a0 c0 list) (h3 : Ks 0 w a3 c3 exprs) (zo : on.size ≤ 1048576) (zt : ty.name.size ≤ 1048576) (zl : lets list ≤ 1048576) (ze : wtL exprs ≤ 1048576) (v : Bool)
    (hv : (nameB on.data.toList && ((((list.length : Nat) : Int) == 0) && ((!flag) && (tyEq ⟨ty.kind, ty.len, ty.name⟩ ⟨0, 0, ⟨#[]⟩⟩ && ((num == 0) && exprsB exprs 0 0))))) = v) :
    Calls Tryz.prog 90 #[.agg #[.int .i64 12, .string name, .string on, .slice a0 list.length c0, .int .i64 num, .bool flag, .int .i64 ty.kind, .int .i64 ty.len, .string ty.name, .slice a1 cols.length c1, .slice a2 rules.length c2, .slice a3 exprs.length c3]] w fun e w' => e = .returned (.bool v) ∧ Below w.heap.size w w' := by
  have ll := h0.1.len
  have le := h3.len
  have HL := Lib.hid (fun w' (hb : Below w.heap.size w w') => (h0.kept (Kept.below hb)).1)
  have HK := Lib.hid (fun w' (hb : Below w.heap.size w w') => h3.kept (Kept.below hb))
  have ZO := Lib.hid zo
  have ZT := Lib.hid zt
  have ZL := Lib.hid zl
  have ZE := Lib.hid ze
  have HVV := Lib.hid hv
  have hq := fun w => eqlTy ty.kind ty.len ty.name 0 0 ⟨#[]⟩ w
  have hG := fun x y w => guardTy x y ty.kind ty.len ty.name 0 0 ⟨#[]⟩ w
  have HB := Lib.hid (boxV_new w [.int .i64 12, .string name, .string on, .slice a0 list.length c0, .int .i64 num, .bool flag, .int .i64 ty.kind, .int .i64 ty.len, .string ty.name, .slice a1 cols.length c1, .slice a2 rules.length c2, .slice a3 exprs.length c3] 55)
  clear h0 h3 zo zt zl ze hv
  go_enter Tryz.func90, Tryz.ntmps90
  go_wp2_with fail
  generalize w.alloc (.cells #[.int .i64 12, .string name, .string on, .slice a0 list.length c0, .int .i64 num, .bool flag, .int .i64 ty.kind, .int .i64 ty.len, .string ty.name, .slice a1 cols.length c1, .slice a2 rules.length c2, .slice a3 exprs.length c3] 55) = W0 at HB ⊢
  have g0 : W0.cell? ⟨w.heap.size, 0, none⟩ = some (.int .i64 12) := (HB.out.1.2 0 (by simp)).1
  have g1 : W0.cell? ⟨w.heap.size, 1, none⟩ = some (.string name) := (HB.out.1.2 1 (by simp)).1
  have g2 : W0.cell? ⟨w.heap.size, 2, none⟩ = some (.string on) := (HB.out.1.2 2 (by simp)).1
  have g3 : W0.cell? ⟨w.heap.size, 3, none⟩ = some (.slice a0 list.length c0) := (HB.out.1.2 3 (by simp)).1
  have g4 : W0.cell? ⟨w.heap.size, 4, none⟩ = some (.int .i64 num) := (HB.out.1.2 4 (by simp)).1
  have g5 : W0.cell? ⟨w.heap.size, 5, none⟩ = some (.bool flag) := (HB.out.1.2 5 (by simp)).1
  have g6 : W0.cell? ⟨w.heap.size, 6, none⟩ = some (.int .i64 ty.kind) := (HB.out.1.2 6 (by simp)).1
  have g7 : W0.cell? ⟨w.heap.size, 7, none⟩ = some (.int .i64 ty.len) := (HB.out.1.2 7 (by simp)).1
  have g8 : W0.cell? ⟨w.heap.size, 8, none⟩ = some (.string ty.name) := (HB.out.1.2 8 (by simp)).1
  have g9 : W0.cell? ⟨w.heap.size, 9, none⟩ = some (.slice a1 cols.length c1) := (HB.out.1.2 9 (by simp)).1
  have g10 : W0.cell? ⟨w.heap.size, 10, none⟩ = some (.slice a2 rules.length c2) := (HB.out.1.2 10 (by simp)).1
  have g11 : W0.cell? ⟨w.heap.size, 11, none⟩ = some (.slice a3 exprs.length c3) := (HB.out.1.2 11 (by simp)).1
  refine (specNameOk on _ ZO.out _ rfl).mono ?_
  rintro e w1 ⟨rfl, rfl⟩
  cases hn : (num == 0) with
  | false =>
    cases ho : nameB on.data.toList with
    | false =>
      have HV : Hid (v = false) := by unfold Hid; rw [← HVV.out]; simp only [boolS, (And.intro hn ho)]
      go_wp2_with fail
      go_ret
      exact ⟨by rw [HV.out] <;> rfl, HB.out.2⟩
    | true =>
      cases hl : (((list.length : Nat) : Int) == 0) with
      | false =>
        have HV : Hid (v = false) := by unfold Hid; rw [← HVV.out]; simp only [boolS, (And.intro hn (And.intro ho hl))]
        go_wp2_with fail
        go_ret
        exact ⟨by rw [HV.out] <;> rfl, HB.out.2⟩
      | true =>
        cases flag with
        | true =>
          have HV : Hid (v = false) := by unfold Hid; rw [← HVV.out]; simp only [boolS, (And.intro hn (And.intro ho hl))]
          go_wp2_with fail
          go_ret
          exact ⟨by rw [HV.out] <;> rfl, HB.out.2⟩
        | false =>
          cases ht : tyEq ⟨ty.kind, ty.len, ty.name⟩ ⟨0, 0, ⟨#[]⟩⟩ with
          | false =>
            have HV : Hid (v = false) := by unfold Hid; rw [← HVV.out]; simp only [boolS, (And.intro hn (And.intro ho (And.intro hl ht)))]
            go_wp2_with fail
            go_ret
            exact ⟨by rw [HV.out] <;> rfl, HB.out.2⟩
          | true =>
            have HV : Hid (v = false) := by unfold Hid; rw [← HVV.out]; simp only [boolS, (And.intro hn (And.intro ho (And.intro hl ht)))]
            go_wp2_with fail
            go_ret
            exact ⟨by rw [HV.out] <;> rfl, HB.out.2⟩
  | true =>
    cases ho : nameB on.data.toList with
    | false =>
      have HV : Hid (v = false) := by unfold Hid; rw [← HVV.out]; simp only [boolS, (And.intro hn ho)]
      go_wp2_with fail
      go_ret
      exact ⟨by rw [HV.out] <;> rfl, HB.out.2⟩
    | true =>
      cases hl : (((list.length : Nat) : Int) == 0) with
      | false =>
        have HV : Hid (v = false) := by unfold Hid; rw [← HVV.out]; simp only [boolS, (And.intro hn (And.intro ho hl))]
        go_wp2_with fail
        go_ret
        exact ⟨by rw [HV.out] <;> rfl, HB.out.2⟩
      | true =>
        cases flag with
        | true =>
          have HV : Hid (v = false) := by unfold Hid; rw [← HVV.out]; simp only [boolS, (And.intro hn (And.intro ho hl))]
          go_wp2_with fail
          go_ret
          exact ⟨by rw [HV.out] <;> rfl, HB.out.2⟩
        | false =>
          cases ht : tyEq ⟨ty.kind, ty.len, ty.name⟩ ⟨0, 0, ⟨#[]⟩⟩ with
          | false =>
            have HV : Hid (v = false) := by unfold Hid; rw [← HVV.out]; simp only [boolS, (And.intro hn (And.intro ho (And.intro hl ht)))]
            go_wp2_with fail
            go_ret
            exact ⟨by rw [HV.out] <;> rfl, HB.out.2⟩
          | true =>
            have HV : Hid (exprsB exprs 0 0 = v) := by unfold Hid; rw [← HVV.out]; simp only [boolS, (And.intro hn (And.intro ho (And.intro hl ht)))]
            go_wp2_with fail
            refine (specExprs a3 c3 exprs 0 0 _ (HK.out _ (HB.out.2)) ZE.out (by unfold i64E; omega) (by unfold i64E; omega) v HV.out).mono ?_
            rintro e wz ⟨rfl, bz⟩
            have BZ := Lib.hid (Below.call bz (HB.out.2))
            clear bz
            go_wp2_with fail
            go_ret
            exact ⟨rfl, BZ.out⟩

set_option maxRecDepth 100000 in
set_option maxHeartbeats 8000000 in
theorem specRest_8 (name on : ByteArray) (list : List ByteArray) (num : Int) (flag : Bool) (ty : Ty) (cols : List Co) (rules : List Ru) (exprs : List Ex) (a0 a1 a2 a3 : Option Addr) (c0 c1 c2 c3 : Nat) (w : World) (h0 : Ss 0 w a0 c0 list) (h3 : Ks 0 w a3 c3 exprs) (zo : on.size ≤ 1048576) (zt : ty.name.size ≤ 1048576) (zl : lets list ≤ 1048576) (ze : wtL exprs ≤ 1048576) (v : Bool)
    (hv : (nameB on.data.toList && ((((list.length : Nat) : Int) == 0) && ((!flag) && (typeOkB ty.kind ty.len ty.name && ((num == 0) && exprsB exprs 0 0))))) = v) :
    Calls Tryz.prog 90 #[.agg #[.int .i64 8, .string name, .string on, .slice a0 list.length c0, .int .i64 num, .bool flag, .int .i64 ty.kind, .int .i64 ty.len, .string ty.name, .slice a1 cols.length c1, .slice a2 rules.length c2, .slice a3 exprs.length c3]] w fun e w' => e = .returned (.bool v) ∧ Below w.heap.size w w' := by
  have ll := h0.1.len
  have le := h3.len
  have HL := Lib.hid (fun w' (hb : Below w.heap.size w w') => (h0.kept (Kept.below hb)).1)
  have HK := Lib.hid (fun w' (hb : Below w.heap.size w w') => h3.kept (Kept.below hb))
  have ZO := Lib.hid zo
  have ZT := Lib.hid zt
  have ZL := Lib.hid zl
  have ZE := Lib.hid ze
  have HVV := Lib.hid hv
  have hq := fun w => eqlTy ty.kind ty.len ty.name 0 0 ⟨#[]⟩ w
  have hG := fun x y w => guardTy x y ty.kind ty.len ty.name 0 0 ⟨#[]⟩ w
  have HB := Lib.hid (boxV_new w [.int .i64 8, .string name, .string on, .slice a0 list.length c0, .int .i64 num, .bool flag, .int .i64 ty.kind, .int .i64 ty.len, .string ty.name, .slice a1 cols.length c1, .slice a2 rules.length c2, .slice a3 exprs.length c3] 55)
  clear h0 h3 zo zt zl ze hv
  go_enter Tryz.func90, Tryz.ntmps90
  go_wp2_with fail
  generalize w.alloc (.cells #[.int .i64 8, .string name, .string on, .slice a0 list.length c0, .int .i64 num, .bool flag, .int .i64 ty.kind, .int .i64 ty.len, .string ty.name, .slice a1 cols.length c1, .slice a2 rules.length c2, .slice a3 exprs.length c3] 55) = W0 at HB ⊢
  have g0 : W0.cell? ⟨w.heap.size, 0, none⟩ = some (.int .i64 8) := (HB.out.1.2 0 (by simp)).1
  have g1 : W0.cell? ⟨w.heap.size, 1, none⟩ = some (.string name) := (HB.out.1.2 1 (by simp)).1
  have g2 : W0.cell? ⟨w.heap.size, 2, none⟩ = some (.string on) := (HB.out.1.2 2 (by simp)).1
  have g3 : W0.cell? ⟨w.heap.size, 3, none⟩ = some (.slice a0 list.length c0) := (HB.out.1.2 3 (by simp)).1
  have g4 : W0.cell? ⟨w.heap.size, 4, none⟩ = some (.int .i64 num) := (HB.out.1.2 4 (by simp)).1
  have g5 : W0.cell? ⟨w.heap.size, 5, none⟩ = some (.bool flag) := (HB.out.1.2 5 (by simp)).1
  have g6 : W0.cell? ⟨w.heap.size, 6, none⟩ = some (.int .i64 ty.kind) := (HB.out.1.2 6 (by simp)).1
  have g7 : W0.cell? ⟨w.heap.size, 7, none⟩ = some (.int .i64 ty.len) := (HB.out.1.2 7 (by simp)).1
  have g8 : W0.cell? ⟨w.heap.size, 8, none⟩ = some (.string ty.name) := (HB.out.1.2 8 (by simp)).1
  have g9 : W0.cell? ⟨w.heap.size, 9, none⟩ = some (.slice a1 cols.length c1) := (HB.out.1.2 9 (by simp)).1
  have g10 : W0.cell? ⟨w.heap.size, 10, none⟩ = some (.slice a2 rules.length c2) := (HB.out.1.2 10 (by simp)).1
  have g11 : W0.cell? ⟨w.heap.size, 11, none⟩ = some (.slice a3 exprs.length c3) := (HB.out.1.2 11 (by simp)).1
  refine (specNameOk on _ ZO.out _ rfl).mono ?_
  rintro e w1 ⟨rfl, rfl⟩
  cases ho : nameB on.data.toList with
  | false =>
    go_wp2_with fail
    refine (specTypeOk ty.kind ty.len ty.name _ ZT.out _ rfl).mono ?_
    rintro e w2 ⟨rfl, b2⟩
    have B2 := Lib.hid (HB.out.call b2)
    clear b2 g0 g1 g2 g3 g4 g5 g6 g7 g8 g9 g10 g11
    have g0 : w2.cell? ⟨w.heap.size, 0, none⟩ = some (.int .i64 8) := (B2.out.1.2 0 (by simp)).1
    have g1 : w2.cell? ⟨w.heap.size, 1, none⟩ = some (.string name) := (B2.out.1.2 1 (by simp)).1
    have g2 : w2.cell? ⟨w.heap.size, 2, none⟩ = some (.string on) := (B2.out.1.2 2 (by simp)).1
    have g3 : w2.cell? ⟨w.heap.size, 3, none⟩ = some (.slice a0 list.length c0) := (B2.out.1.2 3 (by simp)).1
    have g4 : w2.cell? ⟨w.heap.size, 4, none⟩ = some (.int .i64 num) := (B2.out.1.2 4 (by simp)).1
    have g5 : w2.cell? ⟨w.heap.size, 5, none⟩ = some (.bool flag) := (B2.out.1.2 5 (by simp)).1
    have g6 : w2.cell? ⟨w.heap.size, 6, none⟩ = some (.int .i64 ty.kind) := (B2.out.1.2 6 (by simp)).1
    have g7 : w2.cell? ⟨w.heap.size, 7, none⟩ = some (.int .i64 ty.len) := (B2.out.1.2 7 (by simp)).1
    have g8 : w2.cell? ⟨w.heap.size, 8, none⟩ = some (.string ty.name) := (B2.out.1.2 8 (by simp)).1
    have g9 : w2.cell? ⟨w.heap.size, 9, none⟩ = some (.slice a1 cols.length c1) := (B2.out.1.2 9 (by simp)).1
    have g10 : w2.cell? ⟨w.heap.size, 10, none⟩ = some (.slice a2 rules.length c2) := (B2.out.1.2 10 (by simp)).1
    have g11 : w2.cell? ⟨w.heap.size, 11, none⟩ = some (.slice a3 exprs.length c3) := (B2.out.1.2 11 (by simp)).1
    cases hn : (num == 0) with
    | false =>
      have HV : Hid (v = false) := by unfold Hid; rw [← HVV.out]; simp only [boolS, (And.intro ho hn)]
      go_wp2_with fail
      go_ret
      exact ⟨by rw [HV.out] <;> rfl, B2.out.2⟩
    | true =>
      have HV : Hid (v = false) := by unfold Hid; rw [← HVV.out]; simp only [boolS, (And.intro ho hn)]
      go_wp2_with fail
      go_ret
      exact ⟨by rw [HV.out] <;> rfl, B2.out.2⟩
  | true =>
    go_wp2_with fail
    refine (specTypeOk ty.kind ty.len ty.name _ ZT.out _ rfl).mono ?_
    rintro e w2 ⟨rfl, b2⟩
    have B2 := Lib.hid (HB.out.call b2)
    clear b2 g0 g1 g2 g3 g4 g5 g6 g7 g8 g9 g10 g11
    have g0 : w2.cell? ⟨w.heap.size, 0, none⟩ = some (.int .i64 8) := (B2.out.1.2 0 (by simp)).1
    have g1 : w2.cell? ⟨w.heap.size, 1, none⟩ = some (.string name) := (B2.out.1.2 1 (by simp)).1
    have g2 : w2.cell? ⟨w.heap.size, 2, none⟩ = some (.string on) := (B2.out.1.2 2 (by simp)).1
    have g3 : w2.cell? ⟨w.heap.size, 3, none⟩ = some (.slice a0 list.length c0) := (B2.out.1.2 3 (by simp)).1
    have g4 : w2.cell? ⟨w.heap.size, 4, none⟩ = some (.int .i64 num) := (B2.out.1.2 4 (by simp)).1
    have g5 : w2.cell? ⟨w.heap.size, 5, none⟩ = some (.bool flag) := (B2.out.1.2 5 (by simp)).1
    have g6 : w2.cell? ⟨w.heap.size, 6, none⟩ = some (.int .i64 ty.kind) := (B2.out.1.2 6 (by simp)).1
    have g7 : w2.cell? ⟨w.heap.size, 7, none⟩ = some (.int .i64 ty.len) := (B2.out.1.2 7 (by simp)).1
    have g8 : w2.cell? ⟨w.heap.size, 8, none⟩ = some (.string ty.name) := (B2.out.1.2 8 (by simp)).1
    have g9 : w2.cell? ⟨w.heap.size, 9, none⟩ = some (.slice a1 cols.length c1) := (B2.out.1.2 9 (by simp)).1
    have g10 : w2.cell? ⟨w.heap.size, 10, none⟩ = some (.slice a2 rules.length c2) := (B2.out.1.2 10 (by simp)).1
    have g11 : w2.cell? ⟨w.heap.size, 11, none⟩ = some (.slice a3 exprs.length c3) := (B2.out.1.2 11 (by simp)).1
    cases hn : (num == 0) with
    | false =>
      cases hl : (((list.length : Nat) : Int) == 0) with
      | false =>
        have HV : Hid (v = false) := by unfold Hid; rw [← HVV.out]; simp only [boolS, (And.intro ho (And.intro hn hl))]
        go_wp2_with fail
        go_ret
        exact ⟨by rw [HV.out] <;> rfl, B2.out.2⟩
      | true =>
        cases flag with
        | true =>
          have HV : Hid (v = false) := by unfold Hid; rw [← HVV.out]; simp only [boolS, (And.intro ho (And.intro hn hl))]
          go_wp2_with fail
          go_ret
          exact ⟨by rw [HV.out] <;> rfl, B2.out.2⟩
        | false =>
          cases ht : typeOkB ty.kind ty.len ty.name with
          | false =>
            have HV : Hid (v = false) := by unfold Hid; rw [← HVV.out]; simp only [boolS, (And.intro ho (And.intro hn (And.intro hl ht)))]
            go_wp2_with fail
            go_ret
            exact ⟨by rw [HV.out] <;> rfl, B2.out.2⟩
          | true =>
            have HV : Hid (v = false) := by unfold Hid; rw [← HVV.out]; simp only [boolS, (And.intro ho (And.intro hn (And.intro hl ht)))]
            go_wp2_with fail
            go_ret
            exact ⟨by rw [HV.out] <;> rfl, B2.out.2⟩
    | true =>
      cases hl : (((list.length : Nat) : Int) == 0) with
      | false =>
        have HV : Hid (v = false) := by unfold Hid; rw [← HVV.out]; simp only [boolS, (And.intro ho (And.intro hn hl))]
        go_wp2_with fail
        go_ret
        exact ⟨by rw [HV.out] <;> rfl, B2.out.2⟩
      | true =>
        cases flag with
        | true =>
          have HV : Hid (v = false) := by unfold Hid; rw [← HVV.out]; simp only [boolS, (And.intro ho (And.intro hn hl))]
          go_wp2_with fail
          go_ret
          exact ⟨by rw [HV.out] <;> rfl, B2.out.2⟩
        | false =>
          cases ht : typeOkB ty.kind ty.len ty.name with
          | false =>
            have HV : Hid (v = false) := by unfold Hid; rw [← HVV.out]; simp only [boolS, (And.intro ho (And.intro hn (And.intro hl ht)))]
            go_wp2_with fail
            go_ret
            exact ⟨by rw [HV.out] <;> rfl, B2.out.2⟩
          | true =>
            have HV : Hid (exprsB exprs 0 0 = v) := by unfold Hid; rw [← HVV.out]; simp only [boolS, (And.intro ho (And.intro hn (And.intro hl ht)))]
            go_wp2_with fail
            refine (specExprs a3 c3 exprs 0 0 _ (HK.out _ (B2.out.2)) ZE.out (by unfold i64E; omega) (by unfold i64E; omega) v HV.out).mono ?_
            rintro e wz ⟨rfl, bz⟩
            have BZ := Lib.hid (Below.call bz (B2.out.2))
            clear bz
            go_wp2_with fail
            go_ret
            exact ⟨rfl, BZ.out⟩

set_option maxRecDepth 100000 in
set_option maxHeartbeats 8000000 in
theorem specRest_9 (name on : ByteArray) (list : List ByteArray) (num : Int) (flag : Bool) (ty : Ty) (cols : List Co) (rules : List Ru) (exprs : List Ex) (a0 a1 a2 a3 : Option Addr) (c0 c1 c2 c3 : Nat) (w : World) (h0 : Ss 0 w a0 c0 list) (h3 : Ks 0 w a3 c3 exprs) (zo : on.size ≤ 1048576) (zt : ty.name.size ≤ 1048576) (zl : lets list ≤ 1048576) (ze : wtL exprs ≤ 1048576) (v : Bool)
    (hv : (nameB on.data.toList && ((((list.length : Nat) : Int) == 0) && (true && (tyEq ⟨ty.kind, ty.len, ty.name⟩ ⟨0, 0, ⟨#[]⟩⟩ && ((num == 0) && exprsB exprs 0 0))))) = v) :
    Calls Tryz.prog 90 #[.agg #[.int .i64 9, .string name, .string on, .slice a0 list.length c0, .int .i64 num, .bool flag, .int .i64 ty.kind, .int .i64 ty.len, .string ty.name, .slice a1 cols.length c1, .slice a2 rules.length c2, .slice a3 exprs.length c3]] w fun e w' => e = .returned (.bool v) ∧ Below w.heap.size w w' := by
  have ll := h0.1.len
  have le := h3.len
  have HL := Lib.hid (fun w' (hb : Below w.heap.size w w') => (h0.kept (Kept.below hb)).1)
  have HK := Lib.hid (fun w' (hb : Below w.heap.size w w') => h3.kept (Kept.below hb))
  have ZO := Lib.hid zo
  have ZT := Lib.hid zt
  have ZL := Lib.hid zl
  have ZE := Lib.hid ze
  have HVV := Lib.hid hv
  have hq := fun w => eqlTy ty.kind ty.len ty.name 0 0 ⟨#[]⟩ w
  have hG := fun x y w => guardTy x y ty.kind ty.len ty.name 0 0 ⟨#[]⟩ w
  have HB := Lib.hid (boxV_new w [.int .i64 9, .string name, .string on, .slice a0 list.length c0, .int .i64 num, .bool flag, .int .i64 ty.kind, .int .i64 ty.len, .string ty.name, .slice a1 cols.length c1, .slice a2 rules.length c2, .slice a3 exprs.length c3] 55)
  clear h0 h3 zo zt zl ze hv
  go_enter Tryz.func90, Tryz.ntmps90
  go_wp2_with fail
  generalize w.alloc (.cells #[.int .i64 9, .string name, .string on, .slice a0 list.length c0, .int .i64 num, .bool flag, .int .i64 ty.kind, .int .i64 ty.len, .string ty.name, .slice a1 cols.length c1, .slice a2 rules.length c2, .slice a3 exprs.length c3] 55) = W0 at HB ⊢
  have g0 : W0.cell? ⟨w.heap.size, 0, none⟩ = some (.int .i64 9) := (HB.out.1.2 0 (by simp)).1
  have g1 : W0.cell? ⟨w.heap.size, 1, none⟩ = some (.string name) := (HB.out.1.2 1 (by simp)).1
  have g2 : W0.cell? ⟨w.heap.size, 2, none⟩ = some (.string on) := (HB.out.1.2 2 (by simp)).1
  have g3 : W0.cell? ⟨w.heap.size, 3, none⟩ = some (.slice a0 list.length c0) := (HB.out.1.2 3 (by simp)).1
  have g4 : W0.cell? ⟨w.heap.size, 4, none⟩ = some (.int .i64 num) := (HB.out.1.2 4 (by simp)).1
  have g5 : W0.cell? ⟨w.heap.size, 5, none⟩ = some (.bool flag) := (HB.out.1.2 5 (by simp)).1
  have g6 : W0.cell? ⟨w.heap.size, 6, none⟩ = some (.int .i64 ty.kind) := (HB.out.1.2 6 (by simp)).1
  have g7 : W0.cell? ⟨w.heap.size, 7, none⟩ = some (.int .i64 ty.len) := (HB.out.1.2 7 (by simp)).1
  have g8 : W0.cell? ⟨w.heap.size, 8, none⟩ = some (.string ty.name) := (HB.out.1.2 8 (by simp)).1
  have g9 : W0.cell? ⟨w.heap.size, 9, none⟩ = some (.slice a1 cols.length c1) := (HB.out.1.2 9 (by simp)).1
  have g10 : W0.cell? ⟨w.heap.size, 10, none⟩ = some (.slice a2 rules.length c2) := (HB.out.1.2 10 (by simp)).1
  have g11 : W0.cell? ⟨w.heap.size, 11, none⟩ = some (.slice a3 exprs.length c3) := (HB.out.1.2 11 (by simp)).1
  refine (specNameOk on _ ZO.out _ rfl).mono ?_
  rintro e w1 ⟨rfl, rfl⟩
  cases hn : (num == 0) with
  | false =>
    cases ho : nameB on.data.toList with
    | false =>
      have HV : Hid (v = false) := by unfold Hid; rw [← HVV.out]; simp only [boolS, (And.intro hn ho)]
      go_wp2_with fail
      go_ret
      exact ⟨by rw [HV.out] <;> rfl, HB.out.2⟩
    | true =>
      cases hl : (((list.length : Nat) : Int) == 0) with
      | false =>
        have HV : Hid (v = false) := by unfold Hid; rw [← HVV.out]; simp only [boolS, (And.intro hn (And.intro ho hl))]
        go_wp2_with fail
        go_ret
        exact ⟨by rw [HV.out] <;> rfl, HB.out.2⟩
      | true =>
        cases ht : tyEq ⟨ty.kind, ty.len, ty.name⟩ ⟨0, 0, ⟨#[]⟩⟩ with
        | false =>
          have HV : Hid (v = false) := by unfold Hid; rw [← HVV.out]; simp only [boolS, (And.intro hn (And.intro ho (And.intro hl ht)))]
          go_wp2_with fail
          go_ret
          exact ⟨by rw [HV.out] <;> rfl, HB.out.2⟩
        | true =>
          have HV : Hid (v = false) := by unfold Hid; rw [← HVV.out]; simp only [boolS, (And.intro hn (And.intro ho (And.intro hl ht)))]
          go_wp2_with fail
          go_ret
          exact ⟨by rw [HV.out] <;> rfl, HB.out.2⟩
  | true =>
    cases ho : nameB on.data.toList with
    | false =>
      have HV : Hid (v = false) := by unfold Hid; rw [← HVV.out]; simp only [boolS, (And.intro hn ho)]
      go_wp2_with fail
      go_ret
      exact ⟨by rw [HV.out] <;> rfl, HB.out.2⟩
    | true =>
      cases hl : (((list.length : Nat) : Int) == 0) with
      | false =>
        have HV : Hid (v = false) := by unfold Hid; rw [← HVV.out]; simp only [boolS, (And.intro hn (And.intro ho hl))]
        go_wp2_with fail
        go_ret
        exact ⟨by rw [HV.out] <;> rfl, HB.out.2⟩
      | true =>
        cases ht : tyEq ⟨ty.kind, ty.len, ty.name⟩ ⟨0, 0, ⟨#[]⟩⟩ with
        | false =>
          have HV : Hid (v = false) := by unfold Hid; rw [← HVV.out]; simp only [boolS, (And.intro hn (And.intro ho (And.intro hl ht)))]
          go_wp2_with fail
          go_ret
          exact ⟨by rw [HV.out] <;> rfl, HB.out.2⟩
        | true =>
          have HV : Hid (exprsB exprs 0 0 = v) := by unfold Hid; rw [← HVV.out]; simp only [boolS, (And.intro hn (And.intro ho (And.intro hl ht)))]
          go_wp2_with fail
          refine (specExprs a3 c3 exprs 0 0 _ (HK.out _ (HB.out.2)) ZE.out (by unfold i64E; omega) (by unfold i64E; omega) v HV.out).mono ?_
          rintro e wz ⟨rfl, bz⟩
          have BZ := Lib.hid (Below.call bz (HB.out.2))
          clear bz
          go_wp2_with fail
          go_ret
          exact ⟨rfl, BZ.out⟩

set_option maxRecDepth 100000 in
set_option maxHeartbeats 8000000 in
theorem specRest_10 (name on : ByteArray) (list : List ByteArray) (num : Int) (flag : Bool) (ty : Ty) (cols : List Co) (rules : List Ru) (exprs : List Ex) (a0 a1 a2 a3 : Option Addr) (c0 c1 c2 c3 : Nat) (w : World) (h0 : Ss 0 w a0 c0 list) (h3 : Ks 0 w a3 c3 exprs) (zo : on.size ≤ 1048576) (zt : ty.name.size ≤ 1048576) (zl : lets list ≤ 1048576) (ze : wtL exprs ≤ 1048576) (v : Bool)
    (hv : (nameB on.data.toList && ((((list.length : Nat) : Int) == 0) && ((!flag) && (tyEq ⟨ty.kind, ty.len, ty.name⟩ ⟨0, 0, ⟨#[]⟩⟩ && ((num == 0) && exprsB exprs 0 1))))) = v) :
    Calls Tryz.prog 90 #[.agg #[.int .i64 10, .string name, .string on, .slice a0 list.length c0, .int .i64 num, .bool flag, .int .i64 ty.kind, .int .i64 ty.len, .string ty.name, .slice a1 cols.length c1, .slice a2 rules.length c2, .slice a3 exprs.length c3]] w fun e w' => e = .returned (.bool v) ∧ Below w.heap.size w w' := by
  have ll := h0.1.len
  have le := h3.len
  have HL := Lib.hid (fun w' (hb : Below w.heap.size w w') => (h0.kept (Kept.below hb)).1)
  have HK := Lib.hid (fun w' (hb : Below w.heap.size w w') => h3.kept (Kept.below hb))
  have ZO := Lib.hid zo
  have ZT := Lib.hid zt
  have ZL := Lib.hid zl
  have ZE := Lib.hid ze
  have HVV := Lib.hid hv
  have hq := fun w => eqlTy ty.kind ty.len ty.name 0 0 ⟨#[]⟩ w
  have hG := fun x y w => guardTy x y ty.kind ty.len ty.name 0 0 ⟨#[]⟩ w
  have HB := Lib.hid (boxV_new w [.int .i64 10, .string name, .string on, .slice a0 list.length c0, .int .i64 num, .bool flag, .int .i64 ty.kind, .int .i64 ty.len, .string ty.name, .slice a1 cols.length c1, .slice a2 rules.length c2, .slice a3 exprs.length c3] 55)
  clear h0 h3 zo zt zl ze hv
  go_enter Tryz.func90, Tryz.ntmps90
  go_wp2_with fail
  generalize w.alloc (.cells #[.int .i64 10, .string name, .string on, .slice a0 list.length c0, .int .i64 num, .bool flag, .int .i64 ty.kind, .int .i64 ty.len, .string ty.name, .slice a1 cols.length c1, .slice a2 rules.length c2, .slice a3 exprs.length c3] 55) = W0 at HB ⊢
  have g0 : W0.cell? ⟨w.heap.size, 0, none⟩ = some (.int .i64 10) := (HB.out.1.2 0 (by simp)).1
  have g1 : W0.cell? ⟨w.heap.size, 1, none⟩ = some (.string name) := (HB.out.1.2 1 (by simp)).1
  have g2 : W0.cell? ⟨w.heap.size, 2, none⟩ = some (.string on) := (HB.out.1.2 2 (by simp)).1
  have g3 : W0.cell? ⟨w.heap.size, 3, none⟩ = some (.slice a0 list.length c0) := (HB.out.1.2 3 (by simp)).1
  have g4 : W0.cell? ⟨w.heap.size, 4, none⟩ = some (.int .i64 num) := (HB.out.1.2 4 (by simp)).1
  have g5 : W0.cell? ⟨w.heap.size, 5, none⟩ = some (.bool flag) := (HB.out.1.2 5 (by simp)).1
  have g6 : W0.cell? ⟨w.heap.size, 6, none⟩ = some (.int .i64 ty.kind) := (HB.out.1.2 6 (by simp)).1
  have g7 : W0.cell? ⟨w.heap.size, 7, none⟩ = some (.int .i64 ty.len) := (HB.out.1.2 7 (by simp)).1
  have g8 : W0.cell? ⟨w.heap.size, 8, none⟩ = some (.string ty.name) := (HB.out.1.2 8 (by simp)).1
  have g9 : W0.cell? ⟨w.heap.size, 9, none⟩ = some (.slice a1 cols.length c1) := (HB.out.1.2 9 (by simp)).1
  have g10 : W0.cell? ⟨w.heap.size, 10, none⟩ = some (.slice a2 rules.length c2) := (HB.out.1.2 10 (by simp)).1
  have g11 : W0.cell? ⟨w.heap.size, 11, none⟩ = some (.slice a3 exprs.length c3) := (HB.out.1.2 11 (by simp)).1
  refine (specNameOk on _ ZO.out _ rfl).mono ?_
  rintro e w1 ⟨rfl, rfl⟩
  cases hn : (num == 0) with
  | false =>
    cases ho : nameB on.data.toList with
    | false =>
      have HV : Hid (v = false) := by unfold Hid; rw [← HVV.out]; simp only [boolS, (And.intro hn ho)]
      go_wp2_with fail
      go_ret
      exact ⟨by rw [HV.out] <;> rfl, HB.out.2⟩
    | true =>
      cases hl : (((list.length : Nat) : Int) == 0) with
      | false =>
        have HV : Hid (v = false) := by unfold Hid; rw [← HVV.out]; simp only [boolS, (And.intro hn (And.intro ho hl))]
        go_wp2_with fail
        go_ret
        exact ⟨by rw [HV.out] <;> rfl, HB.out.2⟩
      | true =>
        cases flag with
        | true =>
          have HV : Hid (v = false) := by unfold Hid; rw [← HVV.out]; simp only [boolS, (And.intro hn (And.intro ho hl))]
          go_wp2_with fail
          go_ret
          exact ⟨by rw [HV.out] <;> rfl, HB.out.2⟩
        | false =>
          cases ht : tyEq ⟨ty.kind, ty.len, ty.name⟩ ⟨0, 0, ⟨#[]⟩⟩ with
          | false =>
            have HV : Hid (v = false) := by unfold Hid; rw [← HVV.out]; simp only [boolS, (And.intro hn (And.intro ho (And.intro hl ht)))]
            go_wp2_with fail
            go_ret
            exact ⟨by rw [HV.out] <;> rfl, HB.out.2⟩
          | true =>
            have HV : Hid (v = false) := by unfold Hid; rw [← HVV.out]; simp only [boolS, (And.intro hn (And.intro ho (And.intro hl ht)))]
            go_wp2_with fail
            go_ret
            exact ⟨by rw [HV.out] <;> rfl, HB.out.2⟩
  | true =>
    cases ho : nameB on.data.toList with
    | false =>
      have HV : Hid (v = false) := by unfold Hid; rw [← HVV.out]; simp only [boolS, (And.intro hn ho)]
      go_wp2_with fail
      go_ret
      exact ⟨by rw [HV.out] <;> rfl, HB.out.2⟩
    | true =>
      cases hl : (((list.length : Nat) : Int) == 0) with
      | false =>
        have HV : Hid (v = false) := by unfold Hid; rw [← HVV.out]; simp only [boolS, (And.intro hn (And.intro ho hl))]
        go_wp2_with fail
        go_ret
        exact ⟨by rw [HV.out] <;> rfl, HB.out.2⟩
      | true =>
        cases flag with
        | true =>
          have HV : Hid (v = false) := by unfold Hid; rw [← HVV.out]; simp only [boolS, (And.intro hn (And.intro ho hl))]
          go_wp2_with fail
          go_ret
          exact ⟨by rw [HV.out] <;> rfl, HB.out.2⟩
        | false =>
          cases ht : tyEq ⟨ty.kind, ty.len, ty.name⟩ ⟨0, 0, ⟨#[]⟩⟩ with
          | false =>
            have HV : Hid (v = false) := by unfold Hid; rw [← HVV.out]; simp only [boolS, (And.intro hn (And.intro ho (And.intro hl ht)))]
            go_wp2_with fail
            go_ret
            exact ⟨by rw [HV.out] <;> rfl, HB.out.2⟩
          | true =>
            have HV : Hid (exprsB exprs 0 1 = v) := by unfold Hid; rw [← HVV.out]; simp only [boolS, (And.intro hn (And.intro ho (And.intro hl ht)))]
            go_wp2_with fail
            refine (specExprs a3 c3 exprs 0 1 _ (HK.out _ (HB.out.2)) ZE.out (by unfold i64E; omega) (by unfold i64E; omega) v HV.out).mono ?_
            rintro e wz ⟨rfl, bz⟩
            have BZ := Lib.hid (Below.call bz (HB.out.2))
            clear bz
            go_wp2_with fail
            go_ret
            exact ⟨rfl, BZ.out⟩

set_option maxRecDepth 100000 in
set_option maxHeartbeats 8000000 in
theorem specRest_13 (name on : ByteArray) (list : List ByteArray) (num : Int) (flag : Bool) (ty : Ty) (cols : List Co) (rules : List Ru) (exprs : List Ex) (a0 a1 a2 a3 : Option Addr) (c0 c1 c2 c3 : Nat) (w : World) (h0 : Ss 0 w a0 c0 list) (h3 : Ks 0 w a3 c3 exprs) (zo : on.size ≤ 1048576) (zt : ty.name.size ≤ 1048576) (zl : lets list ≤ 1048576) (ze : wtL exprs ≤ 1048576) (v : Bool)
    (hv : (nameB on.data.toList && (namesB list 12 && (true && (tyEq ⟨ty.kind, ty.len, ty.name⟩ ⟨0, 0, ⟨#[]⟩⟩ && ((num == 0) && exprsB exprs 0 0))))) = v) :
    Calls Tryz.prog 90 #[.agg #[.int .i64 13, .string name, .string on, .slice a0 list.length c0, .int .i64 num, .bool flag, .int .i64 ty.kind, .int .i64 ty.len, .string ty.name, .slice a1 cols.length c1, .slice a2 rules.length c2, .slice a3 exprs.length c3]] w fun e w' => e = .returned (.bool v) ∧ Below w.heap.size w w' := by
  have ll := h0.1.len
  have le := h3.len
  have HL := Lib.hid (fun w' (hb : Below w.heap.size w w') => (h0.kept (Kept.below hb)).1)
  have HK := Lib.hid (fun w' (hb : Below w.heap.size w w') => h3.kept (Kept.below hb))
  have ZO := Lib.hid zo
  have ZT := Lib.hid zt
  have ZL := Lib.hid zl
  have ZE := Lib.hid ze
  have HVV := Lib.hid hv
  have hq := fun w => eqlTy ty.kind ty.len ty.name 0 0 ⟨#[]⟩ w
  have hG := fun x y w => guardTy x y ty.kind ty.len ty.name 0 0 ⟨#[]⟩ w
  have HB := Lib.hid (boxV_new w [.int .i64 13, .string name, .string on, .slice a0 list.length c0, .int .i64 num, .bool flag, .int .i64 ty.kind, .int .i64 ty.len, .string ty.name, .slice a1 cols.length c1, .slice a2 rules.length c2, .slice a3 exprs.length c3] 55)
  clear h0 h3 zo zt zl ze hv
  go_enter Tryz.func90, Tryz.ntmps90
  go_wp2_with fail
  generalize w.alloc (.cells #[.int .i64 13, .string name, .string on, .slice a0 list.length c0, .int .i64 num, .bool flag, .int .i64 ty.kind, .int .i64 ty.len, .string ty.name, .slice a1 cols.length c1, .slice a2 rules.length c2, .slice a3 exprs.length c3] 55) = W0 at HB ⊢
  have g0 : W0.cell? ⟨w.heap.size, 0, none⟩ = some (.int .i64 13) := (HB.out.1.2 0 (by simp)).1
  have g1 : W0.cell? ⟨w.heap.size, 1, none⟩ = some (.string name) := (HB.out.1.2 1 (by simp)).1
  have g2 : W0.cell? ⟨w.heap.size, 2, none⟩ = some (.string on) := (HB.out.1.2 2 (by simp)).1
  have g3 : W0.cell? ⟨w.heap.size, 3, none⟩ = some (.slice a0 list.length c0) := (HB.out.1.2 3 (by simp)).1
  have g4 : W0.cell? ⟨w.heap.size, 4, none⟩ = some (.int .i64 num) := (HB.out.1.2 4 (by simp)).1
  have g5 : W0.cell? ⟨w.heap.size, 5, none⟩ = some (.bool flag) := (HB.out.1.2 5 (by simp)).1
  have g6 : W0.cell? ⟨w.heap.size, 6, none⟩ = some (.int .i64 ty.kind) := (HB.out.1.2 6 (by simp)).1
  have g7 : W0.cell? ⟨w.heap.size, 7, none⟩ = some (.int .i64 ty.len) := (HB.out.1.2 7 (by simp)).1
  have g8 : W0.cell? ⟨w.heap.size, 8, none⟩ = some (.string ty.name) := (HB.out.1.2 8 (by simp)).1
  have g9 : W0.cell? ⟨w.heap.size, 9, none⟩ = some (.slice a1 cols.length c1) := (HB.out.1.2 9 (by simp)).1
  have g10 : W0.cell? ⟨w.heap.size, 10, none⟩ = some (.slice a2 rules.length c2) := (HB.out.1.2 10 (by simp)).1
  have g11 : W0.cell? ⟨w.heap.size, 11, none⟩ = some (.slice a3 exprs.length c3) := (HB.out.1.2 11 (by simp)).1
  refine (specNameOk on _ ZO.out _ rfl).mono ?_
  rintro e w1 ⟨rfl, rfl⟩
  cases ho : nameB on.data.toList with
  | false =>
    go_wp2_with fail
    refine (specNames a0 c0 list 12 _ (HL.out _ HB.out.2) ZL.out (by unfold i64E; omega) _ rfl).mono ?_
    rintro e w2 ⟨rfl, rfl⟩
    cases hn : (num == 0) with
    | false =>
      have HV : Hid (v = false) := by unfold Hid; rw [← HVV.out]; simp only [boolS, (And.intro ho hn)]
      go_wp2_with fail
      go_ret
      exact ⟨by rw [HV.out] <;> rfl, HB.out.2⟩
    | true =>
      have HV : Hid (v = false) := by unfold Hid; rw [← HVV.out]; simp only [boolS, (And.intro ho hn)]
      go_wp2_with fail
      go_ret
      exact ⟨by rw [HV.out] <;> rfl, HB.out.2⟩
  | true =>
    go_wp2_with fail
    refine (specNames a0 c0 list 12 _ (HL.out _ HB.out.2) ZL.out (by unfold i64E; omega) _ rfl).mono ?_
    rintro e w2 ⟨rfl, rfl⟩
    cases hn : (num == 0) with
    | false =>
      cases hl : namesB list 12 with
      | false =>
        have HV : Hid (v = false) := by unfold Hid; rw [← HVV.out]; simp only [boolS, (And.intro ho (And.intro hn hl))]
        go_wp2_with fail
        go_ret
        exact ⟨by rw [HV.out] <;> rfl, HB.out.2⟩
      | true =>
        cases ht : tyEq ⟨ty.kind, ty.len, ty.name⟩ ⟨0, 0, ⟨#[]⟩⟩ with
        | false =>
          have HV : Hid (v = false) := by unfold Hid; rw [← HVV.out]; simp only [boolS, (And.intro ho (And.intro hn (And.intro hl ht)))]
          go_wp2_with fail
          go_ret
          exact ⟨by rw [HV.out] <;> rfl, HB.out.2⟩
        | true =>
          have HV : Hid (v = false) := by unfold Hid; rw [← HVV.out]; simp only [boolS, (And.intro ho (And.intro hn (And.intro hl ht)))]
          go_wp2_with fail
          go_ret
          exact ⟨by rw [HV.out] <;> rfl, HB.out.2⟩
    | true =>
      cases hl : namesB list 12 with
      | false =>
        have HV : Hid (v = false) := by unfold Hid; rw [← HVV.out]; simp only [boolS, (And.intro ho (And.intro hn hl))]
        go_wp2_with fail
        go_ret
        exact ⟨by rw [HV.out] <;> rfl, HB.out.2⟩
      | true =>
        cases ht : tyEq ⟨ty.kind, ty.len, ty.name⟩ ⟨0, 0, ⟨#[]⟩⟩ with
        | false =>
          have HV : Hid (v = false) := by unfold Hid; rw [← HVV.out]; simp only [boolS, (And.intro ho (And.intro hn (And.intro hl ht)))]
          go_wp2_with fail
          go_ret
          exact ⟨by rw [HV.out] <;> rfl, HB.out.2⟩
        | true =>
          have HV : Hid (exprsB exprs 0 0 = v) := by unfold Hid; rw [← HVV.out]; simp only [boolS, (And.intro ho (And.intro hn (And.intro hl ht)))]
          go_wp2_with fail
          refine (specExprs a3 c3 exprs 0 0 _ (HK.out _ (HB.out.2)) ZE.out (by unfold i64E; omega) (by unfold i64E; omega) v HV.out).mono ?_
          rintro e wz ⟨rfl, bz⟩
          have BZ := Lib.hid (Below.call bz (HB.out.2))
          clear bz
          go_wp2_with fail
          go_ret
          exact ⟨rfl, BZ.out⟩

set_option maxRecDepth 100000 in
set_option maxHeartbeats 8000000 in
theorem specRest_15 (name on : ByteArray) (list : List ByteArray) (num : Int) (flag : Bool) (ty : Ty) (cols : List Co) (rules : List Ru) (exprs : List Ex) (a0 a1 a2 a3 : Option Addr) (c0 c1 c2 c3 : Nat) (w : World) (h0 : Ss 0 w a0 c0 list) (h3 : Ks 0 w a3 c3 exprs) (zo : on.size ≤ 1048576) (zt : ty.name.size ≤ 1048576) (zl : lets list ≤ 1048576) (ze : wtL exprs ≤ 1048576) (v : Bool)
    (hv : (nameB on.data.toList && (namesB list 12 && ((!flag) && (tyEq ⟨ty.kind, ty.len, ty.name⟩ ⟨0, 0, ⟨#[]⟩⟩ && ((num == 0) && exprsB exprs 0 1))))) = v) :
    Calls Tryz.prog 90 #[.agg #[.int .i64 15, .string name, .string on, .slice a0 list.length c0, .int .i64 num, .bool flag, .int .i64 ty.kind, .int .i64 ty.len, .string ty.name, .slice a1 cols.length c1, .slice a2 rules.length c2, .slice a3 exprs.length c3]] w fun e w' => e = .returned (.bool v) ∧ Below w.heap.size w w' := by
  have ll := h0.1.len
  have le := h3.len
  have HL := Lib.hid (fun w' (hb : Below w.heap.size w w') => (h0.kept (Kept.below hb)).1)
  have HK := Lib.hid (fun w' (hb : Below w.heap.size w w') => h3.kept (Kept.below hb))
  have ZO := Lib.hid zo
  have ZT := Lib.hid zt
  have ZL := Lib.hid zl
  have ZE := Lib.hid ze
  have HVV := Lib.hid hv
  have hq := fun w => eqlTy ty.kind ty.len ty.name 0 0 ⟨#[]⟩ w
  have hG := fun x y w => guardTy x y ty.kind ty.len ty.name 0 0 ⟨#[]⟩ w
  have HB := Lib.hid (boxV_new w [.int .i64 15, .string name, .string on, .slice a0 list.length c0, .int .i64 num, .bool flag, .int .i64 ty.kind, .int .i64 ty.len, .string ty.name, .slice a1 cols.length c1, .slice a2 rules.length c2, .slice a3 exprs.length c3] 55)
  clear h0 h3 zo zt zl ze hv
  go_enter Tryz.func90, Tryz.ntmps90
  go_wp2_with fail
  generalize w.alloc (.cells #[.int .i64 15, .string name, .string on, .slice a0 list.length c0, .int .i64 num, .bool flag, .int .i64 ty.kind, .int .i64 ty.len, .string ty.name, .slice a1 cols.length c1, .slice a2 rules.length c2, .slice a3 exprs.length c3] 55) = W0 at HB ⊢
  have g0 : W0.cell? ⟨w.heap.size, 0, none⟩ = some (.int .i64 15) := (HB.out.1.2 0 (by simp)).1
  have g1 : W0.cell? ⟨w.heap.size, 1, none⟩ = some (.string name) := (HB.out.1.2 1 (by simp)).1
  have g2 : W0.cell? ⟨w.heap.size, 2, none⟩ = some (.string on) := (HB.out.1.2 2 (by simp)).1
  have g3 : W0.cell? ⟨w.heap.size, 3, none⟩ = some (.slice a0 list.length c0) := (HB.out.1.2 3 (by simp)).1
  have g4 : W0.cell? ⟨w.heap.size, 4, none⟩ = some (.int .i64 num) := (HB.out.1.2 4 (by simp)).1
  have g5 : W0.cell? ⟨w.heap.size, 5, none⟩ = some (.bool flag) := (HB.out.1.2 5 (by simp)).1
  have g6 : W0.cell? ⟨w.heap.size, 6, none⟩ = some (.int .i64 ty.kind) := (HB.out.1.2 6 (by simp)).1
  have g7 : W0.cell? ⟨w.heap.size, 7, none⟩ = some (.int .i64 ty.len) := (HB.out.1.2 7 (by simp)).1
  have g8 : W0.cell? ⟨w.heap.size, 8, none⟩ = some (.string ty.name) := (HB.out.1.2 8 (by simp)).1
  have g9 : W0.cell? ⟨w.heap.size, 9, none⟩ = some (.slice a1 cols.length c1) := (HB.out.1.2 9 (by simp)).1
  have g10 : W0.cell? ⟨w.heap.size, 10, none⟩ = some (.slice a2 rules.length c2) := (HB.out.1.2 10 (by simp)).1
  have g11 : W0.cell? ⟨w.heap.size, 11, none⟩ = some (.slice a3 exprs.length c3) := (HB.out.1.2 11 (by simp)).1
  refine (specNameOk on _ ZO.out _ rfl).mono ?_
  rintro e w1 ⟨rfl, rfl⟩
  cases ho : nameB on.data.toList with
  | false =>
    go_wp2_with fail
    refine (specNames a0 c0 list 12 _ (HL.out _ HB.out.2) ZL.out (by unfold i64E; omega) _ rfl).mono ?_
    rintro e w2 ⟨rfl, rfl⟩
    cases hn : (num == 0) with
    | false =>
      have HV : Hid (v = false) := by unfold Hid; rw [← HVV.out]; simp only [boolS, (And.intro ho hn)]
      go_wp2_with fail
      go_ret
      exact ⟨by rw [HV.out] <;> rfl, HB.out.2⟩
    | true =>
      have HV : Hid (v = false) := by unfold Hid; rw [← HVV.out]; simp only [boolS, (And.intro ho hn)]
      go_wp2_with fail
      go_ret
      exact ⟨by rw [HV.out] <;> rfl, HB.out.2⟩
  | true =>
    go_wp2_with fail
    refine (specNames a0 c0 list 12 _ (HL.out _ HB.out.2) ZL.out (by unfold i64E; omega) _ rfl).mono ?_
    rintro e w2 ⟨rfl, rfl⟩
    cases hn : (num == 0) with
    | false =>
      cases hl : namesB list 12 with
      | false =>
        have HV : Hid (v = false) := by unfold Hid; rw [← HVV.out]; simp only [boolS, (And.intro ho (And.intro hn hl))]
        go_wp2_with fail
        go_ret
        exact ⟨by rw [HV.out] <;> rfl, HB.out.2⟩
      | true =>
        cases flag with
        | true =>
          have HV : Hid (v = false) := by unfold Hid; rw [← HVV.out]; simp only [boolS, (And.intro ho (And.intro hn hl))]
          go_wp2_with fail
          go_ret
          exact ⟨by rw [HV.out] <;> rfl, HB.out.2⟩
        | false =>
          cases ht : tyEq ⟨ty.kind, ty.len, ty.name⟩ ⟨0, 0, ⟨#[]⟩⟩ with
          | false =>
            have HV : Hid (v = false) := by unfold Hid; rw [← HVV.out]; simp only [boolS, (And.intro ho (And.intro hn (And.intro hl ht)))]
            go_wp2_with fail
            go_ret
            exact ⟨by rw [HV.out] <;> rfl, HB.out.2⟩
          | true =>
            have HV : Hid (v = false) := by unfold Hid; rw [← HVV.out]; simp only [boolS, (And.intro ho (And.intro hn (And.intro hl ht)))]
            go_wp2_with fail
            go_ret
            exact ⟨by rw [HV.out] <;> rfl, HB.out.2⟩
    | true =>
      cases hl : namesB list 12 with
      | false =>
        have HV : Hid (v = false) := by unfold Hid; rw [← HVV.out]; simp only [boolS, (And.intro ho (And.intro hn hl))]
        go_wp2_with fail
        go_ret
        exact ⟨by rw [HV.out] <;> rfl, HB.out.2⟩
      | true =>
        cases flag with
        | true =>
          have HV : Hid (v = false) := by unfold Hid; rw [← HVV.out]; simp only [boolS, (And.intro ho (And.intro hn hl))]
          go_wp2_with fail
          go_ret
          exact ⟨by rw [HV.out] <;> rfl, HB.out.2⟩
        | false =>
          cases ht : tyEq ⟨ty.kind, ty.len, ty.name⟩ ⟨0, 0, ⟨#[]⟩⟩ with
          | false =>
            have HV : Hid (v = false) := by unfold Hid; rw [← HVV.out]; simp only [boolS, (And.intro ho (And.intro hn (And.intro hl ht)))]
            go_wp2_with fail
            go_ret
            exact ⟨by rw [HV.out] <;> rfl, HB.out.2⟩
          | true =>
            have HV : Hid (exprsB exprs 0 1 = v) := by unfold Hid; rw [← HVV.out]; simp only [boolS, (And.intro ho (And.intro hn (And.intro hl ht)))]
            go_wp2_with fail
            refine (specExprs a3 c3 exprs 0 1 _ (HK.out _ (HB.out.2)) ZE.out (by unfold i64E; omega) (by unfold i64E; omega) v HV.out).mono ?_
            rintro e wz ⟨rfl, bz⟩
            have BZ := Lib.hid (Below.call bz (HB.out.2))
            clear bz
            go_wp2_with fail
            go_ret
            exact ⟨rfl, BZ.out⟩

set_option maxRecDepth 100000 in
set_option maxHeartbeats 8000000 in
theorem specRest_o (kind : Int) (name on : ByteArray) (list : List ByteArray) (num : Int) (flag : Bool) (ty : Ty) (cols : List Co) (rules : List Ru) (exprs : List Ex) (a0 a1 a2 a3 : Option Addr) (c0 c1 c2 c3 : Nat) (w : World) (q0 : (kind == 0) = false) (q2 : (kind == 2) = false) (q7 : (kind == 7) = false) (q8 : (kind == 8) = false) (q9 : (kind == 9) = false) (q10 : (kind == 10) = false) (q12 : (kind == 12) = false) (q13 : (kind == 13) = false) (q15 : (kind == 15) = false) (h0 : Ss 0 w a0 c0 list) (h3 : Ks 0 w a3 c3 exprs) (zo : on.size ≤ 1048576) (zt : ty.name.size ≤ 1048576) (zl : lets list ≤ 1048576) (ze : wtL exprs ≤ 1048576) (v : Bool)
    (hv : (on.toList.isEmpty && ((((list.length : Nat) : Int) == 0) && ((!flag) && (tyEq ⟨ty.kind, ty.len, ty.name⟩ ⟨0, 0, ⟨#[]⟩⟩ && ((num == 0) && exprsB exprs 0 0))))) = v) :
    Calls Tryz.prog 90 #[.agg #[.int .i64 kind, .string name, .string on, .slice a0 list.length c0, .int .i64 num, .bool flag, .int .i64 ty.kind, .int .i64 ty.len, .string ty.name, .slice a1 cols.length c1, .slice a2 rules.length c2, .slice a3 exprs.length c3]] w fun e w' => e = .returned (.bool v) ∧ Below w.heap.size w w' := by
  have ll := h0.1.len
  have le := h3.len
  have HL := Lib.hid (fun w' (hb : Below w.heap.size w w') => (h0.kept (Kept.below hb)).1)
  have HK := Lib.hid (fun w' (hb : Below w.heap.size w w') => h3.kept (Kept.below hb))
  have ZO := Lib.hid zo
  have ZT := Lib.hid zt
  have ZL := Lib.hid zl
  have ZE := Lib.hid ze
  have HVV := Lib.hid hv
  have hq := fun w => eqlTy ty.kind ty.len ty.name 0 0 ⟨#[]⟩ w
  have hG := fun x y w => guardTy x y ty.kind ty.len ty.name 0 0 ⟨#[]⟩ w
  have HB := Lib.hid (boxV_new w [.int .i64 kind, .string name, .string on, .slice a0 list.length c0, .int .i64 num, .bool flag, .int .i64 ty.kind, .int .i64 ty.len, .string ty.name, .slice a1 cols.length c1, .slice a2 rules.length c2, .slice a3 exprs.length c3] 55)
  clear h0 h3 zo zt zl ze hv
  go_enter Tryz.func90, Tryz.ntmps90
  -- no call ahead of the end
  cases hn : (num == 0) with
  | false =>
    cases ho : on.toList.isEmpty with
    | false =>
      have HV : Hid (v = false) := by unfold Hid; rw [← HVV.out]; simp only [boolS, (And.intro hn ho)]
      go_wp2_with fail
      go_ret
      exact ⟨by rw [HV.out] <;> rfl, (Below.refl _ _).alloc (Nat.le_refl _) _⟩
    | true =>
      cases hl : (((list.length : Nat) : Int) == 0) with
      | false =>
        have HV : Hid (v = false) := by unfold Hid; rw [← HVV.out]; simp only [boolS, (And.intro hn (And.intro ho hl))]
        go_wp2_with fail
        go_ret
        exact ⟨by rw [HV.out] <;> rfl, (Below.refl _ _).alloc (Nat.le_refl _) _⟩
      | true =>
        cases flag with
        | true =>
          have HV : Hid (v = false) := by unfold Hid; rw [← HVV.out]; simp only [boolS, (And.intro hn (And.intro ho hl))]
          go_wp2_with fail
          go_ret
          exact ⟨by rw [HV.out] <;> rfl, (Below.refl _ _).alloc (Nat.le_refl _) _⟩
        | false =>
          cases ht : tyEq ⟨ty.kind, ty.len, ty.name⟩ ⟨0, 0, ⟨#[]⟩⟩ with
          | false =>
            have HV : Hid (v = false) := by unfold Hid; rw [← HVV.out]; simp only [boolS, (And.intro hn (And.intro ho (And.intro hl ht)))]
            go_wp2_with fail
            go_ret
            exact ⟨by rw [HV.out] <;> rfl, (Below.refl _ _).alloc (Nat.le_refl _) _⟩
          | true =>
            have HV : Hid (v = false) := by unfold Hid; rw [← HVV.out]; simp only [boolS, (And.intro hn (And.intro ho (And.intro hl ht)))]
            go_wp2_with fail
            go_ret
            exact ⟨by rw [HV.out] <;> rfl, (Below.refl _ _).alloc (Nat.le_refl _) _⟩
  | true =>
    cases ho : on.toList.isEmpty with
    | false =>
      have HV : Hid (v = false) := by unfold Hid; rw [← HVV.out]; simp only [boolS, (And.intro hn ho)]
      go_wp2_with fail
      go_ret
      exact ⟨by rw [HV.out] <;> rfl, (Below.refl _ _).alloc (Nat.le_refl _) _⟩
    | true =>
      cases hl : (((list.length : Nat) : Int) == 0) with
      | false =>
        have HV : Hid (v = false) := by unfold Hid; rw [← HVV.out]; simp only [boolS, (And.intro hn (And.intro ho hl))]
        go_wp2_with fail
        go_ret
        exact ⟨by rw [HV.out] <;> rfl, (Below.refl _ _).alloc (Nat.le_refl _) _⟩
      | true =>
        cases flag with
        | true =>
          have HV : Hid (v = false) := by unfold Hid; rw [← HVV.out]; simp only [boolS, (And.intro hn (And.intro ho hl))]
          go_wp2_with fail
          go_ret
          exact ⟨by rw [HV.out] <;> rfl, (Below.refl _ _).alloc (Nat.le_refl _) _⟩
        | false =>
          cases ht : tyEq ⟨ty.kind, ty.len, ty.name⟩ ⟨0, 0, ⟨#[]⟩⟩ with
          | false =>
            have HV : Hid (v = false) := by unfold Hid; rw [← HVV.out]; simp only [boolS, (And.intro hn (And.intro ho (And.intro hl ht)))]
            go_wp2_with fail
            go_ret
            exact ⟨by rw [HV.out] <;> rfl, (Below.refl _ _).alloc (Nat.le_refl _) _⟩
          | true =>
            have HV : Hid (exprsB exprs 0 0 = v) := by unfold Hid; rw [← HVV.out]; simp only [boolS, (And.intro hn (And.intro ho (And.intro hl ht)))]
            go_wp2_with fail
            refine (specExprs a3 c3 exprs 0 0 _ (HK.out _ ((Below.refl _ _).alloc (Nat.le_refl _) _)) ZE.out (by unfold i64E; omega) (by unfold i64E; omega) v HV.out).mono ?_
            rintro e wz ⟨rfl, bz⟩
            have BZ := Lib.hid (Below.call bz ((Below.refl _ _).alloc (Nat.le_refl _) _))
            clear bz
            go_wp2_with fail
            go_ret
            exact ⟨rfl, BZ.out⟩

end Go.Proofs.YtpdcmmhhgnackaaGreatDoor
