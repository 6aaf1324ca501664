/- How a rule is written. Nothing of the program. Written by tools/gen_prule.py. -/
/- The model's PutRule. Written by tools/gen_prule.py. -/
/- impl.textsOf over impl.PutName. Written by tools/gen_every.py. -/
/- impl.textsOf over impl.PutExpr. Written by tools/gen_every.py. -/
/- impl.listFits over rules. Written by tools/gen_every.py. -/
import Derived.Test.YtpdcmmhhgnackaaGreatDoorMRuleI
import Derived.Test.YtpdcmmhhgnackaaGreatDoorMBuilder
import Derived.Test.YtpdcmmhhgnackaaGreatDoorMOkW
namespace Go.Proofs.YtpdcmmhhgnackaaGreatDoor
open Go.RowKit

def exT : List Ex → ByteArray
  | [] => txt []
  | e :: _ => putT e

def ruleR (r : Ru) : ByteArray :=
  if r.kind = 0 then txt [32, 112, 114, 105, 109, 97, 114, 121, 32, 107, 101, 121, 32] ++ listT r.cols
  else if r.kind = 1 then txt [32, 117, 110, 105, 113, 117, 101, 32] ++ listT r.cols
  else if r.kind = 2 then txt [32, 99, 104, 101, 99, 107, 32, 40] ++ exT r.expr ++ txt [41]
  else txt [32, 102, 111, 114, 101, 105, 103, 110, 32, 107, 101, 121, 32] ++ listT r.cols ++ txt [32, 114, 101, 102, 101, 114, 101, 110, 99, 101, 115, 32] ++ nameT r.table ++ txt [32] ++ listT r.to

/-- What PutRule answers. -/
def ruleT (r : Ru) : ByteArray := if ruleB r = true then txt [99, 111, 110, 115, 116, 114, 97, 105, 110, 116, 32] ++ nameT r.name ++ ruleR r else txt []

theorem listT_size (xs : List ByteArray) (h : ∀ s ∈ xs, nmB s = true) : (listT xs).size ≤ xs.length * 84 + 2 := by
  have h1 := lets_map nameT xs 82 fun s hs => nameT_small (h s hs)
  have h2 := joinL_len (xs.map nameT) (txt [44, 32]) (xs.map nameT).length (Nat.le_refl _)
  rw [List.take_length, List.length_map, show (txt [44, 32]).size = 2 from rfl] at h2
  unfold listT
  rw [ByteArray.size_append, ByteArray.size_append, joinT_size, show (txt [40]).size = 1 from rfl, show (txt [41]).size = 1 from rfl]
  omega

theorem namesB_parts {xs : List ByteArray} {m : Int} (h : namesB xs m = true) : 1 ≤ (xs.length : Int) ∧ (xs.length : Int) ≤ m ∧ ∀ s ∈ xs, nmB s = true := by
  unfold namesB inI at h
  simp only [Bool.and_eq_true, decide_eq_true_eq, List.all_eq_true] at h
  exact ⟨h.1.1, h.1.2, h.2⟩

theorem one_expr {xs : List Ex} (h : exprsB xs 1 1 = true) : ∃ e, xs = [e] ∧ okX e = true := by
  unfold exprsB inI at h
  simp only [Bool.and_eq_true, decide_eq_true_eq, List.all_eq_true] at h
  match xs, h with
  | [], h => simp at h
  | [e], h => exact ⟨e, rfl, h.2 e (by simp)⟩
  | _ :: _ :: _, h => simp only [List.length_cons] at h; omega

end Go.Proofs.YtpdcmmhhgnackaaGreatDoor

namespace Go.Proofs.YtpdcmmhhgnackaaGreatDoor
open Go.RowKit

set_option maxRecDepth 100000 in
set_option maxHeartbeats 4000000 in
theorem specPutRule (vs : List Value) (x : Ru) (w : World) (hR : RRu 0 w vs x) (hwt : x.wt ≤ 1048576) (r : ByteArray) (hr : ruleT x = r) :
    Calls Tryz.prog 12 #[.agg vs.toArray] w fun e w' => e = .returned (.string r) ∧ Below w.heap.size w w' := by
  have HC := Lib.hid (fun w' (hb : Below w.heap.size w w') => specRuleOk vs x w' (goodRu.kept hR (Kept.below hb)) hwt _ rfl)
  obtain ⟨name, kind, cols, expr, table, to⟩ := x
  obtain ⟨a0, c0, a1, c1, a2, c2, rfl, hfit, k0, k1, k2⟩ := hR
  simp only at k0 k1 k2 HC
  have HK := Lib.hid (fun w' (hb : Below w.heap.size w w') => (show Ss 0 w' a0 c0 cols ∧ Ks 0 w' a1 c1 expr ∧ Ss 0 w' a2 c2 to from ⟨k0.kept (Kept.below hb), k1.kept (Kept.below hb), k2.kept (Kept.below hb)⟩))
  have hW : (Ru.mk name kind cols expr table to).wt = name.size + (cols.length + lets cols) + (expr.length + wtL expr) + table.size + (to.length + lets to) := rfl
  have Zn := Lib.hid (show name.size ≤ 1048576 by omega)
  have Zt := Lib.hid (show table.size ≤ 1048576 by omega)
  have Zx := Lib.hid (fun (e : Ex) (hm : e ∈ expr) => (show e.wt ≤ 1048576 by have := wtL_mem hm; omega))
  have HB := Lib.hid (fun T => boxV_new w [.string name, .int .i64 kind, .slice a0 cols.length c0, .slice a1 expr.length c1, .string table, .slice a2 to.length c2] T)
  unfold ruleT at hr
  clear k0 k1 k2 hW
  cases hc : ruleB ⟨name, kind, cols, expr, table, to⟩ with
  | false =>
    have HCC := Lib.hid hc
    have HV : Hid (r = ⟨#[]⟩) := by unfold Hid; rw [← hr, hc]; rfl
    clear hr hc
    go_enter Tryz.func12, Tryz.ntmps12
    go_wp2_with fail
    refine (HC.out _ (HB.out _).2).mono ?_
    rintro e w1 ⟨rfl, b1⟩
    have B1 := Lib.hid ((HB.out 42).call b1)
    clear b1
    rw [HCC.out]
    go_wp2_with fail
    go_ret
    exact ⟨by rw [HV.out] <;> rfl, B1.out.2⟩
  | true =>
    rw [if_pos hc] at hr
    have hin : kind = 0 ∨ kind = 1 ∨ kind = 2 ∨ kind = 3 := by
      by_cases hin : 0 ≤ kind ∧ kind ≤ 3
      · omega
      · rw [ruleB_none _ _ _ _ _ _ hin] at hc; cases hc
    rcases hin with rfl | rfl | rfl | rfl
    · have HCC := Lib.hid hc
      rw [ruleB_key name 0 cols expr table to (.inl rfl)] at hc
      simp only [Bool.and_eq_true] at hc
      obtain ⟨qn, qc, q3, q4, q5⟩ := hc
      obtain ⟨N, hN⟩ : ∃ N, nameT name = N := ⟨_, rfl⟩
      have zN : N.size ≤ 82 := by rw [← hN]; exact nameT_small qn
      have HN := Lib.hid hN
      have y0 : (ByteArray.mk #[99, 111, 110, 115, 116, 114, 97, 105, 110, 116, 32]).size = 11 := rfl
      have y1 : (ByteArray.mk #[32]).size = 1 := rfl
      have y2 : (ByteArray.mk #[41]).size = 1 := rfl
      obtain ⟨p1, hp1⟩ : ∃ p, p = (ByteArray.mk #[99, 111, 110, 115, 116, 114, 97, 105, 110, 116, 32]) ++ N := ⟨_, rfl⟩
      have z1 : p1.size ≤ 93 := by rw [hp1, ByteArray.size_append]; omega
      have ad1 := run_add Tryz.prog (ByteArray.mk #[99, 111, 110, 115, 116, 114, 97, 105, 110, 116, 32]) N p1 hp1 (by omega)
      obtain ⟨n1, n2, n3⟩ := namesB_parts qc
      obtain ⟨C, hC⟩ : ∃ C, listT cols = C := ⟨_, rfl⟩
      have zC : C.size ≤ 338 := by rw [← hC]; have := listT_size cols n3; omega
      have HCl : Hid (∀ W, Strs W a0 c0 cols → Calls Tryz.prog 39 #[.slice a0 cols.length c0] W fun e w' => e = .returned (.string C) ∧ Below W.heap.size W w') := fun W h => specListT a0 c0 cols W h (by omega) n3 C hC
      have y3 : (ByteArray.mk #[32, 112, 114, 105, 109, 97, 114, 121, 32, 107, 101, 121, 32]).size = 13 := rfl
      obtain ⟨p2, hp2⟩ : ∃ p, p = p1 ++ (ByteArray.mk #[32, 112, 114, 105, 109, 97, 114, 121, 32, 107, 101, 121, 32]) := ⟨_, rfl⟩
      obtain ⟨p3, hp3⟩ : ∃ p, p = p2 ++ C := ⟨_, rfl⟩
      have z2 : p2.size ≤ 120 := by rw [hp2, ByteArray.size_append]; omega
      have z3 : p3.size ≤ 460 := by rw [hp3, ByteArray.size_append]; omega
      have ad2 := run_add Tryz.prog p1 _ p2 hp2 (by omega)
      have ad3 := run_add Tryz.prog p2 C p3 hp3 (by omega)
      have HV : Hid (r = p3) := by
        unfold Hid
        rw [← hr, hp3, hp2, hp1]
        unfold ruleR
        simp only [if_true, Int.reduceEq, if_false]
        rw [hN, hC]
        simp only [ba_assoc]
        rfl
      clear hr hN hC hp1 hp2 hp3 qn qc q3 q4 q5 n1 n2 n3
      go_enter Tryz.func12, Tryz.ntmps12
      go_wp2_with fail
      refine (HC.out _ (HB.out _).2).mono ?_
      rintro e w1 ⟨rfl, b1⟩
      have B1 := Lib.hid ((HB.out 42).call b1)
      clear b1
      rw [HCC.out]
      have gB1_0 : w1.cell? ⟨w.heap.size, 0, none⟩ = some (.string name) := (B1.out.1.2 0 (by simp)).1
      have gB1_1 : w1.cell? ⟨w.heap.size, 1, none⟩ = some (.int .i64 0) := (B1.out.1.2 1 (by simp)).1
      have gB1_2 : w1.cell? ⟨w.heap.size, 2, none⟩ = some (.slice a0 cols.length c0) := (B1.out.1.2 2 (by simp)).1
      have gB1_3 : w1.cell? ⟨w.heap.size, 3, none⟩ = some (.slice a1 expr.length c1) := (B1.out.1.2 3 (by simp)).1
      have gB1_4 : w1.cell? ⟨w.heap.size, 4, none⟩ = some (.string table) := (B1.out.1.2 4 (by simp)).1
      have gB1_5 : w1.cell? ⟨w.heap.size, 5, none⟩ = some (.slice a2 to.length c2) := (B1.out.1.2 5 (by simp)).1
      go_wp2_with fail
      refine (specPutName name _ Zn.out N HN.out).mono ?_
      rintro e w2 ⟨rfl, b2⟩
      have B2 := Lib.hid (B1.out.call b2)
      clear b2
      clear gB1_0 gB1_1 gB1_2 gB1_3 gB1_4 gB1_5
      have gB2_0 : w2.cell? ⟨w.heap.size, 0, none⟩ = some (.string name) := (B2.out.1.2 0 (by simp)).1
      have gB2_1 : w2.cell? ⟨w.heap.size, 1, none⟩ = some (.int .i64 0) := (B2.out.1.2 1 (by simp)).1
      have gB2_2 : w2.cell? ⟨w.heap.size, 2, none⟩ = some (.slice a0 cols.length c0) := (B2.out.1.2 2 (by simp)).1
      have gB2_3 : w2.cell? ⟨w.heap.size, 3, none⟩ = some (.slice a1 expr.length c1) := (B2.out.1.2 3 (by simp)).1
      have gB2_4 : w2.cell? ⟨w.heap.size, 4, none⟩ = some (.string table) := (B2.out.1.2 4 (by simp)).1
      have gB2_5 : w2.cell? ⟨w.heap.size, 5, none⟩ = some (.slice a2 to.length c2) := (B2.out.1.2 5 (by simp)).1
      go_wp2_with fail
      refine (HCl.out _ (HK.out _ B2.out.2).1.1).mono ?_
      rintro e w3 ⟨rfl, b3⟩
      have B3 := Lib.hid (B2.out.call b3)
      clear b3
      clear gB2_0 gB2_1 gB2_2 gB2_3 gB2_4 gB2_5
      go_wp2_with fail
      go_ret
      exact ⟨by rw [HV.out] <;> rfl, B3.out.2⟩
    · have HCC := Lib.hid hc
      rw [ruleB_key name 1 cols expr table to (.inr rfl)] at hc
      simp only [Bool.and_eq_true] at hc
      obtain ⟨qn, qc, q3, q4, q5⟩ := hc
      obtain ⟨N, hN⟩ : ∃ N, nameT name = N := ⟨_, rfl⟩
      have zN : N.size ≤ 82 := by rw [← hN]; exact nameT_small qn
      have HN := Lib.hid hN
      have y0 : (ByteArray.mk #[99, 111, 110, 115, 116, 114, 97, 105, 110, 116, 32]).size = 11 := rfl
      have y1 : (ByteArray.mk #[32]).size = 1 := rfl
      have y2 : (ByteArray.mk #[41]).size = 1 := rfl
      obtain ⟨p1, hp1⟩ : ∃ p, p = (ByteArray.mk #[99, 111, 110, 115, 116, 114, 97, 105, 110, 116, 32]) ++ N := ⟨_, rfl⟩
      have z1 : p1.size ≤ 93 := by rw [hp1, ByteArray.size_append]; omega
      have ad1 := run_add Tryz.prog (ByteArray.mk #[99, 111, 110, 115, 116, 114, 97, 105, 110, 116, 32]) N p1 hp1 (by omega)
      obtain ⟨n1, n2, n3⟩ := namesB_parts qc
      obtain ⟨C, hC⟩ : ∃ C, listT cols = C := ⟨_, rfl⟩
      have zC : C.size ≤ 338 := by rw [← hC]; have := listT_size cols n3; omega
      have HCl : Hid (∀ W, Strs W a0 c0 cols → Calls Tryz.prog 39 #[.slice a0 cols.length c0] W fun e w' => e = .returned (.string C) ∧ Below W.heap.size W w') := fun W h => specListT a0 c0 cols W h (by omega) n3 C hC
      have y3 : (ByteArray.mk #[32, 117, 110, 105, 113, 117, 101, 32]).size = 8 := rfl
      obtain ⟨p2, hp2⟩ : ∃ p, p = p1 ++ (ByteArray.mk #[32, 117, 110, 105, 113, 117, 101, 32]) := ⟨_, rfl⟩
      obtain ⟨p3, hp3⟩ : ∃ p, p = p2 ++ C := ⟨_, rfl⟩
      have z2 : p2.size ≤ 120 := by rw [hp2, ByteArray.size_append]; omega
      have z3 : p3.size ≤ 460 := by rw [hp3, ByteArray.size_append]; omega
      have ad2 := run_add Tryz.prog p1 _ p2 hp2 (by omega)
      have ad3 := run_add Tryz.prog p2 C p3 hp3 (by omega)
      have HV : Hid (r = p3) := by
        unfold Hid
        rw [← hr, hp3, hp2, hp1]
        unfold ruleR
        simp only [if_true, Int.reduceEq, if_false]
        rw [hN, hC]
        simp only [ba_assoc]
        rfl
      clear hr hN hC hp1 hp2 hp3 qn qc q3 q4 q5 n1 n2 n3
      go_enter Tryz.func12, Tryz.ntmps12
      go_wp2_with fail
      refine (HC.out _ (HB.out _).2).mono ?_
      rintro e w1 ⟨rfl, b1⟩
      have B1 := Lib.hid ((HB.out 42).call b1)
      clear b1
      rw [HCC.out]
      have gB1_0 : w1.cell? ⟨w.heap.size, 0, none⟩ = some (.string name) := (B1.out.1.2 0 (by simp)).1
      have gB1_1 : w1.cell? ⟨w.heap.size, 1, none⟩ = some (.int .i64 1) := (B1.out.1.2 1 (by simp)).1
      have gB1_2 : w1.cell? ⟨w.heap.size, 2, none⟩ = some (.slice a0 cols.length c0) := (B1.out.1.2 2 (by simp)).1
      have gB1_3 : w1.cell? ⟨w.heap.size, 3, none⟩ = some (.slice a1 expr.length c1) := (B1.out.1.2 3 (by simp)).1
      have gB1_4 : w1.cell? ⟨w.heap.size, 4, none⟩ = some (.string table) := (B1.out.1.2 4 (by simp)).1
      have gB1_5 : w1.cell? ⟨w.heap.size, 5, none⟩ = some (.slice a2 to.length c2) := (B1.out.1.2 5 (by simp)).1
      go_wp2_with fail
      refine (specPutName name _ Zn.out N HN.out).mono ?_
      rintro e w2 ⟨rfl, b2⟩
      have B2 := Lib.hid (B1.out.call b2)
      clear b2
      clear gB1_0 gB1_1 gB1_2 gB1_3 gB1_4 gB1_5
      have gB2_0 : w2.cell? ⟨w.heap.size, 0, none⟩ = some (.string name) := (B2.out.1.2 0 (by simp)).1
      have gB2_1 : w2.cell? ⟨w.heap.size, 1, none⟩ = some (.int .i64 1) := (B2.out.1.2 1 (by simp)).1
      have gB2_2 : w2.cell? ⟨w.heap.size, 2, none⟩ = some (.slice a0 cols.length c0) := (B2.out.1.2 2 (by simp)).1
      have gB2_3 : w2.cell? ⟨w.heap.size, 3, none⟩ = some (.slice a1 expr.length c1) := (B2.out.1.2 3 (by simp)).1
      have gB2_4 : w2.cell? ⟨w.heap.size, 4, none⟩ = some (.string table) := (B2.out.1.2 4 (by simp)).1
      have gB2_5 : w2.cell? ⟨w.heap.size, 5, none⟩ = some (.slice a2 to.length c2) := (B2.out.1.2 5 (by simp)).1
      go_wp2_with fail
      refine (HCl.out _ (HK.out _ B2.out.2).1.1).mono ?_
      rintro e w3 ⟨rfl, b3⟩
      have B3 := Lib.hid (B2.out.call b3)
      clear b3
      clear gB2_0 gB2_1 gB2_2 gB2_3 gB2_4 gB2_5
      go_wp2_with fail
      go_ret
      exact ⟨by rw [HV.out] <;> rfl, B3.out.2⟩
    · have HCC := Lib.hid hc
      rw [ruleB_check name cols expr table to] at hc
      simp only [Bool.and_eq_true] at hc
      obtain ⟨qn, q2, qe, q4, q5⟩ := hc
      obtain ⟨N, hN⟩ : ∃ N, nameT name = N := ⟨_, rfl⟩
      have zN : N.size ≤ 82 := by rw [← hN]; exact nameT_small qn
      have HN := Lib.hid hN
      have y0 : (ByteArray.mk #[99, 111, 110, 115, 116, 114, 97, 105, 110, 116, 32]).size = 11 := rfl
      have y1 : (ByteArray.mk #[32]).size = 1 := rfl
      have y2 : (ByteArray.mk #[41]).size = 1 := rfl
      obtain ⟨p1, hp1⟩ : ∃ p, p = (ByteArray.mk #[99, 111, 110, 115, 116, 114, 97, 105, 110, 116, 32]) ++ N := ⟨_, rfl⟩
      have z1 : p1.size ≤ 93 := by rw [hp1, ByteArray.size_append]; omega
      have ad1 := run_add Tryz.prog (ByteArray.mk #[99, 111, 110, 115, 116, 114, 97, 105, 110, 116, 32]) N p1 hp1 (by omega)
      obtain ⟨e1, rfl, hok⟩ := one_expr qe
      obtain ⟨E, hE⟩ : ∃ E, putT e1 = E := ⟨_, rfl⟩
      have zE : E.size ≤ 8400 := by rw [← hE]; exact putT_small hok
      have HE := Lib.hid hE
      have y3 : (ByteArray.mk #[32, 99, 104, 101, 99, 107, 32, 40]).size = 8 := rfl
      obtain ⟨p2, hp2⟩ : ∃ p, p = p1 ++ (ByteArray.mk #[32, 99, 104, 101, 99, 107, 32, 40]) := ⟨_, rfl⟩
      obtain ⟨p3, hp3⟩ : ∃ p, p = p2 ++ E := ⟨_, rfl⟩
      obtain ⟨p4, hp4⟩ : ∃ p, p = p3 ++ (ByteArray.mk #[41]) := ⟨_, rfl⟩
      have z2 : p2.size ≤ 120 := by rw [hp2, ByteArray.size_append]; omega
      have z3 : p3.size ≤ 8520 := by rw [hp3, ByteArray.size_append]; omega
      have ad2 := run_add Tryz.prog p1 _ p2 hp2 (by omega)
      have ad3 := run_add Tryz.prog p2 E p3 hp3 (by omega)
      have ad4 := run_add Tryz.prog p3 _ p4 hp4 (by omega)
      have HV : Hid (r = p4) := by
        unfold Hid
        rw [← hr, hp4, hp3, hp2, hp1]
        unfold ruleR exT
        simp only [if_true, Int.reduceEq, if_false]
        rw [hN, hE]
        simp only [ba_assoc]
        rfl
      clear hr hN hE hp1 hp2 hp3 hp4 qn q2 qe q4 q5
      go_enter Tryz.func12, Tryz.ntmps12
      go_wp2_with fail
      refine (HC.out _ (HB.out _).2).mono ?_
      rintro e w1 ⟨rfl, b1⟩
      have B1 := Lib.hid ((HB.out 42).call b1)
      clear b1
      rw [HCC.out]
      have gB1_0 : w1.cell? ⟨w.heap.size, 0, none⟩ = some (.string name) := (B1.out.1.2 0 (by simp)).1
      have gB1_1 : w1.cell? ⟨w.heap.size, 1, none⟩ = some (.int .i64 2) := (B1.out.1.2 1 (by simp)).1
      have gB1_2 : w1.cell? ⟨w.heap.size, 2, none⟩ = some (.slice a0 cols.length c0) := (B1.out.1.2 2 (by simp)).1
      have gB1_3 : w1.cell? ⟨w.heap.size, 3, none⟩ = some (.slice a1 [e1].length c1) := (B1.out.1.2 3 (by simp)).1
      have gB1_4 : w1.cell? ⟨w.heap.size, 4, none⟩ = some (.string table) := (B1.out.1.2 4 (by simp)).1
      have gB1_5 : w1.cell? ⟨w.heap.size, 5, none⟩ = some (.slice a2 to.length c2) := (B1.out.1.2 5 (by simp)).1
      go_wp2_with fail
      refine (specPutName name _ Zn.out N HN.out).mono ?_
      rintro e w2 ⟨rfl, b2⟩
      have B2 := Lib.hid (B1.out.call b2)
      clear b2
      clear gB1_0 gB1_1 gB1_2 gB1_3 gB1_4 gB1_5
      have gB2_0 : w2.cell? ⟨w.heap.size, 0, none⟩ = some (.string name) := (B2.out.1.2 0 (by simp)).1
      have gB2_1 : w2.cell? ⟨w.heap.size, 1, none⟩ = some (.int .i64 2) := (B2.out.1.2 1 (by simp)).1
      have gB2_2 : w2.cell? ⟨w.heap.size, 2, none⟩ = some (.slice a0 cols.length c0) := (B2.out.1.2 2 (by simp)).1
      have gB2_3 : w2.cell? ⟨w.heap.size, 3, none⟩ = some (.slice a1 [e1].length c1) := (B2.out.1.2 3 (by simp)).1
      have gB2_4 : w2.cell? ⟨w.heap.size, 4, none⟩ = some (.string table) := (B2.out.1.2 4 (by simp)).1
      have gB2_5 : w2.cell? ⟨w.heap.size, 5, none⟩ = some (.slice a2 to.length c2) := (B2.out.1.2 5 (by simp)).1
      obtain ⟨dd, hsl⟩ := (HK.out _ B2.out.2).2.1.sl
      obtain ⟨eb, eoff, evs, rfl, hbl, hcs, hR1⟩ := hsl.spot (i := 0) (by simp)
      obtain ⟨ea, ec, rfl, hfit1, hkid⟩ := hR1
      simp only [List.getElem_cons_zero] at hcs hkid
      have hc0 : w2.cell? ⟨eb, eoff, none⟩ = some (.int .i64 e1.kind) := by have := hcs 0 (by simp); simpa using this
      have hc1 : w2.cell? ⟨eb, eoff + 1, none⟩ = some (.string e1.text) := by have := hcs 1 (by simp); simpa using this
      have hc2 : w2.cell? ⟨eb, eoff + 2, none⟩ = some (.int .i64 e1.num) := by have := hcs 2 (by simp); simpa using this
      have hc3 : w2.cell? ⟨eb, eoff + 3, none⟩ = some (.slice ea e1.kids.length ec) := by have := hcs 3 (by simp); simpa using this
      have HKd := Lib.hid hkid.at
      clear hkid hcs hsl
      simp only [List.length_cons, List.length_nil] at gB2_3
      go_wp2_with fail
      refine (specPutExpr e1 ea ec dd _ HKd.out (Zx.out e1 (by simp)) E HE.out).mono ?_
      rintro e w3 ⟨rfl, b3⟩
      have B3 := Lib.hid (B2.out.call b3)
      clear b3
      go_wp2_with fail
      go_ret
      exact ⟨by rw [HV.out] <;> rfl, B3.out.2⟩
    · have HCC := Lib.hid hc
      rw [ruleB_ref name cols expr table to] at hc
      simp only [Bool.and_eq_true] at hc
      obtain ⟨qn, qc, q3, qt, qo, q6⟩ := hc
      obtain ⟨N, hN⟩ : ∃ N, nameT name = N := ⟨_, rfl⟩
      have zN : N.size ≤ 82 := by rw [← hN]; exact nameT_small qn
      have HN := Lib.hid hN
      have y0 : (ByteArray.mk #[99, 111, 110, 115, 116, 114, 97, 105, 110, 116, 32]).size = 11 := rfl
      have y1 : (ByteArray.mk #[32]).size = 1 := rfl
      have y2 : (ByteArray.mk #[41]).size = 1 := rfl
      obtain ⟨p1, hp1⟩ : ∃ p, p = (ByteArray.mk #[99, 111, 110, 115, 116, 114, 97, 105, 110, 116, 32]) ++ N := ⟨_, rfl⟩
      have z1 : p1.size ≤ 93 := by rw [hp1, ByteArray.size_append]; omega
      have ad1 := run_add Tryz.prog (ByteArray.mk #[99, 111, 110, 115, 116, 114, 97, 105, 110, 116, 32]) N p1 hp1 (by omega)
      obtain ⟨n1, n2, n3⟩ := namesB_parts qc
      obtain ⟨rs, hrs⟩ : ∃ rs : List ByteArray → ByteArray, rs = listT := ⟨_, rfl⟩
      obtain ⟨C, hC⟩ : ∃ C, rs cols = C := ⟨_, rfl⟩
      have zC : C.size ≤ 338 := by rw [← hC, hrs]; have := listT_size cols n3; omega
      have y3 : (ByteArray.mk #[32, 102, 111, 114, 101, 105, 103, 110, 32, 107, 101, 121, 32]).size = 13 := rfl
      obtain ⟨p2, hp2⟩ : ∃ p, p = p1 ++ (ByteArray.mk #[32, 102, 111, 114, 101, 105, 103, 110, 32, 107, 101, 121, 32]) := ⟨_, rfl⟩
      obtain ⟨p3, hp3⟩ : ∃ p, p = p2 ++ C := ⟨_, rfl⟩
      have z2 : p2.size ≤ 120 := by rw [hp2, ByteArray.size_append]; omega
      have z3 : p3.size ≤ 460 := by rw [hp3, ByteArray.size_append]; omega
      have ad2 := run_add Tryz.prog p1 _ p2 hp2 (by omega)
      have ad3 := run_add Tryz.prog p2 C p3 hp3 (by omega)
      rw [← hC] at ad3
      obtain ⟨m1, m2, m3⟩ := namesB_parts qo
      have zD : (rs to).size ≤ 338 := by rw [hrs]; have := listT_size to m3; omega
      have HLl : Hid (∀ (aa : Option Addr) (cc : Nat) (l : List ByteArray) (W : World), ((aa = a0 ∧ cc = c0 ∧ l = cols) ∨ (aa = a2 ∧ cc = c2 ∧ l = to)) → Below w.heap.size w W → Calls Tryz.prog 39 #[.slice aa l.length cc] W fun e w' => e = .returned (.string (rs l)) ∧ Below W.heap.size W w') := by
        intro aa cc l W h hb
        rcases h with ⟨rfl, rfl, rfl⟩ | ⟨rfl, rfl, rfl⟩
        · exact specListT _ _ _ W (HK.out _ hb).1.1 (by omega) n3 _ (by rw [hrs])
        · exact specListT _ _ _ W (HK.out _ hb).2.2.1 (by omega) m3 _ (by rw [hrs])
      obtain ⟨M, hM⟩ : ∃ M, nameT table = M := ⟨_, rfl⟩
      have zM : M.size ≤ 82 := by rw [← hM]; exact nameT_small qt
      have HM := Lib.hid hM
      have y4 : (ByteArray.mk #[32, 114, 101, 102, 101, 114, 101, 110, 99, 101, 115, 32]).size = 12 := rfl
      obtain ⟨p4, hp4⟩ : ∃ p, p = p3 ++ (ByteArray.mk #[32, 114, 101, 102, 101, 114, 101, 110, 99, 101, 115, 32]) := ⟨_, rfl⟩
      obtain ⟨p5, hp5⟩ : ∃ p, p = p4 ++ M := ⟨_, rfl⟩
      obtain ⟨p6, hp6⟩ : ∃ p, p = p5 ++ (ByteArray.mk #[32]) := ⟨_, rfl⟩
      obtain ⟨p7, hp7⟩ : ∃ p, p = p6 ++ rs to := ⟨_, rfl⟩
      have z4 : p4.size ≤ 480 := by rw [hp4, ByteArray.size_append]; omega
      have z5 : p5.size ≤ 570 := by rw [hp5, ByteArray.size_append]; omega
      have z6 : p6.size ≤ 571 := by rw [hp6, ByteArray.size_append]; omega
      have ad4 := run_add Tryz.prog p3 _ p4 hp4 (by omega)
      have ad5 := run_add Tryz.prog p4 M p5 hp5 (by omega)
      have ad6 := run_add Tryz.prog p5 _ p6 hp6 (by omega)
      have ad7 := run_add Tryz.prog p6 (rs to) p7 hp7 (by omega)
      have HV : Hid (r = p7) := by
        unfold Hid
        rw [← hr, hp7, hp6, hp5, hp4, hp3, hp2, hp1]
        unfold ruleR
        simp only
        rw [if_neg (by omega), if_neg (by omega), if_neg (by omega), hN, hM, ← hC, hrs]
        simp only [ba_assoc]
        rfl
      clear hrs hr hN hC hM hp1 hp2 hp3 hp4 hp5 hp6 hp7 qn qc q3 qt qo q6 n1 n2 n3 m1 m2 m3
      go_enter Tryz.func12, Tryz.ntmps12
      go_wp2_with fail
      refine (HC.out _ (HB.out _).2).mono ?_
      rintro e w1 ⟨rfl, b1⟩
      have B1 := Lib.hid ((HB.out 42).call b1)
      clear b1
      rw [HCC.out]
      have gB1_0 : w1.cell? ⟨w.heap.size, 0, none⟩ = some (.string name) := (B1.out.1.2 0 (by simp)).1
      have gB1_1 : w1.cell? ⟨w.heap.size, 1, none⟩ = some (.int .i64 3) := (B1.out.1.2 1 (by simp)).1
      have gB1_2 : w1.cell? ⟨w.heap.size, 2, none⟩ = some (.slice a0 cols.length c0) := (B1.out.1.2 2 (by simp)).1
      have gB1_3 : w1.cell? ⟨w.heap.size, 3, none⟩ = some (.slice a1 expr.length c1) := (B1.out.1.2 3 (by simp)).1
      have gB1_4 : w1.cell? ⟨w.heap.size, 4, none⟩ = some (.string table) := (B1.out.1.2 4 (by simp)).1
      have gB1_5 : w1.cell? ⟨w.heap.size, 5, none⟩ = some (.slice a2 to.length c2) := (B1.out.1.2 5 (by simp)).1
      go_wp2_with fail
      refine (specPutName name _ Zn.out N HN.out).mono ?_
      rintro e w2 ⟨rfl, b2⟩
      have B2 := Lib.hid (B1.out.call b2)
      clear b2
      clear gB1_0 gB1_1 gB1_2 gB1_3 gB1_4 gB1_5
      have gB2_0 : w2.cell? ⟨w.heap.size, 0, none⟩ = some (.string name) := (B2.out.1.2 0 (by simp)).1
      have gB2_1 : w2.cell? ⟨w.heap.size, 1, none⟩ = some (.int .i64 3) := (B2.out.1.2 1 (by simp)).1
      have gB2_2 : w2.cell? ⟨w.heap.size, 2, none⟩ = some (.slice a0 cols.length c0) := (B2.out.1.2 2 (by simp)).1
      have gB2_3 : w2.cell? ⟨w.heap.size, 3, none⟩ = some (.slice a1 expr.length c1) := (B2.out.1.2 3 (by simp)).1
      have gB2_4 : w2.cell? ⟨w.heap.size, 4, none⟩ = some (.string table) := (B2.out.1.2 4 (by simp)).1
      have gB2_5 : w2.cell? ⟨w.heap.size, 5, none⟩ = some (.slice a2 to.length c2) := (B2.out.1.2 5 (by simp)).1
      have hst : Hid (∀ p q : World, ((p.cell? ⟨w.heap.size, 2, none⟩ = some (.slice a0 cols.length c0) ∧ p.cell? ⟨w.heap.size, 4, none⟩ = some (.string table) ∧ p.cell? ⟨w.heap.size, 5, none⟩ = some (.slice a2 to.length c2)) ∧ Hid (BoxV w [.string name, .int .i64 3, .slice a0 cols.length c0, .slice a1 expr.length c1, .string table, .slice a2 to.length c2] p)) → Below p.heap.size p q → ((q.cell? ⟨w.heap.size, 2, none⟩ = some (.slice a0 cols.length c0) ∧ q.cell? ⟨w.heap.size, 4, none⟩ = some (.string table) ∧ q.cell? ⟨w.heap.size, 5, none⟩ = some (.slice a2 to.length c2)) ∧ Hid (BoxV w [.string name, .int .i64 3, .slice a0 cols.length c0, .slice a1 expr.length c1, .string table, .slice a2 to.length c2] q))) := fun p q h hb => by
        have T := h.2.out.call hb
        exact ⟨⟨(T.1.2 2 (by simp)).1, (T.1.2 4 (by simp)).1, (T.1.2 5 (by simp)).1⟩, T⟩
      have D2 := Lib.hid (B2.out.call (below_drewE (Below.refl _ _)))
      go_wp2_with fail
      go_region_held3 (fun w' => (w'.cell? ⟨w.heap.size, 2, none⟩ = some (.slice a0 cols.length c0) ∧ w'.cell? ⟨w.heap.size, 4, none⟩ = some (.string table) ∧ w'.cell? ⟨w.heap.size, 5, none⟩ = some (.slice a2 to.length c2)) ∧ Hid (BoxV w [.string name, .int .i64 3, .slice a0 cols.length c0, .slice a1 expr.length c1, .string table, .slice a2 to.length c2] w')) (first | assumption | exact ⟨⟨(D2.out.1.2 2 (by simp)).1, (D2.out.1.2 4 (by simp)).1, (D2.out.1.2 5 (by simp)).1⟩, D2.out⟩)
        (first
          | (go_at_call 39; refine (HLl.out _ _ _ _ (by first | exact .inl ⟨rfl, rfl, rfl⟩ | exact .inr ⟨rfl, rfl, rfl⟩) (And.right (by assumption : _ ∧ Hid (BoxV w [.string name, .int .i64 3, .slice a0 cols.length c0, .slice a1 expr.length c1, .string table, .slice a2 to.length c2] _))).out.2).mono ?_; rintro e wq ⟨rfl, bq⟩; have hq := hst.out _ _ (by assumption) bq)
          | (go_at_call 24; refine (specPutName table _ Zt.out M HM.out).mono ?_; rintro e wz ⟨rfl, bz⟩; have hz := hst.out _ _ (by assumption) bz))
      go_wp2_with fail
      go_ret
      exact ⟨by rw [HV.out] <;> rfl, hq.2.out.2⟩

end Go.Proofs.YtpdcmmhhgnackaaGreatDoor

namespace Go.Proofs.YtpdcmmhhgnackaaGreatDoor
open Go.RowKit

set_option maxRecDepth 100000 in
set_option maxHeartbeats 2000000 in
theorem textsN (a : Option Addr) (c : Nat) (xs : List ByteArray) (w : World) (hx : Sl 1 RNm 0 w a c xs) (hJ : AnyW w) (hq : ∀ x ∈ xs, x.size ≤ 1048576) (hn : xs.length ≤ 1000) (hz : ∀ x ∈ xs, (nameT x).size ≤ 4611686018427387903) :
    Calls Tryz.prog 45 #[.slice a xs.length c, .func (.func 30) #[] #[]] w fun e w' => ∃ a' c', e = .returned (.slice a' xs.length c') ∧ Own w' w.heap.size a' c' (xs.map nameT) ∧ Below w.heap.size w w' := by
  obtain ⟨i0, hi0, hi1⟩ := Option.map_eq_some_iff.1 Tryz.infoString
  have hz0 : i0.zero = some (.string ByteArray.empty) := (Prod.mk.inj hi1).1
  have hz1 : i0.size = 1 := (Prod.mk.inj (Prod.mk.inj hi1).2).1
  have hz2 : i0.bytes = 16 := (Prod.mk.inj (Prod.mk.inj hi1).2).2
  have hl := hx.len
  have HX := Lib.hid (fun w' (hb : Below w.heap.size w w') => hx.kept goodRNm (Kept.below hb))
  have HJ := Lib.hid (fun w' (hb : Below w.heap.size w w') => hJ.call hb)
  have HQ := Lib.hid hq
  have HZ := Lib.hid hz
  clear hx hJ hq hz
  go_enter Tryz.func45, Tryz.ntmps45
  go_wp2
  go_loopw [5, 10] (fun v i wr => ∃ (k : Nat) (a1 : Option Addr) (c1 : Nat) (l : List ByteArray), k ≤ xs.length ∧ i = .int .i64 k ∧ v = .slice a1 l.length c1 ∧ Hid (l = (xs.take k).map nameT ∧ Own wr w.heap.size a1 c1 l) ∧ Below w.heap.size w wr) (fun _ i _ => xs.length - (intOf i).toNat)
  case atStart => exact ⟨0, none, 0, [], Nat.zero_le _, rfl, rfl, ⟨rfl, Own.nil _ _⟩, Below.refl _ _⟩
  case round =>
    obtain ⟨k, a1, c1, l, hk, rfl, rfl, hown, hb⟩ := hrel
    have hsz := hb.size
    by_cases hlt : k < xs.length
    · obtain ⟨b, off, vs, rfl, hbl, hcs, hR⟩ := (HX.out _ hb).spot hlt
      have HR := hR
      obtain ⟨rfl, _⟩ := hR
      have hc0 : wr.cell? ⟨b, off + k, none⟩ = some (.string xs[k]) := by have := hcs 0 (by simp); simpa using this
      have HKx := Lib.hid HR
      have hll : l.length = k := by rw [hown.out.1]; simp; omega
      obtain ⟨N, hN⟩ : ∃ N, nameT xs[k] = N := ⟨_, rfl⟩
      have hNm : N.size ≤ maxLen := by rw [← hN]; have := HZ.out _ (List.getElem_mem hlt); unfold maxLen; omega
      have HNN := Lib.hid hN
      have HLN : Hid (l ++ [N] = (xs.take (k + 1)).map nameT) := by unfold Hid; rw [hown.out.1, List.take_succ_eq_append_getElem hlt, List.map_append, ← hN]; rfl
      have HO := Lib.hid hown.out.2
      have HL := Lib.hid hll
      clear hown hN hll HR hcs
      go_wp2_with fail
      refine (implPutName xs[k] _ (HQ.out _ (List.getElem_mem hlt)) N HNN.out).mono ?_
      rintro e w2 ⟨rfl, b2⟩
      have B2 := Lib.hid (show Below w.heap.size w w2 from hb.trans (b2.mono hsz))
      have HO2 := Lib.hid (HO.out.below b2)
      have hsz2 := B2.out.size
      clear b2
      go_wp2_with (at_builtin; refine wpAppendPh rfl _ _ rfl i0 hi0 hz0 hz1 hz2 w.heap.size a1 c1 l (some ⟨_, 0, none⟩) 1 [N] rfl (HO2.out.alloc _) rfl (strsOne _ _ hNm) (by have := HL.out; simp only [List.length_cons, List.length_nil]; omega) (by simp; omega) ?_; intro a3 c3 w3 hown3 hg3)
      have B3 := Lib.hid (appended B2.out (Nat.le_refl _) HO2.out hg3)
      have HO3 := Lib.hid hown3
      clear hown3 hg3
      go_roundw
      case rel => exact ⟨k + 1, a3, c3, l ++ [N], by omega, by go_num, by rw [List.length_append]; rfl, ⟨HLN.out, HO3.out⟩, B3.out⟩
      case measure => simp [intOf]; omega
    · obtain rfl : k = xs.length := by omega
      have hll : l = xs.map nameT := by have := hown.out.1; rwa [List.take_length] at this
      have hle : l.length = xs.length := by rw [hll, List.length_map]
      have HO : Hid (Own wr w.heap.size a1 c1 (xs.map nameT)) := by unfold Hid; rw [← hll]; exact hown.out.2
      rw [hle]
      clear hown hll hle
      go_wp2_with fail
      go_ret
      exact ⟨_, _, rfl, HO.out, hb⟩

end Go.Proofs.YtpdcmmhhgnackaaGreatDoor

namespace Go.Proofs.YtpdcmmhhgnackaaGreatDoor
open Go.RowKit

set_option maxRecDepth 100000 in
set_option maxHeartbeats 2000000 in
theorem textsX (d : Nat) (a : Option Addr) (c : Nat) (xs : List Ex) (w : World) (hx : Sl 4 (RE d) 0 w a c xs) (hJ : Tabs w) (hq : ∀ x ∈ xs, x.wt ≤ 1048576) (hn : xs.length ≤ 1000) (hz : ∀ x ∈ xs, (putT x).size ≤ 4611686018427387903) :
    Calls Tryz.prog 43 #[.slice a xs.length c, .func (.func 44) #[] #[]] w fun e w' => ∃ a' c', e = .returned (.slice a' xs.length c') ∧ Own w' w.heap.size a' c' (xs.map putT) ∧ Below w.heap.size w w' := by
  obtain ⟨i0, hi0, hi1⟩ := Option.map_eq_some_iff.1 Tryz.infoString
  have hz0 : i0.zero = some (.string ByteArray.empty) := (Prod.mk.inj hi1).1
  have hz1 : i0.size = 1 := (Prod.mk.inj (Prod.mk.inj hi1).2).1
  have hz2 : i0.bytes = 16 := (Prod.mk.inj (Prod.mk.inj hi1).2).2
  have hl := hx.len
  have HX := Lib.hid (fun w' (hb : Below w.heap.size w w') => hx.kept (goodRE d) (Kept.below hb))
  have HJ := Lib.hid (fun w' (hb : Below w.heap.size w w') => hJ.call hb)
  have HQ := Lib.hid hq
  have HZ := Lib.hid hz
  clear hx hJ hq hz
  go_enter Tryz.func43, Tryz.ntmps43
  go_wp2
  go_loopw [5, 10] (fun v i wr => ∃ (k : Nat) (a1 : Option Addr) (c1 : Nat) (l : List ByteArray), k ≤ xs.length ∧ i = .int .i64 k ∧ v = .slice a1 l.length c1 ∧ Hid (l = (xs.take k).map putT ∧ Own wr w.heap.size a1 c1 l) ∧ Below w.heap.size w wr) (fun _ i _ => xs.length - (intOf i).toNat)
  case atStart => exact ⟨0, none, 0, [], Nat.zero_le _, rfl, rfl, ⟨rfl, Own.nil _ _⟩, Below.refl _ _⟩
  case round =>
    obtain ⟨k, a1, c1, l, hk, rfl, rfl, hown, hb⟩ := hrel
    have hsz := hb.size
    by_cases hlt : k < xs.length
    · obtain ⟨b, off, vs, rfl, hbl, hcs, hR⟩ := (HX.out _ hb).spot hlt
      have HR := hR
      obtain ⟨a0, c0, rfl, _⟩ := hR
      have hc0 : wr.cell? ⟨b, off + k * 4, none⟩ = some (.int .i64 xs[k].kind) := hcs 0 (by simp)
      have hc1 : wr.cell? ⟨b, off + k * 4 + 1, none⟩ = some (.string xs[k].text) := hcs 1 (by simp)
      have hc2 : wr.cell? ⟨b, off + k * 4 + 2, none⟩ = some (.int .i64 xs[k].num) := hcs 2 (by simp)
      have hc3 : wr.cell? ⟨b, off + k * 4 + 3, none⟩ = some (.slice a0 xs[k].kids.length c0) := hcs 3 (by simp)
      have HKx := Lib.hid HR
      have hll : l.length = k := by rw [hown.out.1]; simp; omega
      obtain ⟨N, hN⟩ : ∃ N, putT xs[k] = N := ⟨_, rfl⟩
      have hNm : N.size ≤ maxLen := by rw [← hN]; have := HZ.out _ (List.getElem_mem hlt); unfold maxLen; omega
      have HNN := Lib.hid hN
      have HLN : Hid (l ++ [N] = (xs.take (k + 1)).map putT) := by unfold Hid; rw [hown.out.1, List.take_succ_eq_append_getElem hlt, List.map_append, ← hN]; rfl
      have HO := Lib.hid hown.out.2
      have HL := Lib.hid hll
      clear hown hN hll HR hcs
      go_wp2_with fail
      obtain ⟨pa, pc, hve, hfite, hkk⟩ := goodRE d |>.kept HKx.out (Kept.below ((Below.refl wr.heap.size wr).alloc (Nat.le_refl _) (.cells #[.int .i64 xs[k].kind, .string xs[k].text, .int .i64 xs[k].num, .slice a0 xs[k].kids.length c0] 66))); cases hve; refine (implPutExpr xs[k] _ _ d _ (HJ.out _ (hb.alloc hsz _)) hfite hkk.at (by have := nodes_wt xs[k]; have := HQ.out _ (List.getElem_mem hlt); omega) N HNN.out).mono ?_
      rintro e w2 ⟨rfl, b2⟩
      have B2 := Lib.hid (show Below w.heap.size w w2 from Below.call b2 (hb.alloc hsz _))
      have HO2 := Lib.hid ((HO.out.alloc _).below b2)
      have hsz2 := B2.out.size
      clear b2
      go_wp2_with (at_builtin; refine wpAppendPh rfl _ _ rfl i0 hi0 hz0 hz1 hz2 w.heap.size a1 c1 l (some ⟨_, 0, none⟩) 1 [N] rfl (HO2.out.alloc _) rfl (strsOne _ _ hNm) (by have := HL.out; simp only [List.length_cons, List.length_nil]; omega) (by simp; omega) ?_; intro a3 c3 w3 hown3 hg3)
      have B3 := Lib.hid (appended B2.out (Nat.le_refl _) HO2.out hg3)
      have HO3 := Lib.hid hown3
      clear hown3 hg3
      go_roundw
      case rel => exact ⟨k + 1, a3, c3, l ++ [N], by omega, by go_num, by rw [List.length_append]; rfl, ⟨HLN.out, HO3.out⟩, B3.out⟩
      case measure => simp [intOf]; omega
    · obtain rfl : k = xs.length := by omega
      have hll : l = xs.map putT := by have := hown.out.1; rwa [List.take_length] at this
      have hle : l.length = xs.length := by rw [hll, List.length_map]
      have HO : Hid (Own wr w.heap.size a1 c1 (xs.map putT)) := by unfold Hid; rw [← hll]; exact hown.out.2
      rw [hle]
      clear hown hll hle
      go_wp2_with fail
      go_ret
      exact ⟨_, _, rfl, HO.out, hb⟩

end Go.Proofs.YtpdcmmhhgnackaaGreatDoor

namespace Go.Proofs.YtpdcmmhhgnackaaGreatDoor
open Go.RowKit

theorem okU (vs : List Value) (x : Ru) (w : World) (hR : RRu 0 w vs x) (hJ : FormR w) (hq : x.wt ≤ 1048576) :
    Calls Tryz.prog 41 #[.agg vs.toArray] w fun e w' => e = .returned (.bool (ruleB x)) ∧ Below w.heap.size w w' :=
  implRuleFits vs x w hJ hR hq _ rfl

set_option maxRecDepth 100000 in
set_option maxHeartbeats 1000000 in
theorem notU (vs : List Value) (x : Ru) (nb : Nat) (w : World) (hR : RRu 0 w vs x) (hJ : FormR w) (hq : x.wt ≤ 1048576) (hnb : w.cell? ⟨nb, 0, none⟩ = some (.func (.func 41) #[] #[])) (hlt : nb < w.heap.size) :
    Calls Tryz.prog 157 #[.agg vs.toArray, .pointer (some ⟨nb, 0, none⟩)] w fun e w' => e = .returned (.bool (!ruleB x)) ∧ Below w.heap.size w w' := by
  have HO := Lib.hid (fun w2 (hb : Below w.heap.size w w2) => okU vs x w2 (goodRu.kept hR (Kept.below hb)) (hJ.call hb) hq)
  obtain ⟨a0, c0, a1, c1, a2, c2, rfl, _⟩ := hR
  have QN := Lib.hid ((World.cell?_alloc_lt w (.cells [.string x.name, .int .i64 x.kind, .slice a0 x.cols.length c0, .slice a1 x.expr.length c1, .string x.table, .slice a2 x.to.length c2].toArray 42) ⟨nb, 0, none⟩ hlt).trans hnb)
  clear hJ
  go_enter Tryz.func157, Tryz.ntmps157
  go_wp2_with fail
  refine (HO.out _ (by ((repeat (first | refine Below.alloc ?_ (by first | omega | (simp; done) | (simp; omega)) _ | refine Below.setCell ?_ (by first | omega | (simp; done) | (simp; omega)) _)); first | exact Below.refl _ _ | exact Below.refl _ _))).mono ?_
  rintro e w2 ⟨rfl, b2⟩
  have B2 := Lib.hid (show Below w.heap.size w w2 from Below.call b2 (by ((repeat (first | refine Below.alloc ?_ (by first | omega | (simp; done) | (simp; omega)) _ | refine Below.setCell ?_ (by first | omega | (simp; done) | (simp; omega)) _)); first | exact Below.refl _ _ | exact Below.refl _ _)))
  clear b2
  go_wp2_with fail
  go_ret
  exact ⟨rfl, B2.out⟩

set_option maxRecDepth 100000 in
set_option maxHeartbeats 2000000 in
theorem idxU (a : Option Addr) (c : Nat) (xs : List Ru) (nb : Nat) (w : World) (hx : Sl 6 RRu 0 w a c xs) (hJ : FormR w) (hq : ∀ x ∈ xs, x.wt ≤ 1048576) (hnb : w.cell? ⟨nb, 0, none⟩ = some (.func (.func 41) #[] #[])) (hlt0 : nb < w.heap.size) :
    Calls Tryz.prog 166 #[.slice a xs.length c, .func (.func 157) #[] #[.pointer (some ⟨nb, 0, none⟩)]] w fun e w' =>
      ∃ r : Int, e = .returned (.int .i64 r) ∧ Hid (decide (0 ≤ r) = !xs.all ruleB) ∧ Below w.heap.size w w' := by
  have hl := hx.len
  have HX := Lib.hid (fun w' (hb : Below w.heap.size w w') => hx.kept goodRu (Kept.below hb))
  have HJ := Lib.hid (fun w' (hb : Below w.heap.size w w') => hJ.call hb)
  have HN := Lib.hid (fun w' (hb : Below w.heap.size w w') => (And.intro ((hb.cell (p := ⟨nb, 0, none⟩) hlt0).trans hnb) (Nat.lt_of_lt_of_le hlt0 hb.size)))
  have HQ := Lib.hid hq
  clear hx hJ hq
  go_enter Tryz.func166, Tryz.ntmps166
  go_wp2
  go_loopw [8] (fun i wr => ∃ k : Nat, k ≤ xs.length ∧ i = .int .i64 k ∧ Hid (∀ m (hm : m < xs.length), m < k → ruleB xs[m] = true) ∧ Below w.heap.size w wr) (fun i _ => xs.length - (intOf i).toNat)
  case atStart => exact ⟨0, Nat.zero_le _, rfl, fun m h hm => absurd hm (by omega), Below.refl _ _⟩
  case round =>
    obtain ⟨k, hk, rfl, hall, hb⟩ := hrel
    by_cases hlt : k < xs.length
    · obtain ⟨b, off, vs, rfl, hbl, hcs, hR⟩ := (HX.out _ hb).spot hlt
      obtain ⟨hn1, hn2⟩ := HN.out _ hb
      have HR := hR
      obtain ⟨a0, c0, a1, c1, a2, c2, rfl, _⟩ := hR
      have hc0 : wr.cell? ⟨b, off + k * 6, none⟩ = some (.string xs[k].name) := hcs 0 (by simp)
      have hc1 : wr.cell? ⟨b, off + k * 6 + 1, none⟩ = some (.int .i64 xs[k].kind) := hcs 1 (by simp)
      have hc2 : wr.cell? ⟨b, off + k * 6 + 2, none⟩ = some (.slice a0 xs[k].cols.length c0) := hcs 2 (by simp)
      have hc3 : wr.cell? ⟨b, off + k * 6 + 3, none⟩ = some (.slice a1 xs[k].expr.length c1) := hcs 3 (by simp)
      have hc4 : wr.cell? ⟨b, off + k * 6 + 4, none⟩ = some (.string xs[k].table) := hcs 4 (by simp)
      have hc5 : wr.cell? ⟨b, off + k * 6 + 5, none⟩ = some (.slice a2 xs[k].to.length c2) := hcs 5 (by simp)
      have HK := Lib.hid HR
      clear HR hcs
      go_wp2_with fail
      refine (notU _ xs[k] nb _ HK.out (HJ.out _ hb) (HQ.out _ (List.getElem_mem hlt)) hn1 hn2).mono ?_
      rintro e w2 ⟨rfl, hb2⟩
      have HB2 := Lib.hid (hb.trans (hb2.mono hb.size))
      clear hb2
      cases he : ruleB xs[k] with
      | false =>
        have HE := Lib.hid (all_hit ruleB xs k hlt he)
        clear he
        go_wp2_with fail
        go_ret
        exact ⟨k, rfl, by unfold Hid; rw [HE.out]; simp, HB2.out⟩
      | true =>
        have HE := Lib.hid he
        clear he
        go_wp2_with fail
        go_roundw
        case rel => exact ⟨k + 1, by omega, by go_num, fun m hm h1 => by
          rcases Nat.lt_or_ge m k with h2 | h2
          · exact hall.out m hm h2
          · obtain rfl : m = k := by omega
            exact HE.out, HB2.out⟩
        case measure => simp [intOf]; omega
    · have HE := Lib.hid (all_miss ruleB xs fun m hm => hall.out m hm (by omega))
      go_wp2_with fail
      go_ret
      exact ⟨-1, rfl, by unfold Hid; rw [HE.out]; rfl, hb⟩

set_option maxHeartbeats 1000000 in
theorem contU (a : Option Addr) (c : Nat) (xs : List Ru) (nb : Nat) (w : World) (hx : Sl 6 RRu 0 w a c xs) (hJ : FormR w) (hq : ∀ x ∈ xs, x.wt ≤ 1048576) (hnb : w.cell? ⟨nb, 0, none⟩ = some (.func (.func 41) #[] #[])) (hlt0 : nb < w.heap.size) :
    Calls Tryz.prog 156 #[.slice a xs.length c, .func (.func 157) #[] #[.pointer (some ⟨nb, 0, none⟩)]] w fun e w' =>
      e = .returned (.bool (!xs.all ruleB)) ∧ Below w.heap.size w w' := by
  have HC := Lib.hid (idxU a c xs nb w hx hJ hq hnb hlt0)
  clear hx hJ hq hnb
  go_enter Tryz.func156, Tryz.ntmps156
  go_wp2_with fail
  refine HC.out.mono ?_
  rintro e w2 ⟨r, rfl, hr, b2⟩
  have B2 := Lib.hid b2
  clear b2
  go_wp2_with fail
  go_ret
  exact ⟨by rw [← hr.out]; rfl, B2.out⟩

set_option maxHeartbeats 1000000 in
theorem everyU (a : Option Addr) (c : Nat) (xs : List Ru) (w : World) (hx : Sl 6 RRu 0 w a c xs) (hJ : FormR w) (hq : ∀ x ∈ xs, x.wt ≤ 1048576) (v : Bool) (hv : xs.all ruleB = v) :
    Calls Tryz.prog 146 #[.slice a xs.length c, .func (.func 41) #[] #[]] w fun e w' => e = .returned (.bool v) ∧ Below w.heap.size w w' := by
  have hmf : ∀ (fn : Fn) (first cap : Array Value) (w : World), (Instr.makeFunc fn first cap).run Tryz.prog w = .ok (.func fn first cap) w := fun _ _ _ _ => rfl
  have HX := Lib.hid (fun w' (hb : Below w.heap.size w w') => And.intro (hx.kept goodRu (Kept.below hb)) (hJ.call hb))
  have HQ := Lib.hid hq
  have HV := Lib.hid hv
  clear hx hJ hq hv
  go_enter Tryz.func146, Tryz.ntmps146
  go_wp2_with fail
  refine (contU a c xs w.heap.size _ (HX.out _ (by ((repeat (first | refine Below.alloc ?_ (by first | omega | (simp; done) | (simp; omega)) _ | refine Below.setCell ?_ (by first | omega | (simp; done) | (simp; omega)) _)); first | exact Below.refl _ _ | exact Below.refl _ _))).1 (HX.out _ (by ((repeat (first | refine Below.alloc ?_ (by first | omega | (simp; done) | (simp; omega)) _ | refine Below.setCell ?_ (by first | omega | (simp; done) | (simp; omega)) _)); first | exact Below.refl _ _ | exact Below.refl _ _))).2 HQ.out (by simp [go_sem]) (by simp)).mono ?_
  rintro e w2 ⟨rfl, b2⟩
  have B2 := Lib.hid (show Below w.heap.size w w2 from Below.call b2 (by ((repeat (first | refine Below.alloc ?_ (by first | omega | (simp; done) | (simp; omega)) _ | refine Below.setCell ?_ (by first | omega | (simp; done) | (simp; omega)) _)); first | exact Below.refl _ _ | exact Below.refl _ _)))
  clear b2
  go_wp2_with fail
  go_ret
  exact ⟨by rw [HV.out]; cases v <;> rfl, B2.out⟩

set_option maxHeartbeats 1000000 in
theorem fitsU (a : Option Addr) (c : Nat) (xs : List Ru) (lo hi : Int) (w : World) (hx : Sl 6 RRu 0 w a c xs) (hJ : FormR w) (hq : ∀ x ∈ xs, x.wt ≤ 1048576) (v : Bool) (hv : (inI xs.length lo hi && xs.all ruleB) = v) :
    Calls Tryz.prog 129 #[.slice a xs.length c, .agg #[.int .i64 lo, .int .i64 hi], .func (.func 41) #[] #[]] w fun e w' => e = .returned (.bool v) ∧ Below w.heap.size w w' := by
  have hl := hx.len
  have HE := Lib.hid (fun w' (hb : Below w.heap.size w w') => everyU a c xs w' (hx.kept goodRu (Kept.below hb)) (hJ.call hb) hq _ rfl)
  clear hx hJ hq
  cases h1 : inI xs.length lo hi with
  | false =>
    have HV : Hid (v = false) := by unfold Hid; rw [← hv, h1]; rfl
    have HI := Lib.hid h1
    clear hv h1
    go_enter Tryz.func129, Tryz.ntmps129
    go_wp2_with fail
    refine (spanAllows lo hi xs.length _ false HI.out).mono ?_
    rintro e w1 ⟨rfl, b1⟩
    have B1 := Lib.hid (show Below w.heap.size w w1 from Below.call b1 (by ((repeat (first | refine Below.alloc ?_ (by first | omega | (simp; done) | (simp; omega)) _ | refine Below.setCell ?_ (by first | omega | (simp; done) | (simp; omega)) _)); first | exact Below.refl _ _ | exact Below.refl _ _)))
    clear b1
    go_wp2_with fail
    go_ret
    exact ⟨by rw [HV.out] <;> rfl, B1.out⟩
  | true =>
    have HV : Hid (xs.all ruleB = v) := by unfold Hid; rw [← hv, h1]; rfl
    have HI := Lib.hid h1
    clear hv h1
    go_enter Tryz.func129, Tryz.ntmps129
    go_wp2_with fail
    refine (spanAllows lo hi xs.length _ true HI.out).mono ?_
    rintro e w1 ⟨rfl, b1⟩
    have B1 := Lib.hid (show Below w.heap.size w w1 from Below.call b1 (by ((repeat (first | refine Below.alloc ?_ (by first | omega | (simp; done) | (simp; omega)) _ | refine Below.setCell ?_ (by first | omega | (simp; done) | (simp; omega)) _)); first | exact Below.refl _ _ | exact Below.refl _ _)))
    clear b1
    go_wp2_with fail
    refine (HE.out _ B1.out).mono ?_
    rintro e w2 ⟨rfl, b2⟩
    have B2 := Lib.hid (show Below w.heap.size w w2 from Below.call b2 B1.out)
    clear b2
    go_wp2_with fail
    go_ret
    exact ⟨by rw [HV.out] <;> rfl, B2.out⟩

end Go.Proofs.YtpdcmmhhgnackaaGreatDoor
