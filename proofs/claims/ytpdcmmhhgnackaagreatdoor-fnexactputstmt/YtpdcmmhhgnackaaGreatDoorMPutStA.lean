/- What PutStmt does with the phrase of a statement: start, enumPhrase, seqPhrase, tablePhrase, addColPhrase, dropColPhrase. Written by tools/gen_put.py. -/
import Derived.Test.YtpdcmmhhgnackaaGreatDoorMPutStW
namespace Go.Proofs.YtpdcmmhhgnackaaGreatDoor
open Go.RowKit

set_option maxRecDepth 100000 in
set_option maxHeartbeats 4000000 in
theorem implPut_start (kind : Int) (name on : ByteArray) (list : List ByteArray) (num : Int) (flag : Bool) (ty : Ty) (cols : List Co) (rules : List Ru) (exprs : List Ex) (a0 a1 a2 a3 : Option Addr) (c0 c1 c2 c3 : Nat) (w : World) (hin : 0 ≤ kind ∧ kind ≤ 16) (hat : ∀ W, (Instr.index 93 (.agg writersV) (.int .i64 kind)).run Tryz.prog W = .ok (.func (.func 94) #[] #[]) W)
    (HOK : Hid (∀ W, Below w.heap.size w W → Calls Tryz.prog 54 #[.agg #[.int .i64 kind, .string name, .string on, .slice a0 list.length c0, .int .i64 num, .bool flag, .int .i64 ty.kind, .int .i64 ty.len, .string ty.name, .slice a1 cols.length c1, .slice a2 rules.length c2, .slice a3 exprs.length c3]] W fun e w' => e = .returned (.bool true) ∧ Below W.heap.size W w'))
    (Q : List ByteArray) (HPH : Hid (∀ W, Below w.heap.size w W → Calls Tryz.prog 94 #[.agg #[.int .i64 kind, .string name, .string on, .slice a0 list.length c0, .int .i64 num, .bool flag, .int .i64 ty.kind, .int .i64 ty.len, .string ty.name, .slice a1 cols.length c1, .slice a2 rules.length c2, .slice a3 exprs.length c3]] W fun e w' => ∃ a c, e = .returned (.slice a Q.length c) ∧ Strs w' a c Q ∧ Below W.heap.size W w'))
    (hJ : lets Q + Q.length ≤ 1073741824) (r : ByteArray) (hr : joinT Q (txt [32]) = r) :
    Calls Tryz.prog 19 #[.agg #[.int .i64 kind, .string name, .string on, .slice a0 list.length c0, .int .i64 num, .bool flag, .int .i64 ty.kind, .int .i64 ty.len, .string ty.name, .slice a1 cols.length c1, .slice a2 rules.length c2, .slice a3 exprs.length c3]] w fun e w' => e = .returned (.string r) ∧ Below w.heap.size w w' := by
  have HB := Lib.hid (boxV_new w [.int .i64 kind, .string name, .string on, .slice a0 list.length c0, .int .i64 num, .bool flag, .int .i64 ty.kind, .int .i64 ty.len, .string ty.name, .slice a1 cols.length c1, .slice a2 rules.length c2, .slice a3 exprs.length c3] 55)
  have HR := Lib.hid hr
  have hk0 : 0 ≤ kind := hin.1
  have hk1 : kind < 17 := by omega
  have hk2 : kind ≤ 16 := hin.2
  clear hr hin
  go_enter Tryz.func19, Tryz.ntmps19
  go_wp2_with fail
  generalize w.alloc (.cells #[.int .i64 kind, .string name, .string on, .slice a0 list.length c0, .int .i64 num, .bool flag, .int .i64 ty.kind, .int .i64 ty.len, .string ty.name, .slice a1 cols.length c1, .slice a2 rules.length c2, .slice a3 exprs.length c3] 55) = W0 at HB ⊢
  have g0 : W0.cell? ⟨w.heap.size, 0, none⟩ = some (.int .i64 kind) := (HB.out.1.2 0 (by simp)).1
  have g1 : W0.cell? ⟨w.heap.size, 1, none⟩ = some (.string name) := (HB.out.1.2 1 (by simp)).1
  have g2 : W0.cell? ⟨w.heap.size, 2, none⟩ = some (.string on) := (HB.out.1.2 2 (by simp)).1
  have g3 : W0.cell? ⟨w.heap.size, 3, none⟩ = some (.slice a0 list.length c0) := (HB.out.1.2 3 (by simp)).1
  have g4 : W0.cell? ⟨w.heap.size, 4, none⟩ = some (.int .i64 num) := (HB.out.1.2 4 (by simp)).1
  have g5 : W0.cell? ⟨w.heap.size, 5, none⟩ = some (.bool flag) := (HB.out.1.2 5 (by simp)).1
  have g6 : W0.cell? ⟨w.heap.size, 6, none⟩ = some (.int .i64 ty.kind) := (HB.out.1.2 6 (by simp)).1
  have g7 : W0.cell? ⟨w.heap.size, 7, none⟩ = some (.int .i64 ty.len) := (HB.out.1.2 7 (by simp)).1
  have g8 : W0.cell? ⟨w.heap.size, 8, none⟩ = some (.string ty.name) := (HB.out.1.2 8 (by simp)).1
  have g9 : W0.cell? ⟨w.heap.size, 9, none⟩ = some (.slice a1 cols.length c1) := (HB.out.1.2 9 (by simp)).1
  have g10 : W0.cell? ⟨w.heap.size, 10, none⟩ = some (.slice a2 rules.length c2) := (HB.out.1.2 10 (by simp)).1
  have g11 : W0.cell? ⟨w.heap.size, 11, none⟩ = some (.slice a3 exprs.length c3) := (HB.out.1.2 11 (by simp)).1
  refine (HOK.out _ HB.out.2).mono ?_
  rintro e w1 ⟨rfl, b1⟩
  have B1 := Lib.hid (HB.out.call b1)
  clear b1 g0 g1 g2 g3 g4 g5 g6 g7 g8 g9 g10 g11
  have g0 : w1.cell? ⟨w.heap.size, 0, none⟩ = some (.int .i64 kind) := (B1.out.1.2 0 (by simp)).1
  have g1 : w1.cell? ⟨w.heap.size, 1, none⟩ = some (.string name) := (B1.out.1.2 1 (by simp)).1
  have g2 : w1.cell? ⟨w.heap.size, 2, none⟩ = some (.string on) := (B1.out.1.2 2 (by simp)).1
  have g3 : w1.cell? ⟨w.heap.size, 3, none⟩ = some (.slice a0 list.length c0) := (B1.out.1.2 3 (by simp)).1
  have g4 : w1.cell? ⟨w.heap.size, 4, none⟩ = some (.int .i64 num) := (B1.out.1.2 4 (by simp)).1
  have g5 : w1.cell? ⟨w.heap.size, 5, none⟩ = some (.bool flag) := (B1.out.1.2 5 (by simp)).1
  have g6 : w1.cell? ⟨w.heap.size, 6, none⟩ = some (.int .i64 ty.kind) := (B1.out.1.2 6 (by simp)).1
  have g7 : w1.cell? ⟨w.heap.size, 7, none⟩ = some (.int .i64 ty.len) := (B1.out.1.2 7 (by simp)).1
  have g8 : w1.cell? ⟨w.heap.size, 8, none⟩ = some (.string ty.name) := (B1.out.1.2 8 (by simp)).1
  have g9 : w1.cell? ⟨w.heap.size, 9, none⟩ = some (.slice a1 cols.length c1) := (B1.out.1.2 9 (by simp)).1
  have g10 : w1.cell? ⟨w.heap.size, 10, none⟩ = some (.slice a2 rules.length c2) := (B1.out.1.2 10 (by simp)).1
  have g11 : w1.cell? ⟨w.heap.size, 11, none⟩ = some (.slice a3 exprs.length c3) := (B1.out.1.2 11 (by simp)).1
  go_wp2_with fail
  have hst : Hid (∀ p q : World, ((p.cell? ⟨w.heap.size, 0, none⟩ = some (.int .i64 kind) ∧ p.cell? ⟨w.heap.size, 1, none⟩ = some (.string name) ∧ p.cell? ⟨w.heap.size, 2, none⟩ = some (.string on) ∧ p.cell? ⟨w.heap.size, 3, none⟩ = some (.slice a0 list.length c0) ∧ p.cell? ⟨w.heap.size, 4, none⟩ = some (.int .i64 num) ∧ p.cell? ⟨w.heap.size, 5, none⟩ = some (.bool flag) ∧ p.cell? ⟨w.heap.size, 6, none⟩ = some (.int .i64 ty.kind) ∧ p.cell? ⟨w.heap.size, 7, none⟩ = some (.int .i64 ty.len) ∧ p.cell? ⟨w.heap.size, 8, none⟩ = some (.string ty.name) ∧ p.cell? ⟨w.heap.size, 9, none⟩ = some (.slice a1 cols.length c1) ∧ p.cell? ⟨w.heap.size, 10, none⟩ = some (.slice a2 rules.length c2) ∧ p.cell? ⟨w.heap.size, 11, none⟩ = some (.slice a3 exprs.length c3)) ∧ Hid (BoxV w [.int .i64 kind, .string name, .string on, .slice a0 list.length c0, .int .i64 num, .bool flag, .int .i64 ty.kind, .int .i64 ty.len, .string ty.name, .slice a1 cols.length c1, .slice a2 rules.length c2, .slice a3 exprs.length c3] p)) → Below p.heap.size p q → ((q.cell? ⟨w.heap.size, 0, none⟩ = some (.int .i64 kind) ∧ q.cell? ⟨w.heap.size, 1, none⟩ = some (.string name) ∧ q.cell? ⟨w.heap.size, 2, none⟩ = some (.string on) ∧ q.cell? ⟨w.heap.size, 3, none⟩ = some (.slice a0 list.length c0) ∧ q.cell? ⟨w.heap.size, 4, none⟩ = some (.int .i64 num) ∧ q.cell? ⟨w.heap.size, 5, none⟩ = some (.bool flag) ∧ q.cell? ⟨w.heap.size, 6, none⟩ = some (.int .i64 ty.kind) ∧ q.cell? ⟨w.heap.size, 7, none⟩ = some (.int .i64 ty.len) ∧ q.cell? ⟨w.heap.size, 8, none⟩ = some (.string ty.name) ∧ q.cell? ⟨w.heap.size, 9, none⟩ = some (.slice a1 cols.length c1) ∧ q.cell? ⟨w.heap.size, 10, none⟩ = some (.slice a2 rules.length c2) ∧ q.cell? ⟨w.heap.size, 11, none⟩ = some (.slice a3 exprs.length c3)) ∧ Hid (BoxV w [.int .i64 kind, .string name, .string on, .slice a0 list.length c0, .int .i64 num, .bool flag, .int .i64 ty.kind, .int .i64 ty.len, .string ty.name, .slice a1 cols.length c1, .slice a2 rules.length c2, .slice a3 exprs.length c3] q))) := fun p q h hb => by
    have T := h.2.out.call hb
    exact ⟨⟨(T.1.2 0 (by simp)).1, (T.1.2 1 (by simp)).1, (T.1.2 2 (by simp)).1, (T.1.2 3 (by simp)).1, (T.1.2 4 (by simp)).1, (T.1.2 5 (by simp)).1, (T.1.2 6 (by simp)).1, (T.1.2 7 (by simp)).1, (T.1.2 8 (by simp)).1, (T.1.2 9 (by simp)).1, (T.1.2 10 (by simp)).1, (T.1.2 11 (by simp)).1⟩, T⟩
  have D0 := Lib.hid ((B1.out).call (below_drewE (Below.refl _ _)))
  have D1 := Lib.hid (B1.out)
  go_region_held3 (fun w' => (w'.cell? ⟨w.heap.size, 0, none⟩ = some (.int .i64 kind) ∧ w'.cell? ⟨w.heap.size, 1, none⟩ = some (.string name) ∧ w'.cell? ⟨w.heap.size, 2, none⟩ = some (.string on) ∧ w'.cell? ⟨w.heap.size, 3, none⟩ = some (.slice a0 list.length c0) ∧ w'.cell? ⟨w.heap.size, 4, none⟩ = some (.int .i64 num) ∧ w'.cell? ⟨w.heap.size, 5, none⟩ = some (.bool flag) ∧ w'.cell? ⟨w.heap.size, 6, none⟩ = some (.int .i64 ty.kind) ∧ w'.cell? ⟨w.heap.size, 7, none⟩ = some (.int .i64 ty.len) ∧ w'.cell? ⟨w.heap.size, 8, none⟩ = some (.string ty.name) ∧ w'.cell? ⟨w.heap.size, 9, none⟩ = some (.slice a1 cols.length c1) ∧ w'.cell? ⟨w.heap.size, 10, none⟩ = some (.slice a2 rules.length c2) ∧ w'.cell? ⟨w.heap.size, 11, none⟩ = some (.slice a3 exprs.length c3)) ∧ Hid (BoxV w [.int .i64 kind, .string name, .string on, .slice a0 list.length c0, .int .i64 num, .bool flag, .int .i64 ty.kind, .int .i64 ty.len, .string ty.name, .slice a1 cols.length c1, .slice a2 rules.length c2, .slice a3 exprs.length c3] w')) (first | assumption | exact ⟨⟨(D0.out.1.2 0 (by simp)).1, (D0.out.1.2 1 (by simp)).1, (D0.out.1.2 2 (by simp)).1, (D0.out.1.2 3 (by simp)).1, (D0.out.1.2 4 (by simp)).1, (D0.out.1.2 5 (by simp)).1, (D0.out.1.2 6 (by simp)).1, (D0.out.1.2 7 (by simp)).1, (D0.out.1.2 8 (by simp)).1, (D0.out.1.2 9 (by simp)).1, (D0.out.1.2 10 (by simp)).1, (D0.out.1.2 11 (by simp)).1⟩, D0.out⟩ | exact ⟨⟨(D1.out.1.2 0 (by simp)).1, (D1.out.1.2 1 (by simp)).1, (D1.out.1.2 2 (by simp)).1, (D1.out.1.2 3 (by simp)).1, (D1.out.1.2 4 (by simp)).1, (D1.out.1.2 5 (by simp)).1, (D1.out.1.2 6 (by simp)).1, (D1.out.1.2 7 (by simp)).1, (D1.out.1.2 8 (by simp)).1, (D1.out.1.2 9 (by simp)).1, (D1.out.1.2 10 (by simp)).1, (D1.out.1.2 11 (by simp)).1⟩, D1.out⟩ | exact hst.out _ _ (by assumption) ((Below.refl _ _).alloc (Nat.le_refl _) _))
    (first
      | (go_at_call 55; refine (implStmtWriters _).mono ?_; rintro e wa ⟨rfl, ba⟩; have h1 := hst.out _ _ (by assumption) ba)
      | (go_at_call 94; refine (HPH.out _ h1.2.out.2).mono ?_; rintro e wb ⟨pa, pc, rfl, hpa, bb⟩; have h2 := hst.out _ _ h1 bb; have HS2 := Lib.hid hpa)
      | (go_at_call 34; refine (phraseText pa pc Q _ HS2.out hJ r HR.out).mono ?_; rintro e wc ⟨rfl, bc⟩; have h3 := hst.out _ _ h2 bc))
  go_wp2_with fail
  go_ret
  exact ⟨rfl, h3.2.out.2⟩

set_option maxRecDepth 100000 in
set_option maxHeartbeats 4000000 in
theorem implPut_enumPhrase (kind : Int) (name on : ByteArray) (list : List ByteArray) (num : Int) (flag : Bool) (ty : Ty) (cols : List Co) (rules : List Ru) (exprs : List Ex) (a0 a1 a2 a3 : Option Addr) (c0 c1 c2 c3 : Nat) (w : World) (hin : 0 ≤ kind ∧ kind ≤ 16) (hat : ∀ W, (Instr.index 93 (.agg writersV) (.int .i64 kind)).run Tryz.prog W = .ok (.func (.func 93) #[] #[]) W)
    (HOK : Hid (∀ W, Below w.heap.size w W → Calls Tryz.prog 54 #[.agg #[.int .i64 kind, .string name, .string on, .slice a0 list.length c0, .int .i64 num, .bool flag, .int .i64 ty.kind, .int .i64 ty.len, .string ty.name, .slice a1 cols.length c1, .slice a2 rules.length c2, .slice a3 exprs.length c3]] W fun e w' => e = .returned (.bool true) ∧ Below W.heap.size W w'))
    (Q : List ByteArray) (HPH : Hid (∀ W, Below w.heap.size w W → Calls Tryz.prog 93 #[.agg #[.int .i64 kind, .string name, .string on, .slice a0 list.length c0, .int .i64 num, .bool flag, .int .i64 ty.kind, .int .i64 ty.len, .string ty.name, .slice a1 cols.length c1, .slice a2 rules.length c2, .slice a3 exprs.length c3]] W fun e w' => ∃ a c, e = .returned (.slice a Q.length c) ∧ Strs w' a c Q ∧ Below W.heap.size W w'))
    (hJ : lets Q + Q.length ≤ 1073741824) (r : ByteArray) (hr : joinT Q (txt [32]) = r) :
    Calls Tryz.prog 19 #[.agg #[.int .i64 kind, .string name, .string on, .slice a0 list.length c0, .int .i64 num, .bool flag, .int .i64 ty.kind, .int .i64 ty.len, .string ty.name, .slice a1 cols.length c1, .slice a2 rules.length c2, .slice a3 exprs.length c3]] w fun e w' => e = .returned (.string r) ∧ Below w.heap.size w w' := by
  have HB := Lib.hid (boxV_new w [.int .i64 kind, .string name, .string on, .slice a0 list.length c0, .int .i64 num, .bool flag, .int .i64 ty.kind, .int .i64 ty.len, .string ty.name, .slice a1 cols.length c1, .slice a2 rules.length c2, .slice a3 exprs.length c3] 55)
  have HR := Lib.hid hr
  have hk0 : 0 ≤ kind := hin.1
  have hk1 : kind < 17 := by omega
  have hk2 : kind ≤ 16 := hin.2
  clear hr hin
  go_enter Tryz.func19, Tryz.ntmps19
  go_wp2_with fail
  generalize w.alloc (.cells #[.int .i64 kind, .string name, .string on, .slice a0 list.length c0, .int .i64 num, .bool flag, .int .i64 ty.kind, .int .i64 ty.len, .string ty.name, .slice a1 cols.length c1, .slice a2 rules.length c2, .slice a3 exprs.length c3] 55) = W0 at HB ⊢
  have g0 : W0.cell? ⟨w.heap.size, 0, none⟩ = some (.int .i64 kind) := (HB.out.1.2 0 (by simp)).1
  have g1 : W0.cell? ⟨w.heap.size, 1, none⟩ = some (.string name) := (HB.out.1.2 1 (by simp)).1
  have g2 : W0.cell? ⟨w.heap.size, 2, none⟩ = some (.string on) := (HB.out.1.2 2 (by simp)).1
  have g3 : W0.cell? ⟨w.heap.size, 3, none⟩ = some (.slice a0 list.length c0) := (HB.out.1.2 3 (by simp)).1
  have g4 : W0.cell? ⟨w.heap.size, 4, none⟩ = some (.int .i64 num) := (HB.out.1.2 4 (by simp)).1
  have g5 : W0.cell? ⟨w.heap.size, 5, none⟩ = some (.bool flag) := (HB.out.1.2 5 (by simp)).1
  have g6 : W0.cell? ⟨w.heap.size, 6, none⟩ = some (.int .i64 ty.kind) := (HB.out.1.2 6 (by simp)).1
  have g7 : W0.cell? ⟨w.heap.size, 7, none⟩ = some (.int .i64 ty.len) := (HB.out.1.2 7 (by simp)).1
  have g8 : W0.cell? ⟨w.heap.size, 8, none⟩ = some (.string ty.name) := (HB.out.1.2 8 (by simp)).1
  have g9 : W0.cell? ⟨w.heap.size, 9, none⟩ = some (.slice a1 cols.length c1) := (HB.out.1.2 9 (by simp)).1
  have g10 : W0.cell? ⟨w.heap.size, 10, none⟩ = some (.slice a2 rules.length c2) := (HB.out.1.2 10 (by simp)).1
  have g11 : W0.cell? ⟨w.heap.size, 11, none⟩ = some (.slice a3 exprs.length c3) := (HB.out.1.2 11 (by simp)).1
  refine (HOK.out _ HB.out.2).mono ?_
  rintro e w1 ⟨rfl, b1⟩
  have B1 := Lib.hid (HB.out.call b1)
  clear b1 g0 g1 g2 g3 g4 g5 g6 g7 g8 g9 g10 g11
  have g0 : w1.cell? ⟨w.heap.size, 0, none⟩ = some (.int .i64 kind) := (B1.out.1.2 0 (by simp)).1
  have g1 : w1.cell? ⟨w.heap.size, 1, none⟩ = some (.string name) := (B1.out.1.2 1 (by simp)).1
  have g2 : w1.cell? ⟨w.heap.size, 2, none⟩ = some (.string on) := (B1.out.1.2 2 (by simp)).1
  have g3 : w1.cell? ⟨w.heap.size, 3, none⟩ = some (.slice a0 list.length c0) := (B1.out.1.2 3 (by simp)).1
  have g4 : w1.cell? ⟨w.heap.size, 4, none⟩ = some (.int .i64 num) := (B1.out.1.2 4 (by simp)).1
  have g5 : w1.cell? ⟨w.heap.size, 5, none⟩ = some (.bool flag) := (B1.out.1.2 5 (by simp)).1
  have g6 : w1.cell? ⟨w.heap.size, 6, none⟩ = some (.int .i64 ty.kind) := (B1.out.1.2 6 (by simp)).1
  have g7 : w1.cell? ⟨w.heap.size, 7, none⟩ = some (.int .i64 ty.len) := (B1.out.1.2 7 (by simp)).1
  have g8 : w1.cell? ⟨w.heap.size, 8, none⟩ = some (.string ty.name) := (B1.out.1.2 8 (by simp)).1
  have g9 : w1.cell? ⟨w.heap.size, 9, none⟩ = some (.slice a1 cols.length c1) := (B1.out.1.2 9 (by simp)).1
  have g10 : w1.cell? ⟨w.heap.size, 10, none⟩ = some (.slice a2 rules.length c2) := (B1.out.1.2 10 (by simp)).1
  have g11 : w1.cell? ⟨w.heap.size, 11, none⟩ = some (.slice a3 exprs.length c3) := (B1.out.1.2 11 (by simp)).1
  go_wp2_with fail
  have hst : Hid (∀ p q : World, ((p.cell? ⟨w.heap.size, 0, none⟩ = some (.int .i64 kind) ∧ p.cell? ⟨w.heap.size, 1, none⟩ = some (.string name) ∧ p.cell? ⟨w.heap.size, 2, none⟩ = some (.string on) ∧ p.cell? ⟨w.heap.size, 3, none⟩ = some (.slice a0 list.length c0) ∧ p.cell? ⟨w.heap.size, 4, none⟩ = some (.int .i64 num) ∧ p.cell? ⟨w.heap.size, 5, none⟩ = some (.bool flag) ∧ p.cell? ⟨w.heap.size, 6, none⟩ = some (.int .i64 ty.kind) ∧ p.cell? ⟨w.heap.size, 7, none⟩ = some (.int .i64 ty.len) ∧ p.cell? ⟨w.heap.size, 8, none⟩ = some (.string ty.name) ∧ p.cell? ⟨w.heap.size, 9, none⟩ = some (.slice a1 cols.length c1) ∧ p.cell? ⟨w.heap.size, 10, none⟩ = some (.slice a2 rules.length c2) ∧ p.cell? ⟨w.heap.size, 11, none⟩ = some (.slice a3 exprs.length c3)) ∧ Hid (BoxV w [.int .i64 kind, .string name, .string on, .slice a0 list.length c0, .int .i64 num, .bool flag, .int .i64 ty.kind, .int .i64 ty.len, .string ty.name, .slice a1 cols.length c1, .slice a2 rules.length c2, .slice a3 exprs.length c3] p)) → Below p.heap.size p q → ((q.cell? ⟨w.heap.size, 0, none⟩ = some (.int .i64 kind) ∧ q.cell? ⟨w.heap.size, 1, none⟩ = some (.string name) ∧ q.cell? ⟨w.heap.size, 2, none⟩ = some (.string on) ∧ q.cell? ⟨w.heap.size, 3, none⟩ = some (.slice a0 list.length c0) ∧ q.cell? ⟨w.heap.size, 4, none⟩ = some (.int .i64 num) ∧ q.cell? ⟨w.heap.size, 5, none⟩ = some (.bool flag) ∧ q.cell? ⟨w.heap.size, 6, none⟩ = some (.int .i64 ty.kind) ∧ q.cell? ⟨w.heap.size, 7, none⟩ = some (.int .i64 ty.len) ∧ q.cell? ⟨w.heap.size, 8, none⟩ = some (.string ty.name) ∧ q.cell? ⟨w.heap.size, 9, none⟩ = some (.slice a1 cols.length c1) ∧ q.cell? ⟨w.heap.size, 10, none⟩ = some (.slice a2 rules.length c2) ∧ q.cell? ⟨w.heap.size, 11, none⟩ = some (.slice a3 exprs.length c3)) ∧ Hid (BoxV w [.int .i64 kind, .string name, .string on, .slice a0 list.length c0, .int .i64 num, .bool flag, .int .i64 ty.kind, .int .i64 ty.len, .string ty.name, .slice a1 cols.length c1, .slice a2 rules.length c2, .slice a3 exprs.length c3] q))) := fun p q h hb => by
    have T := h.2.out.call hb
    exact ⟨⟨(T.1.2 0 (by simp)).1, (T.1.2 1 (by simp)).1, (T.1.2 2 (by simp)).1, (T.1.2 3 (by simp)).1, (T.1.2 4 (by simp)).1, (T.1.2 5 (by simp)).1, (T.1.2 6 (by simp)).1, (T.1.2 7 (by simp)).1, (T.1.2 8 (by simp)).1, (T.1.2 9 (by simp)).1, (T.1.2 10 (by simp)).1, (T.1.2 11 (by simp)).1⟩, T⟩
  have D0 := Lib.hid ((B1.out).call (below_drewE (Below.refl _ _)))
  have D1 := Lib.hid (B1.out)
  go_region_held3 (fun w' => (w'.cell? ⟨w.heap.size, 0, none⟩ = some (.int .i64 kind) ∧ w'.cell? ⟨w.heap.size, 1, none⟩ = some (.string name) ∧ w'.cell? ⟨w.heap.size, 2, none⟩ = some (.string on) ∧ w'.cell? ⟨w.heap.size, 3, none⟩ = some (.slice a0 list.length c0) ∧ w'.cell? ⟨w.heap.size, 4, none⟩ = some (.int .i64 num) ∧ w'.cell? ⟨w.heap.size, 5, none⟩ = some (.bool flag) ∧ w'.cell? ⟨w.heap.size, 6, none⟩ = some (.int .i64 ty.kind) ∧ w'.cell? ⟨w.heap.size, 7, none⟩ = some (.int .i64 ty.len) ∧ w'.cell? ⟨w.heap.size, 8, none⟩ = some (.string ty.name) ∧ w'.cell? ⟨w.heap.size, 9, none⟩ = some (.slice a1 cols.length c1) ∧ w'.cell? ⟨w.heap.size, 10, none⟩ = some (.slice a2 rules.length c2) ∧ w'.cell? ⟨w.heap.size, 11, none⟩ = some (.slice a3 exprs.length c3)) ∧ Hid (BoxV w [.int .i64 kind, .string name, .string on, .slice a0 list.length c0, .int .i64 num, .bool flag, .int .i64 ty.kind, .int .i64 ty.len, .string ty.name, .slice a1 cols.length c1, .slice a2 rules.length c2, .slice a3 exprs.length c3] w')) (first | assumption | exact ⟨⟨(D0.out.1.2 0 (by simp)).1, (D0.out.1.2 1 (by simp)).1, (D0.out.1.2 2 (by simp)).1, (D0.out.1.2 3 (by simp)).1, (D0.out.1.2 4 (by simp)).1, (D0.out.1.2 5 (by simp)).1, (D0.out.1.2 6 (by simp)).1, (D0.out.1.2 7 (by simp)).1, (D0.out.1.2 8 (by simp)).1, (D0.out.1.2 9 (by simp)).1, (D0.out.1.2 10 (by simp)).1, (D0.out.1.2 11 (by simp)).1⟩, D0.out⟩ | exact ⟨⟨(D1.out.1.2 0 (by simp)).1, (D1.out.1.2 1 (by simp)).1, (D1.out.1.2 2 (by simp)).1, (D1.out.1.2 3 (by simp)).1, (D1.out.1.2 4 (by simp)).1, (D1.out.1.2 5 (by simp)).1, (D1.out.1.2 6 (by simp)).1, (D1.out.1.2 7 (by simp)).1, (D1.out.1.2 8 (by simp)).1, (D1.out.1.2 9 (by simp)).1, (D1.out.1.2 10 (by simp)).1, (D1.out.1.2 11 (by simp)).1⟩, D1.out⟩ | exact hst.out _ _ (by assumption) ((Below.refl _ _).alloc (Nat.le_refl _) _))
    (first
      | (go_at_call 55; refine (implStmtWriters _).mono ?_; rintro e wa ⟨rfl, ba⟩; have h1 := hst.out _ _ (by assumption) ba)
      | (go_at_call 93; refine (HPH.out _ h1.2.out.2).mono ?_; rintro e wb ⟨pa, pc, rfl, hpa, bb⟩; have h2 := hst.out _ _ h1 bb; have HS2 := Lib.hid hpa)
      | (go_at_call 34; refine (phraseText pa pc Q _ HS2.out hJ r HR.out).mono ?_; rintro e wc ⟨rfl, bc⟩; have h3 := hst.out _ _ h2 bc))
  go_wp2_with fail
  go_ret
  exact ⟨rfl, h3.2.out.2⟩

set_option maxRecDepth 100000 in
set_option maxHeartbeats 4000000 in
theorem implPut_seqPhrase (kind : Int) (name on : ByteArray) (list : List ByteArray) (num : Int) (flag : Bool) (ty : Ty) (cols : List Co) (rules : List Ru) (exprs : List Ex) (a0 a1 a2 a3 : Option Addr) (c0 c1 c2 c3 : Nat) (w : World) (hin : 0 ≤ kind ∧ kind ≤ 16) (hat : ∀ W, (Instr.index 93 (.agg writersV) (.int .i64 kind)).run Tryz.prog W = .ok (.func (.func 95) #[] #[]) W)
    (HOK : Hid (∀ W, Below w.heap.size w W → Calls Tryz.prog 54 #[.agg #[.int .i64 kind, .string name, .string on, .slice a0 list.length c0, .int .i64 num, .bool flag, .int .i64 ty.kind, .int .i64 ty.len, .string ty.name, .slice a1 cols.length c1, .slice a2 rules.length c2, .slice a3 exprs.length c3]] W fun e w' => e = .returned (.bool true) ∧ Below W.heap.size W w'))
    (Q : List ByteArray) (HPH : Hid (∀ W, Below w.heap.size w W → Calls Tryz.prog 95 #[.agg #[.int .i64 kind, .string name, .string on, .slice a0 list.length c0, .int .i64 num, .bool flag, .int .i64 ty.kind, .int .i64 ty.len, .string ty.name, .slice a1 cols.length c1, .slice a2 rules.length c2, .slice a3 exprs.length c3]] W fun e w' => ∃ a c, e = .returned (.slice a Q.length c) ∧ Strs w' a c Q ∧ Below W.heap.size W w'))
    (hJ : lets Q + Q.length ≤ 1073741824) (r : ByteArray) (hr : joinT Q (txt [32]) = r) :
    Calls Tryz.prog 19 #[.agg #[.int .i64 kind, .string name, .string on, .slice a0 list.length c0, .int .i64 num, .bool flag, .int .i64 ty.kind, .int .i64 ty.len, .string ty.name, .slice a1 cols.length c1, .slice a2 rules.length c2, .slice a3 exprs.length c3]] w fun e w' => e = .returned (.string r) ∧ Below w.heap.size w w' := by
  have HB := Lib.hid (boxV_new w [.int .i64 kind, .string name, .string on, .slice a0 list.length c0, .int .i64 num, .bool flag, .int .i64 ty.kind, .int .i64 ty.len, .string ty.name, .slice a1 cols.length c1, .slice a2 rules.length c2, .slice a3 exprs.length c3] 55)
  have HR := Lib.hid hr
  have hk0 : 0 ≤ kind := hin.1
  have hk1 : kind < 17 := by omega
  have hk2 : kind ≤ 16 := hin.2
  clear hr hin
  go_enter Tryz.func19, Tryz.ntmps19
  go_wp2_with fail
  generalize w.alloc (.cells #[.int .i64 kind, .string name, .string on, .slice a0 list.length c0, .int .i64 num, .bool flag, .int .i64 ty.kind, .int .i64 ty.len, .string ty.name, .slice a1 cols.length c1, .slice a2 rules.length c2, .slice a3 exprs.length c3] 55) = W0 at HB ⊢
  have g0 : W0.cell? ⟨w.heap.size, 0, none⟩ = some (.int .i64 kind) := (HB.out.1.2 0 (by simp)).1
  have g1 : W0.cell? ⟨w.heap.size, 1, none⟩ = some (.string name) := (HB.out.1.2 1 (by simp)).1
  have g2 : W0.cell? ⟨w.heap.size, 2, none⟩ = some (.string on) := (HB.out.1.2 2 (by simp)).1
  have g3 : W0.cell? ⟨w.heap.size, 3, none⟩ = some (.slice a0 list.length c0) := (HB.out.1.2 3 (by simp)).1
  have g4 : W0.cell? ⟨w.heap.size, 4, none⟩ = some (.int .i64 num) := (HB.out.1.2 4 (by simp)).1
  have g5 : W0.cell? ⟨w.heap.size, 5, none⟩ = some (.bool flag) := (HB.out.1.2 5 (by simp)).1
  have g6 : W0.cell? ⟨w.heap.size, 6, none⟩ = some (.int .i64 ty.kind) := (HB.out.1.2 6 (by simp)).1
  have g7 : W0.cell? ⟨w.heap.size, 7, none⟩ = some (.int .i64 ty.len) := (HB.out.1.2 7 (by simp)).1
  have g8 : W0.cell? ⟨w.heap.size, 8, none⟩ = some (.string ty.name) := (HB.out.1.2 8 (by simp)).1
  have g9 : W0.cell? ⟨w.heap.size, 9, none⟩ = some (.slice a1 cols.length c1) := (HB.out.1.2 9 (by simp)).1
  have g10 : W0.cell? ⟨w.heap.size, 10, none⟩ = some (.slice a2 rules.length c2) := (HB.out.1.2 10 (by simp)).1
  have g11 : W0.cell? ⟨w.heap.size, 11, none⟩ = some (.slice a3 exprs.length c3) := (HB.out.1.2 11 (by simp)).1
  refine (HOK.out _ HB.out.2).mono ?_
  rintro e w1 ⟨rfl, b1⟩
  have B1 := Lib.hid (HB.out.call b1)
  clear b1 g0 g1 g2 g3 g4 g5 g6 g7 g8 g9 g10 g11
  have g0 : w1.cell? ⟨w.heap.size, 0, none⟩ = some (.int .i64 kind) := (B1.out.1.2 0 (by simp)).1
  have g1 : w1.cell? ⟨w.heap.size, 1, none⟩ = some (.string name) := (B1.out.1.2 1 (by simp)).1
  have g2 : w1.cell? ⟨w.heap.size, 2, none⟩ = some (.string on) := (B1.out.1.2 2 (by simp)).1
  have g3 : w1.cell? ⟨w.heap.size, 3, none⟩ = some (.slice a0 list.length c0) := (B1.out.1.2 3 (by simp)).1
  have g4 : w1.cell? ⟨w.heap.size, 4, none⟩ = some (.int .i64 num) := (B1.out.1.2 4 (by simp)).1
  have g5 : w1.cell? ⟨w.heap.size, 5, none⟩ = some (.bool flag) := (B1.out.1.2 5 (by simp)).1
  have g6 : w1.cell? ⟨w.heap.size, 6, none⟩ = some (.int .i64 ty.kind) := (B1.out.1.2 6 (by simp)).1
  have g7 : w1.cell? ⟨w.heap.size, 7, none⟩ = some (.int .i64 ty.len) := (B1.out.1.2 7 (by simp)).1
  have g8 : w1.cell? ⟨w.heap.size, 8, none⟩ = some (.string ty.name) := (B1.out.1.2 8 (by simp)).1
  have g9 : w1.cell? ⟨w.heap.size, 9, none⟩ = some (.slice a1 cols.length c1) := (B1.out.1.2 9 (by simp)).1
  have g10 : w1.cell? ⟨w.heap.size, 10, none⟩ = some (.slice a2 rules.length c2) := (B1.out.1.2 10 (by simp)).1
  have g11 : w1.cell? ⟨w.heap.size, 11, none⟩ = some (.slice a3 exprs.length c3) := (B1.out.1.2 11 (by simp)).1
  go_wp2_with fail
  have hst : Hid (∀ p q : World, ((p.cell? ⟨w.heap.size, 0, none⟩ = some (.int .i64 kind) ∧ p.cell? ⟨w.heap.size, 1, none⟩ = some (.string name) ∧ p.cell? ⟨w.heap.size, 2, none⟩ = some (.string on) ∧ p.cell? ⟨w.heap.size, 3, none⟩ = some (.slice a0 list.length c0) ∧ p.cell? ⟨w.heap.size, 4, none⟩ = some (.int .i64 num) ∧ p.cell? ⟨w.heap.size, 5, none⟩ = some (.bool flag) ∧ p.cell? ⟨w.heap.size, 6, none⟩ = some (.int .i64 ty.kind) ∧ p.cell? ⟨w.heap.size, 7, none⟩ = some (.int .i64 ty.len) ∧ p.cell? ⟨w.heap.size, 8, none⟩ = some (.string ty.name) ∧ p.cell? ⟨w.heap.size, 9, none⟩ = some (.slice a1 cols.length c1) ∧ p.cell? ⟨w.heap.size, 10, none⟩ = some (.slice a2 rules.length c2) ∧ p.cell? ⟨w.heap.size, 11, none⟩ = some (.slice a3 exprs.length c3)) ∧ Hid (BoxV w [.int .i64 kind, .string name, .string on, .slice a0 list.length c0, .int .i64 num, .bool flag, .int .i64 ty.kind, .int .i64 ty.len, .string ty.name, .slice a1 cols.length c1, .slice a2 rules.length c2, .slice a3 exprs.length c3] p)) → Below p.heap.size p q → ((q.cell? ⟨w.heap.size, 0, none⟩ = some (.int .i64 kind) ∧ q.cell? ⟨w.heap.size, 1, none⟩ = some (.string name) ∧ q.cell? ⟨w.heap.size, 2, none⟩ = some (.string on) ∧ q.cell? ⟨w.heap.size, 3, none⟩ = some (.slice a0 list.length c0) ∧ q.cell? ⟨w.heap.size, 4, none⟩ = some (.int .i64 num) ∧ q.cell? ⟨w.heap.size, 5, none⟩ = some (.bool flag) ∧ q.cell? ⟨w.heap.size, 6, none⟩ = some (.int .i64 ty.kind) ∧ q.cell? ⟨w.heap.size, 7, none⟩ = some (.int .i64 ty.len) ∧ q.cell? ⟨w.heap.size, 8, none⟩ = some (.string ty.name) ∧ q.cell? ⟨w.heap.size, 9, none⟩ = some (.slice a1 cols.length c1) ∧ q.cell? ⟨w.heap.size, 10, none⟩ = some (.slice a2 rules.length c2) ∧ q.cell? ⟨w.heap.size, 11, none⟩ = some (.slice a3 exprs.length c3)) ∧ Hid (BoxV w [.int .i64 kind, .string name, .string on, .slice a0 list.length c0, .int .i64 num, .bool flag, .int .i64 ty.kind, .int .i64 ty.len, .string ty.name, .slice a1 cols.length c1, .slice a2 rules.length c2, .slice a3 exprs.length c3] q))) := fun p q h hb => by
    have T := h.2.out.call hb
    exact ⟨⟨(T.1.2 0 (by simp)).1, (T.1.2 1 (by simp)).1, (T.1.2 2 (by simp)).1, (T.1.2 3 (by simp)).1, (T.1.2 4 (by simp)).1, (T.1.2 5 (by simp)).1, (T.1.2 6 (by simp)).1, (T.1.2 7 (by simp)).1, (T.1.2 8 (by simp)).1, (T.1.2 9 (by simp)).1, (T.1.2 10 (by simp)).1, (T.1.2 11 (by simp)).1⟩, T⟩
  have D0 := Lib.hid ((B1.out).call (below_drewE (Below.refl _ _)))
  have D1 := Lib.hid (B1.out)
  go_region_held3 (fun w' => (w'.cell? ⟨w.heap.size, 0, none⟩ = some (.int .i64 kind) ∧ w'.cell? ⟨w.heap.size, 1, none⟩ = some (.string name) ∧ w'.cell? ⟨w.heap.size, 2, none⟩ = some (.string on) ∧ w'.cell? ⟨w.heap.size, 3, none⟩ = some (.slice a0 list.length c0) ∧ w'.cell? ⟨w.heap.size, 4, none⟩ = some (.int .i64 num) ∧ w'.cell? ⟨w.heap.size, 5, none⟩ = some (.bool flag) ∧ w'.cell? ⟨w.heap.size, 6, none⟩ = some (.int .i64 ty.kind) ∧ w'.cell? ⟨w.heap.size, 7, none⟩ = some (.int .i64 ty.len) ∧ w'.cell? ⟨w.heap.size, 8, none⟩ = some (.string ty.name) ∧ w'.cell? ⟨w.heap.size, 9, none⟩ = some (.slice a1 cols.length c1) ∧ w'.cell? ⟨w.heap.size, 10, none⟩ = some (.slice a2 rules.length c2) ∧ w'.cell? ⟨w.heap.size, 11, none⟩ = some (.slice a3 exprs.length c3)) ∧ Hid (BoxV w [.int .i64 kind, .string name, .string on, .slice a0 list.length c0, .int .i64 num, .bool flag, .int .i64 ty.kind, .int .i64 ty.len, .string ty.name, .slice a1 cols.length c1, .slice a2 rules.length c2, .slice a3 exprs.length c3] w')) (first | assumption | exact ⟨⟨(D0.out.1.2 0 (by simp)).1, (D0.out.1.2 1 (by simp)).1, (D0.out.1.2 2 (by simp)).1, (D0.out.1.2 3 (by simp)).1, (D0.out.1.2 4 (by simp)).1, (D0.out.1.2 5 (by simp)).1, (D0.out.1.2 6 (by simp)).1, (D0.out.1.2 7 (by simp)).1, (D0.out.1.2 8 (by simp)).1, (D0.out.1.2 9 (by simp)).1, (D0.out.1.2 10 (by simp)).1, (D0.out.1.2 11 (by simp)).1⟩, D0.out⟩ | exact ⟨⟨(D1.out.1.2 0 (by simp)).1, (D1.out.1.2 1 (by simp)).1, (D1.out.1.2 2 (by simp)).1, (D1.out.1.2 3 (by simp)).1, (D1.out.1.2 4 (by simp)).1, (D1.out.1.2 5 (by simp)).1, (D1.out.1.2 6 (by simp)).1, (D1.out.1.2 7 (by simp)).1, (D1.out.1.2 8 (by simp)).1, (D1.out.1.2 9 (by simp)).1, (D1.out.1.2 10 (by simp)).1, (D1.out.1.2 11 (by simp)).1⟩, D1.out⟩ | exact hst.out _ _ (by assumption) ((Below.refl _ _).alloc (Nat.le_refl _) _))
    (first
      | (go_at_call 55; refine (implStmtWriters _).mono ?_; rintro e wa ⟨rfl, ba⟩; have h1 := hst.out _ _ (by assumption) ba)
      | (go_at_call 95; refine (HPH.out _ h1.2.out.2).mono ?_; rintro e wb ⟨pa, pc, rfl, hpa, bb⟩; have h2 := hst.out _ _ h1 bb; have HS2 := Lib.hid hpa)
      | (go_at_call 34; refine (phraseText pa pc Q _ HS2.out hJ r HR.out).mono ?_; rintro e wc ⟨rfl, bc⟩; have h3 := hst.out _ _ h2 bc))
  go_wp2_with fail
  go_ret
  exact ⟨rfl, h3.2.out.2⟩

set_option maxRecDepth 100000 in
set_option maxHeartbeats 4000000 in
theorem implPut_tablePhrase (kind : Int) (name on : ByteArray) (list : List ByteArray) (num : Int) (flag : Bool) (ty : Ty) (cols : List Co) (rules : List Ru) (exprs : List Ex) (a0 a1 a2 a3 : Option Addr) (c0 c1 c2 c3 : Nat) (w : World) (hin : 0 ≤ kind ∧ kind ≤ 16) (hat : ∀ W, (Instr.index 93 (.agg writersV) (.int .i64 kind)).run Tryz.prog W = .ok (.func (.func 96) #[] #[]) W)
    (HOK : Hid (∀ W, Below w.heap.size w W → Calls Tryz.prog 54 #[.agg #[.int .i64 kind, .string name, .string on, .slice a0 list.length c0, .int .i64 num, .bool flag, .int .i64 ty.kind, .int .i64 ty.len, .string ty.name, .slice a1 cols.length c1, .slice a2 rules.length c2, .slice a3 exprs.length c3]] W fun e w' => e = .returned (.bool true) ∧ Below W.heap.size W w'))
    (Q : List ByteArray) (HPH : Hid (∀ W, Below w.heap.size w W → Calls Tryz.prog 96 #[.agg #[.int .i64 kind, .string name, .string on, .slice a0 list.length c0, .int .i64 num, .bool flag, .int .i64 ty.kind, .int .i64 ty.len, .string ty.name, .slice a1 cols.length c1, .slice a2 rules.length c2, .slice a3 exprs.length c3]] W fun e w' => ∃ a c, e = .returned (.slice a Q.length c) ∧ Strs w' a c Q ∧ Below W.heap.size W w'))
    (hJ : lets Q + Q.length ≤ 1073741824) (r : ByteArray) (hr : joinT Q (txt [32]) = r) :
    Calls Tryz.prog 19 #[.agg #[.int .i64 kind, .string name, .string on, .slice a0 list.length c0, .int .i64 num, .bool flag, .int .i64 ty.kind, .int .i64 ty.len, .string ty.name, .slice a1 cols.length c1, .slice a2 rules.length c2, .slice a3 exprs.length c3]] w fun e w' => e = .returned (.string r) ∧ Below w.heap.size w w' := by
  have HB := Lib.hid (boxV_new w [.int .i64 kind, .string name, .string on, .slice a0 list.length c0, .int .i64 num, .bool flag, .int .i64 ty.kind, .int .i64 ty.len, .string ty.name, .slice a1 cols.length c1, .slice a2 rules.length c2, .slice a3 exprs.length c3] 55)
  have HR := Lib.hid hr
  have hk0 : 0 ≤ kind := hin.1
  have hk1 : kind < 17 := by omega
  have hk2 : kind ≤ 16 := hin.2
  clear hr hin
  go_enter Tryz.func19, Tryz.ntmps19
  go_wp2_with fail
  generalize w.alloc (.cells #[.int .i64 kind, .string name, .string on, .slice a0 list.length c0, .int .i64 num, .bool flag, .int .i64 ty.kind, .int .i64 ty.len, .string ty.name, .slice a1 cols.length c1, .slice a2 rules.length c2, .slice a3 exprs.length c3] 55) = W0 at HB ⊢
  have g0 : W0.cell? ⟨w.heap.size, 0, none⟩ = some (.int .i64 kind) := (HB.out.1.2 0 (by simp)).1
  have g1 : W0.cell? ⟨w.heap.size, 1, none⟩ = some (.string name) := (HB.out.1.2 1 (by simp)).1
  have g2 : W0.cell? ⟨w.heap.size, 2, none⟩ = some (.string on) := (HB.out.1.2 2 (by simp)).1
  have g3 : W0.cell? ⟨w.heap.size, 3, none⟩ = some (.slice a0 list.length c0) := (HB.out.1.2 3 (by simp)).1
  have g4 : W0.cell? ⟨w.heap.size, 4, none⟩ = some (.int .i64 num) := (HB.out.1.2 4 (by simp)).1
  have g5 : W0.cell? ⟨w.heap.size, 5, none⟩ = some (.bool flag) := (HB.out.1.2 5 (by simp)).1
  have g6 : W0.cell? ⟨w.heap.size, 6, none⟩ = some (.int .i64 ty.kind) := (HB.out.1.2 6 (by simp)).1
  have g7 : W0.cell? ⟨w.heap.size, 7, none⟩ = some (.int .i64 ty.len) := (HB.out.1.2 7 (by simp)).1
  have g8 : W0.cell? ⟨w.heap.size, 8, none⟩ = some (.string ty.name) := (HB.out.1.2 8 (by simp)).1
  have g9 : W0.cell? ⟨w.heap.size, 9, none⟩ = some (.slice a1 cols.length c1) := (HB.out.1.2 9 (by simp)).1
  have g10 : W0.cell? ⟨w.heap.size, 10, none⟩ = some (.slice a2 rules.length c2) := (HB.out.1.2 10 (by simp)).1
  have g11 : W0.cell? ⟨w.heap.size, 11, none⟩ = some (.slice a3 exprs.length c3) := (HB.out.1.2 11 (by simp)).1
  refine (HOK.out _ HB.out.2).mono ?_
  rintro e w1 ⟨rfl, b1⟩
  have B1 := Lib.hid (HB.out.call b1)
  clear b1 g0 g1 g2 g3 g4 g5 g6 g7 g8 g9 g10 g11
  have g0 : w1.cell? ⟨w.heap.size, 0, none⟩ = some (.int .i64 kind) := (B1.out.1.2 0 (by simp)).1
  have g1 : w1.cell? ⟨w.heap.size, 1, none⟩ = some (.string name) := (B1.out.1.2 1 (by simp)).1
  have g2 : w1.cell? ⟨w.heap.size, 2, none⟩ = some (.string on) := (B1.out.1.2 2 (by simp)).1
  have g3 : w1.cell? ⟨w.heap.size, 3, none⟩ = some (.slice a0 list.length c0) := (B1.out.1.2 3 (by simp)).1
  have g4 : w1.cell? ⟨w.heap.size, 4, none⟩ = some (.int .i64 num) := (B1.out.1.2 4 (by simp)).1
  have g5 : w1.cell? ⟨w.heap.size, 5, none⟩ = some (.bool flag) := (B1.out.1.2 5 (by simp)).1
  have g6 : w1.cell? ⟨w.heap.size, 6, none⟩ = some (.int .i64 ty.kind) := (B1.out.1.2 6 (by simp)).1
  have g7 : w1.cell? ⟨w.heap.size, 7, none⟩ = some (.int .i64 ty.len) := (B1.out.1.2 7 (by simp)).1
  have g8 : w1.cell? ⟨w.heap.size, 8, none⟩ = some (.string ty.name) := (B1.out.1.2 8 (by simp)).1
  have g9 : w1.cell? ⟨w.heap.size, 9, none⟩ = some (.slice a1 cols.length c1) := (B1.out.1.2 9 (by simp)).1
  have g10 : w1.cell? ⟨w.heap.size, 10, none⟩ = some (.slice a2 rules.length c2) := (B1.out.1.2 10 (by simp)).1
  have g11 : w1.cell? ⟨w.heap.size, 11, none⟩ = some (.slice a3 exprs.length c3) := (B1.out.1.2 11 (by simp)).1
  go_wp2_with fail
  have hst : Hid (∀ p q : World, ((p.cell? ⟨w.heap.size, 0, none⟩ = some (.int .i64 kind) ∧ p.cell? ⟨w.heap.size, 1, none⟩ = some (.string name) ∧ p.cell? ⟨w.heap.size, 2, none⟩ = some (.string on) ∧ p.cell? ⟨w.heap.size, 3, none⟩ = some (.slice a0 list.length c0) ∧ p.cell? ⟨w.heap.size, 4, none⟩ = some (.int .i64 num) ∧ p.cell? ⟨w.heap.size, 5, none⟩ = some (.bool flag) ∧ p.cell? ⟨w.heap.size, 6, none⟩ = some (.int .i64 ty.kind) ∧ p.cell? ⟨w.heap.size, 7, none⟩ = some (.int .i64 ty.len) ∧ p.cell? ⟨w.heap.size, 8, none⟩ = some (.string ty.name) ∧ p.cell? ⟨w.heap.size, 9, none⟩ = some (.slice a1 cols.length c1) ∧ p.cell? ⟨w.heap.size, 10, none⟩ = some (.slice a2 rules.length c2) ∧ p.cell? ⟨w.heap.size, 11, none⟩ = some (.slice a3 exprs.length c3)) ∧ Hid (BoxV w [.int .i64 kind, .string name, .string on, .slice a0 list.length c0, .int .i64 num, .bool flag, .int .i64 ty.kind, .int .i64 ty.len, .string ty.name, .slice a1 cols.length c1, .slice a2 rules.length c2, .slice a3 exprs.length c3] p)) → Below p.heap.size p q → ((q.cell? ⟨w.heap.size, 0, none⟩ = some (.int .i64 kind) ∧ q.cell? ⟨w.heap.size, 1, none⟩ = some (.string name) ∧ q.cell? ⟨w.heap.size, 2, none⟩ = some (.string on) ∧ q.cell? ⟨w.heap.size, 3, none⟩ = some (.slice a0 list.length c0) ∧ q.cell? ⟨w.heap.size, 4, none⟩ = some (.int .i64 num) ∧ q.cell? ⟨w.heap.size, 5, none⟩ = some (.bool flag) ∧ q.cell? ⟨w.heap.size, 6, none⟩ = some (.int .i64 ty.kind) ∧ q.cell? ⟨w.heap.size, 7, none⟩ = some (.int .i64 ty.len) ∧ q.cell? ⟨w.heap.size, 8, none⟩ = some (.string ty.name) ∧ q.cell? ⟨w.heap.size, 9, none⟩ = some (.slice a1 cols.length c1) ∧ q.cell? ⟨w.heap.size, 10, none⟩ = some (.slice a2 rules.length c2) ∧ q.cell? ⟨w.heap.size, 11, none⟩ = some (.slice a3 exprs.length c3)) ∧ Hid (BoxV w [.int .i64 kind, .string name, .string on, .slice a0 list.length c0, .int .i64 num, .bool flag, .int .i64 ty.kind, .int .i64 ty.len, .string ty.name, .slice a1 cols.length c1, .slice a2 rules.length c2, .slice a3 exprs.length c3] q))) := fun p q h hb => by
    have T := h.2.out.call hb
    exact ⟨⟨(T.1.2 0 (by simp)).1, (T.1.2 1 (by simp)).1, (T.1.2 2 (by simp)).1, (T.1.2 3 (by simp)).1, (T.1.2 4 (by simp)).1, (T.1.2 5 (by simp)).1, (T.1.2 6 (by simp)).1, (T.1.2 7 (by simp)).1, (T.1.2 8 (by simp)).1, (T.1.2 9 (by simp)).1, (T.1.2 10 (by simp)).1, (T.1.2 11 (by simp)).1⟩, T⟩
  have D0 := Lib.hid ((B1.out).call (below_drewE (Below.refl _ _)))
  have D1 := Lib.hid (B1.out)
  go_region_held3 (fun w' => (w'.cell? ⟨w.heap.size, 0, none⟩ = some (.int .i64 kind) ∧ w'.cell? ⟨w.heap.size, 1, none⟩ = some (.string name) ∧ w'.cell? ⟨w.heap.size, 2, none⟩ = some (.string on) ∧ w'.cell? ⟨w.heap.size, 3, none⟩ = some (.slice a0 list.length c0) ∧ w'.cell? ⟨w.heap.size, 4, none⟩ = some (.int .i64 num) ∧ w'.cell? ⟨w.heap.size, 5, none⟩ = some (.bool flag) ∧ w'.cell? ⟨w.heap.size, 6, none⟩ = some (.int .i64 ty.kind) ∧ w'.cell? ⟨w.heap.size, 7, none⟩ = some (.int .i64 ty.len) ∧ w'.cell? ⟨w.heap.size, 8, none⟩ = some (.string ty.name) ∧ w'.cell? ⟨w.heap.size, 9, none⟩ = some (.slice a1 cols.length c1) ∧ w'.cell? ⟨w.heap.size, 10, none⟩ = some (.slice a2 rules.length c2) ∧ w'.cell? ⟨w.heap.size, 11, none⟩ = some (.slice a3 exprs.length c3)) ∧ Hid (BoxV w [.int .i64 kind, .string name, .string on, .slice a0 list.length c0, .int .i64 num, .bool flag, .int .i64 ty.kind, .int .i64 ty.len, .string ty.name, .slice a1 cols.length c1, .slice a2 rules.length c2, .slice a3 exprs.length c3] w')) (first | assumption | exact ⟨⟨(D0.out.1.2 0 (by simp)).1, (D0.out.1.2 1 (by simp)).1, (D0.out.1.2 2 (by simp)).1, (D0.out.1.2 3 (by simp)).1, (D0.out.1.2 4 (by simp)).1, (D0.out.1.2 5 (by simp)).1, (D0.out.1.2 6 (by simp)).1, (D0.out.1.2 7 (by simp)).1, (D0.out.1.2 8 (by simp)).1, (D0.out.1.2 9 (by simp)).1, (D0.out.1.2 10 (by simp)).1, (D0.out.1.2 11 (by simp)).1⟩, D0.out⟩ | exact ⟨⟨(D1.out.1.2 0 (by simp)).1, (D1.out.1.2 1 (by simp)).1, (D1.out.1.2 2 (by simp)).1, (D1.out.1.2 3 (by simp)).1, (D1.out.1.2 4 (by simp)).1, (D1.out.1.2 5 (by simp)).1, (D1.out.1.2 6 (by simp)).1, (D1.out.1.2 7 (by simp)).1, (D1.out.1.2 8 (by simp)).1, (D1.out.1.2 9 (by simp)).1, (D1.out.1.2 10 (by simp)).1, (D1.out.1.2 11 (by simp)).1⟩, D1.out⟩ | exact hst.out _ _ (by assumption) ((Below.refl _ _).alloc (Nat.le_refl _) _))
    (first
      | (go_at_call 55; refine (implStmtWriters _).mono ?_; rintro e wa ⟨rfl, ba⟩; have h1 := hst.out _ _ (by assumption) ba)
      | (go_at_call 96; refine (HPH.out _ h1.2.out.2).mono ?_; rintro e wb ⟨pa, pc, rfl, hpa, bb⟩; have h2 := hst.out _ _ h1 bb; have HS2 := Lib.hid hpa)
      | (go_at_call 34; refine (phraseText pa pc Q _ HS2.out hJ r HR.out).mono ?_; rintro e wc ⟨rfl, bc⟩; have h3 := hst.out _ _ h2 bc))
  go_wp2_with fail
  go_ret
  exact ⟨rfl, h3.2.out.2⟩

set_option maxRecDepth 100000 in
set_option maxHeartbeats 4000000 in
theorem implPut_addColPhrase (kind : Int) (name on : ByteArray) (list : List ByteArray) (num : Int) (flag : Bool) (ty : Ty) (cols : List Co) (rules : List Ru) (exprs : List Ex) (a0 a1 a2 a3 : Option Addr) (c0 c1 c2 c3 : Nat) (w : World) (hin : 0 ≤ kind ∧ kind ≤ 16) (hat : ∀ W, (Instr.index 93 (.agg writersV) (.int .i64 kind)).run Tryz.prog W = .ok (.func (.func 97) #[] #[]) W)
    (HOK : Hid (∀ W, Below w.heap.size w W → Calls Tryz.prog 54 #[.agg #[.int .i64 kind, .string name, .string on, .slice a0 list.length c0, .int .i64 num, .bool flag, .int .i64 ty.kind, .int .i64 ty.len, .string ty.name, .slice a1 cols.length c1, .slice a2 rules.length c2, .slice a3 exprs.length c3]] W fun e w' => e = .returned (.bool true) ∧ Below W.heap.size W w'))
    (Q : List ByteArray) (HPH : Hid (∀ W, Below w.heap.size w W → Calls Tryz.prog 97 #[.agg #[.int .i64 kind, .string name, .string on, .slice a0 list.length c0, .int .i64 num, .bool flag, .int .i64 ty.kind, .int .i64 ty.len, .string ty.name, .slice a1 cols.length c1, .slice a2 rules.length c2, .slice a3 exprs.length c3]] W fun e w' => ∃ a c, e = .returned (.slice a Q.length c) ∧ Strs w' a c Q ∧ Below W.heap.size W w'))
    (hJ : lets Q + Q.length ≤ 1073741824) (r : ByteArray) (hr : joinT Q (txt [32]) = r) :
    Calls Tryz.prog 19 #[.agg #[.int .i64 kind, .string name, .string on, .slice a0 list.length c0, .int .i64 num, .bool flag, .int .i64 ty.kind, .int .i64 ty.len, .string ty.name, .slice a1 cols.length c1, .slice a2 rules.length c2, .slice a3 exprs.length c3]] w fun e w' => e = .returned (.string r) ∧ Below w.heap.size w w' := by
  have HB := Lib.hid (boxV_new w [.int .i64 kind, .string name, .string on, .slice a0 list.length c0, .int .i64 num, .bool flag, .int .i64 ty.kind, .int .i64 ty.len, .string ty.name, .slice a1 cols.length c1, .slice a2 rules.length c2, .slice a3 exprs.length c3] 55)
  have HR := Lib.hid hr
  have hk0 : 0 ≤ kind := hin.1
  have hk1 : kind < 17 := by omega
  have hk2 : kind ≤ 16 := hin.2
  clear hr hin
  go_enter Tryz.func19, Tryz.ntmps19
  go_wp2_with fail
  generalize w.alloc (.cells #[.int .i64 kind, .string name, .string on, .slice a0 list.length c0, .int .i64 num, .bool flag, .int .i64 ty.kind, .int .i64 ty.len, .string ty.name, .slice a1 cols.length c1, .slice a2 rules.length c2, .slice a3 exprs.length c3] 55) = W0 at HB ⊢
  have g0 : W0.cell? ⟨w.heap.size, 0, none⟩ = some (.int .i64 kind) := (HB.out.1.2 0 (by simp)).1
  have g1 : W0.cell? ⟨w.heap.size, 1, none⟩ = some (.string name) := (HB.out.1.2 1 (by simp)).1
  have g2 : W0.cell? ⟨w.heap.size, 2, none⟩ = some (.string on) := (HB.out.1.2 2 (by simp)).1
  have g3 : W0.cell? ⟨w.heap.size, 3, none⟩ = some (.slice a0 list.length c0) := (HB.out.1.2 3 (by simp)).1
  have g4 : W0.cell? ⟨w.heap.size, 4, none⟩ = some (.int .i64 num) := (HB.out.1.2 4 (by simp)).1
  have g5 : W0.cell? ⟨w.heap.size, 5, none⟩ = some (.bool flag) := (HB.out.1.2 5 (by simp)).1
  have g6 : W0.cell? ⟨w.heap.size, 6, none⟩ = some (.int .i64 ty.kind) := (HB.out.1.2 6 (by simp)).1
  have g7 : W0.cell? ⟨w.heap.size, 7, none⟩ = some (.int .i64 ty.len) := (HB.out.1.2 7 (by simp)).1
  have g8 : W0.cell? ⟨w.heap.size, 8, none⟩ = some (.string ty.name) := (HB.out.1.2 8 (by simp)).1
  have g9 : W0.cell? ⟨w.heap.size, 9, none⟩ = some (.slice a1 cols.length c1) := (HB.out.1.2 9 (by simp)).1
  have g10 : W0.cell? ⟨w.heap.size, 10, none⟩ = some (.slice a2 rules.length c2) := (HB.out.1.2 10 (by simp)).1
  have g11 : W0.cell? ⟨w.heap.size, 11, none⟩ = some (.slice a3 exprs.length c3) := (HB.out.1.2 11 (by simp)).1
  refine (HOK.out _ HB.out.2).mono ?_
  rintro e w1 ⟨rfl, b1⟩
  have B1 := Lib.hid (HB.out.call b1)
  clear b1 g0 g1 g2 g3 g4 g5 g6 g7 g8 g9 g10 g11
  have g0 : w1.cell? ⟨w.heap.size, 0, none⟩ = some (.int .i64 kind) := (B1.out.1.2 0 (by simp)).1
  have g1 : w1.cell? ⟨w.heap.size, 1, none⟩ = some (.string name) := (B1.out.1.2 1 (by simp)).1
  have g2 : w1.cell? ⟨w.heap.size, 2, none⟩ = some (.string on) := (B1.out.1.2 2 (by simp)).1
  have g3 : w1.cell? ⟨w.heap.size, 3, none⟩ = some (.slice a0 list.length c0) := (B1.out.1.2 3 (by simp)).1
  have g4 : w1.cell? ⟨w.heap.size, 4, none⟩ = some (.int .i64 num) := (B1.out.1.2 4 (by simp)).1
  have g5 : w1.cell? ⟨w.heap.size, 5, none⟩ = some (.bool flag) := (B1.out.1.2 5 (by simp)).1
  have g6 : w1.cell? ⟨w.heap.size, 6, none⟩ = some (.int .i64 ty.kind) := (B1.out.1.2 6 (by simp)).1
  have g7 : w1.cell? ⟨w.heap.size, 7, none⟩ = some (.int .i64 ty.len) := (B1.out.1.2 7 (by simp)).1
  have g8 : w1.cell? ⟨w.heap.size, 8, none⟩ = some (.string ty.name) := (B1.out.1.2 8 (by simp)).1
  have g9 : w1.cell? ⟨w.heap.size, 9, none⟩ = some (.slice a1 cols.length c1) := (B1.out.1.2 9 (by simp)).1
  have g10 : w1.cell? ⟨w.heap.size, 10, none⟩ = some (.slice a2 rules.length c2) := (B1.out.1.2 10 (by simp)).1
  have g11 : w1.cell? ⟨w.heap.size, 11, none⟩ = some (.slice a3 exprs.length c3) := (B1.out.1.2 11 (by simp)).1
  go_wp2_with fail
  have hst : Hid (∀ p q : World, ((p.cell? ⟨w.heap.size, 0, none⟩ = some (.int .i64 kind) ∧ p.cell? ⟨w.heap.size, 1, none⟩ = some (.string name) ∧ p.cell? ⟨w.heap.size, 2, none⟩ = some (.string on) ∧ p.cell? ⟨w.heap.size, 3, none⟩ = some (.slice a0 list.length c0) ∧ p.cell? ⟨w.heap.size, 4, none⟩ = some (.int .i64 num) ∧ p.cell? ⟨w.heap.size, 5, none⟩ = some (.bool flag) ∧ p.cell? ⟨w.heap.size, 6, none⟩ = some (.int .i64 ty.kind) ∧ p.cell? ⟨w.heap.size, 7, none⟩ = some (.int .i64 ty.len) ∧ p.cell? ⟨w.heap.size, 8, none⟩ = some (.string ty.name) ∧ p.cell? ⟨w.heap.size, 9, none⟩ = some (.slice a1 cols.length c1) ∧ p.cell? ⟨w.heap.size, 10, none⟩ = some (.slice a2 rules.length c2) ∧ p.cell? ⟨w.heap.size, 11, none⟩ = some (.slice a3 exprs.length c3)) ∧ Hid (BoxV w [.int .i64 kind, .string name, .string on, .slice a0 list.length c0, .int .i64 num, .bool flag, .int .i64 ty.kind, .int .i64 ty.len, .string ty.name, .slice a1 cols.length c1, .slice a2 rules.length c2, .slice a3 exprs.length c3] p)) → Below p.heap.size p q → ((q.cell? ⟨w.heap.size, 0, none⟩ = some (.int .i64 kind) ∧ q.cell? ⟨w.heap.size, 1, none⟩ = some (.string name) ∧ q.cell? ⟨w.heap.size, 2, none⟩ = some (.string on) ∧ q.cell? ⟨w.heap.size, 3, none⟩ = some (.slice a0 list.length c0) ∧ q.cell? ⟨w.heap.size, 4, none⟩ = some (.int .i64 num) ∧ q.cell? ⟨w.heap.size, 5, none⟩ = some (.bool flag) ∧ q.cell? ⟨w.heap.size, 6, none⟩ = some (.int .i64 ty.kind) ∧ q.cell? ⟨w.heap.size, 7, none⟩ = some (.int .i64 ty.len) ∧ q.cell? ⟨w.heap.size, 8, none⟩ = some (.string ty.name) ∧ q.cell? ⟨w.heap.size, 9, none⟩ = some (.slice a1 cols.length c1) ∧ q.cell? ⟨w.heap.size, 10, none⟩ = some (.slice a2 rules.length c2) ∧ q.cell? ⟨w.heap.size, 11, none⟩ = some (.slice a3 exprs.length c3)) ∧ Hid (BoxV w [.int .i64 kind, .string name, .string on, .slice a0 list.length c0, .int .i64 num, .bool flag, .int .i64 ty.kind, .int .i64 ty.len, .string ty.name, .slice a1 cols.length c1, .slice a2 rules.length c2, .slice a3 exprs.length c3] q))) := fun p q h hb => by
    have T := h.2.out.call hb
    exact ⟨⟨(T.1.2 0 (by simp)).1, (T.1.2 1 (by simp)).1, (T.1.2 2 (by simp)).1, (T.1.2 3 (by simp)).1, (T.1.2 4 (by simp)).1, (T.1.2 5 (by simp)).1, (T.1.2 6 (by simp)).1, (T.1.2 7 (by simp)).1, (T.1.2 8 (by simp)).1, (T.1.2 9 (by simp)).1, (T.1.2 10 (by simp)).1, (T.1.2 11 (by simp)).1⟩, T⟩
  have D0 := Lib.hid ((B1.out).call (below_drewE (Below.refl _ _)))
  have D1 := Lib.hid (B1.out)
  go_region_held3 (fun w' => (w'.cell? ⟨w.heap.size, 0, none⟩ = some (.int .i64 kind) ∧ w'.cell? ⟨w.heap.size, 1, none⟩ = some (.string name) ∧ w'.cell? ⟨w.heap.size, 2, none⟩ = some (.string on) ∧ w'.cell? ⟨w.heap.size, 3, none⟩ = some (.slice a0 list.length c0) ∧ w'.cell? ⟨w.heap.size, 4, none⟩ = some (.int .i64 num) ∧ w'.cell? ⟨w.heap.size, 5, none⟩ = some (.bool flag) ∧ w'.cell? ⟨w.heap.size, 6, none⟩ = some (.int .i64 ty.kind) ∧ w'.cell? ⟨w.heap.size, 7, none⟩ = some (.int .i64 ty.len) ∧ w'.cell? ⟨w.heap.size, 8, none⟩ = some (.string ty.name) ∧ w'.cell? ⟨w.heap.size, 9, none⟩ = some (.slice a1 cols.length c1) ∧ w'.cell? ⟨w.heap.size, 10, none⟩ = some (.slice a2 rules.length c2) ∧ w'.cell? ⟨w.heap.size, 11, none⟩ = some (.slice a3 exprs.length c3)) ∧ Hid (BoxV w [.int .i64 kind, .string name, .string on, .slice a0 list.length c0, .int .i64 num, .bool flag, .int .i64 ty.kind, .int .i64 ty.len, .string ty.name, .slice a1 cols.length c1, .slice a2 rules.length c2, .slice a3 exprs.length c3] w')) (first | assumption | exact ⟨⟨(D0.out.1.2 0 (by simp)).1, (D0.out.1.2 1 (by simp)).1, (D0.out.1.2 2 (by simp)).1, (D0.out.1.2 3 (by simp)).1, (D0.out.1.2 4 (by simp)).1, (D0.out.1.2 5 (by simp)).1, (D0.out.1.2 6 (by simp)).1, (D0.out.1.2 7 (by simp)).1, (D0.out.1.2 8 (by simp)).1, (D0.out.1.2 9 (by simp)).1, (D0.out.1.2 10 (by simp)).1, (D0.out.1.2 11 (by simp)).1⟩, D0.out⟩ | exact ⟨⟨(D1.out.1.2 0 (by simp)).1, (D1.out.1.2 1 (by simp)).1, (D1.out.1.2 2 (by simp)).1, (D1.out.1.2 3 (by simp)).1, (D1.out.1.2 4 (by simp)).1, (D1.out.1.2 5 (by simp)).1, (D1.out.1.2 6 (by simp)).1, (D1.out.1.2 7 (by simp)).1, (D1.out.1.2 8 (by simp)).1, (D1.out.1.2 9 (by simp)).1, (D1.out.1.2 10 (by simp)).1, (D1.out.1.2 11 (by simp)).1⟩, D1.out⟩ | exact hst.out _ _ (by assumption) ((Below.refl _ _).alloc (Nat.le_refl _) _))
    (first
      | (go_at_call 55; refine (implStmtWriters _).mono ?_; rintro e wa ⟨rfl, ba⟩; have h1 := hst.out _ _ (by assumption) ba)
      | (go_at_call 97; refine (HPH.out _ h1.2.out.2).mono ?_; rintro e wb ⟨pa, pc, rfl, hpa, bb⟩; have h2 := hst.out _ _ h1 bb; have HS2 := Lib.hid hpa)
      | (go_at_call 34; refine (phraseText pa pc Q _ HS2.out hJ r HR.out).mono ?_; rintro e wc ⟨rfl, bc⟩; have h3 := hst.out _ _ h2 bc))
  go_wp2_with fail
  go_ret
  exact ⟨rfl, h3.2.out.2⟩

set_option maxRecDepth 100000 in
set_option maxHeartbeats 4000000 in
theorem implPut_dropColPhrase (kind : Int) (name on : ByteArray) (list : List ByteArray) (num : Int) (flag : Bool) (ty : Ty) (cols : List Co) (rules : List Ru) (exprs : List Ex) (a0 a1 a2 a3 : Option Addr) (c0 c1 c2 c3 : Nat) (w : World) (hin : 0 ≤ kind ∧ kind ≤ 16) (hat : ∀ W, (Instr.index 93 (.agg writersV) (.int .i64 kind)).run Tryz.prog W = .ok (.func (.func 98) #[] #[]) W)
    (HOK : Hid (∀ W, Below w.heap.size w W → Calls Tryz.prog 54 #[.agg #[.int .i64 kind, .string name, .string on, .slice a0 list.length c0, .int .i64 num, .bool flag, .int .i64 ty.kind, .int .i64 ty.len, .string ty.name, .slice a1 cols.length c1, .slice a2 rules.length c2, .slice a3 exprs.length c3]] W fun e w' => e = .returned (.bool true) ∧ Below W.heap.size W w'))
    (Q : List ByteArray) (HPH : Hid (∀ W, Below w.heap.size w W → Calls Tryz.prog 98 #[.agg #[.int .i64 kind, .string name, .string on, .slice a0 list.length c0, .int .i64 num, .bool flag, .int .i64 ty.kind, .int .i64 ty.len, .string ty.name, .slice a1 cols.length c1, .slice a2 rules.length c2, .slice a3 exprs.length c3]] W fun e w' => ∃ a c, e = .returned (.slice a Q.length c) ∧ Strs w' a c Q ∧ Below W.heap.size W w'))
    (hJ : lets Q + Q.length ≤ 1073741824) (r : ByteArray) (hr : joinT Q (txt [32]) = r) :
    Calls Tryz.prog 19 #[.agg #[.int .i64 kind, .string name, .string on, .slice a0 list.length c0, .int .i64 num, .bool flag, .int .i64 ty.kind, .int .i64 ty.len, .string ty.name, .slice a1 cols.length c1, .slice a2 rules.length c2, .slice a3 exprs.length c3]] w fun e w' => e = .returned (.string r) ∧ Below w.heap.size w w' := by
  have HB := Lib.hid (boxV_new w [.int .i64 kind, .string name, .string on, .slice a0 list.length c0, .int .i64 num, .bool flag, .int .i64 ty.kind, .int .i64 ty.len, .string ty.name, .slice a1 cols.length c1, .slice a2 rules.length c2, .slice a3 exprs.length c3] 55)
  have HR := Lib.hid hr
  have hk0 : 0 ≤ kind := hin.1
  have hk1 : kind < 17 := by omega
  have hk2 : kind ≤ 16 := hin.2
  clear hr hin
  go_enter Tryz.func19, Tryz.ntmps19
  go_wp2_with fail
  generalize w.alloc (.cells #[.int .i64 kind, .string name, .string on, .slice a0 list.length c0, .int .i64 num, .bool flag, .int .i64 ty.kind, .int .i64 ty.len, .string ty.name, .slice a1 cols.length c1, .slice a2 rules.length c2, .slice a3 exprs.length c3] 55) = W0 at HB ⊢
  have g0 : W0.cell? ⟨w.heap.size, 0, none⟩ = some (.int .i64 kind) := (HB.out.1.2 0 (by simp)).1
  have g1 : W0.cell? ⟨w.heap.size, 1, none⟩ = some (.string name) := (HB.out.1.2 1 (by simp)).1
  have g2 : W0.cell? ⟨w.heap.size, 2, none⟩ = some (.string on) := (HB.out.1.2 2 (by simp)).1
  have g3 : W0.cell? ⟨w.heap.size, 3, none⟩ = some (.slice a0 list.length c0) := (HB.out.1.2 3 (by simp)).1
  have g4 : W0.cell? ⟨w.heap.size, 4, none⟩ = some (.int .i64 num) := (HB.out.1.2 4 (by simp)).1
  have g5 : W0.cell? ⟨w.heap.size, 5, none⟩ = some (.bool flag) := (HB.out.1.2 5 (by simp)).1
  have g6 : W0.cell? ⟨w.heap.size, 6, none⟩ = some (.int .i64 ty.kind) := (HB.out.1.2 6 (by simp)).1
  have g7 : W0.cell? ⟨w.heap.size, 7, none⟩ = some (.int .i64 ty.len) := (HB.out.1.2 7 (by simp)).1
  have g8 : W0.cell? ⟨w.heap.size, 8, none⟩ = some (.string ty.name) := (HB.out.1.2 8 (by simp)).1
  have g9 : W0.cell? ⟨w.heap.size, 9, none⟩ = some (.slice a1 cols.length c1) := (HB.out.1.2 9 (by simp)).1
  have g10 : W0.cell? ⟨w.heap.size, 10, none⟩ = some (.slice a2 rules.length c2) := (HB.out.1.2 10 (by simp)).1
  have g11 : W0.cell? ⟨w.heap.size, 11, none⟩ = some (.slice a3 exprs.length c3) := (HB.out.1.2 11 (by simp)).1
  refine (HOK.out _ HB.out.2).mono ?_
  rintro e w1 ⟨rfl, b1⟩
  have B1 := Lib.hid (HB.out.call b1)
  clear b1 g0 g1 g2 g3 g4 g5 g6 g7 g8 g9 g10 g11
  have g0 : w1.cell? ⟨w.heap.size, 0, none⟩ = some (.int .i64 kind) := (B1.out.1.2 0 (by simp)).1
  have g1 : w1.cell? ⟨w.heap.size, 1, none⟩ = some (.string name) := (B1.out.1.2 1 (by simp)).1
  have g2 : w1.cell? ⟨w.heap.size, 2, none⟩ = some (.string on) := (B1.out.1.2 2 (by simp)).1
  have g3 : w1.cell? ⟨w.heap.size, 3, none⟩ = some (.slice a0 list.length c0) := (B1.out.1.2 3 (by simp)).1
  have g4 : w1.cell? ⟨w.heap.size, 4, none⟩ = some (.int .i64 num) := (B1.out.1.2 4 (by simp)).1
  have g5 : w1.cell? ⟨w.heap.size, 5, none⟩ = some (.bool flag) := (B1.out.1.2 5 (by simp)).1
  have g6 : w1.cell? ⟨w.heap.size, 6, none⟩ = some (.int .i64 ty.kind) := (B1.out.1.2 6 (by simp)).1
  have g7 : w1.cell? ⟨w.heap.size, 7, none⟩ = some (.int .i64 ty.len) := (B1.out.1.2 7 (by simp)).1
  have g8 : w1.cell? ⟨w.heap.size, 8, none⟩ = some (.string ty.name) := (B1.out.1.2 8 (by simp)).1
  have g9 : w1.cell? ⟨w.heap.size, 9, none⟩ = some (.slice a1 cols.length c1) := (B1.out.1.2 9 (by simp)).1
  have g10 : w1.cell? ⟨w.heap.size, 10, none⟩ = some (.slice a2 rules.length c2) := (B1.out.1.2 10 (by simp)).1
  have g11 : w1.cell? ⟨w.heap.size, 11, none⟩ = some (.slice a3 exprs.length c3) := (B1.out.1.2 11 (by simp)).1
  go_wp2_with fail
  have hst : Hid (∀ p q : World, ((p.cell? ⟨w.heap.size, 0, none⟩ = some (.int .i64 kind) ∧ p.cell? ⟨w.heap.size, 1, none⟩ = some (.string name) ∧ p.cell? ⟨w.heap.size, 2, none⟩ = some (.string on) ∧ p.cell? ⟨w.heap.size, 3, none⟩ = some (.slice a0 list.length c0) ∧ p.cell? ⟨w.heap.size, 4, none⟩ = some (.int .i64 num) ∧ p.cell? ⟨w.heap.size, 5, none⟩ = some (.bool flag) ∧ p.cell? ⟨w.heap.size, 6, none⟩ = some (.int .i64 ty.kind) ∧ p.cell? ⟨w.heap.size, 7, none⟩ = some (.int .i64 ty.len) ∧ p.cell? ⟨w.heap.size, 8, none⟩ = some (.string ty.name) ∧ p.cell? ⟨w.heap.size, 9, none⟩ = some (.slice a1 cols.length c1) ∧ p.cell? ⟨w.heap.size, 10, none⟩ = some (.slice a2 rules.length c2) ∧ p.cell? ⟨w.heap.size, 11, none⟩ = some (.slice a3 exprs.length c3)) ∧ Hid (BoxV w [.int .i64 kind, .string name, .string on, .slice a0 list.length c0, .int .i64 num, .bool flag, .int .i64 ty.kind, .int .i64 ty.len, .string ty.name, .slice a1 cols.length c1, .slice a2 rules.length c2, .slice a3 exprs.length c3] p)) → Below p.heap.size p q → ((q.cell? ⟨w.heap.size, 0, none⟩ = some (.int .i64 kind) ∧ q.cell? ⟨w.heap.size, 1, none⟩ = some (.string name) ∧ q.cell? ⟨w.heap.size, 2, none⟩ = some (.string on) ∧ q.cell? ⟨w.heap.size, 3, none⟩ = some (.slice a0 list.length c0) ∧ q.cell? ⟨w.heap.size, 4, none⟩ = some (.int .i64 num) ∧ q.cell? ⟨w.heap.size, 5, none⟩ = some (.bool flag) ∧ q.cell? ⟨w.heap.size, 6, none⟩ = some (.int .i64 ty.kind) ∧ q.cell? ⟨w.heap.size, 7, none⟩ = some (.int .i64 ty.len) ∧ q.cell? ⟨w.heap.size, 8, none⟩ = some (.string ty.name) ∧ q.cell? ⟨w.heap.size, 9, none⟩ = some (.slice a1 cols.length c1) ∧ q.cell? ⟨w.heap.size, 10, none⟩ = some (.slice a2 rules.length c2) ∧ q.cell? ⟨w.heap.size, 11, none⟩ = some (.slice a3 exprs.length c3)) ∧ Hid (BoxV w [.int .i64 kind, .string name, .string on, .slice a0 list.length c0, .int .i64 num, .bool flag, .int .i64 ty.kind, .int .i64 ty.len, .string ty.name, .slice a1 cols.length c1, .slice a2 rules.length c2, .slice a3 exprs.length c3] q))) := fun p q h hb => by
    have T := h.2.out.call hb
    exact ⟨⟨(T.1.2 0 (by simp)).1, (T.1.2 1 (by simp)).1, (T.1.2 2 (by simp)).1, (T.1.2 3 (by simp)).1, (T.1.2 4 (by simp)).1, (T.1.2 5 (by simp)).1, (T.1.2 6 (by simp)).1, (T.1.2 7 (by simp)).1, (T.1.2 8 (by simp)).1, (T.1.2 9 (by simp)).1, (T.1.2 10 (by simp)).1, (T.1.2 11 (by simp)).1⟩, T⟩
  have D0 := Lib.hid ((B1.out).call (below_drewE (Below.refl _ _)))
  have D1 := Lib.hid (B1.out)
  go_region_held3 (fun w' => (w'.cell? ⟨w.heap.size, 0, none⟩ = some (.int .i64 kind) ∧ w'.cell? ⟨w.heap.size, 1, none⟩ = some (.string name) ∧ w'.cell? ⟨w.heap.size, 2, none⟩ = some (.string on) ∧ w'.cell? ⟨w.heap.size, 3, none⟩ = some (.slice a0 list.length c0) ∧ w'.cell? ⟨w.heap.size, 4, none⟩ = some (.int .i64 num) ∧ w'.cell? ⟨w.heap.size, 5, none⟩ = some (.bool flag) ∧ w'.cell? ⟨w.heap.size, 6, none⟩ = some (.int .i64 ty.kind) ∧ w'.cell? ⟨w.heap.size, 7, none⟩ = some (.int .i64 ty.len) ∧ w'.cell? ⟨w.heap.size, 8, none⟩ = some (.string ty.name) ∧ w'.cell? ⟨w.heap.size, 9, none⟩ = some (.slice a1 cols.length c1) ∧ w'.cell? ⟨w.heap.size, 10, none⟩ = some (.slice a2 rules.length c2) ∧ w'.cell? ⟨w.heap.size, 11, none⟩ = some (.slice a3 exprs.length c3)) ∧ Hid (BoxV w [.int .i64 kind, .string name, .string on, .slice a0 list.length c0, .int .i64 num, .bool flag, .int .i64 ty.kind, .int .i64 ty.len, .string ty.name, .slice a1 cols.length c1, .slice a2 rules.length c2, .slice a3 exprs.length c3] w')) (first | assumption | exact ⟨⟨(D0.out.1.2 0 (by simp)).1, (D0.out.1.2 1 (by simp)).1, (D0.out.1.2 2 (by simp)).1, (D0.out.1.2 3 (by simp)).1, (D0.out.1.2 4 (by simp)).1, (D0.out.1.2 5 (by simp)).1, (D0.out.1.2 6 (by simp)).1, (D0.out.1.2 7 (by simp)).1, (D0.out.1.2 8 (by simp)).1, (D0.out.1.2 9 (by simp)).1, (D0.out.1.2 10 (by simp)).1, (D0.out.1.2 11 (by simp)).1⟩, D0.out⟩ | exact ⟨⟨(D1.out.1.2 0 (by simp)).1, (D1.out.1.2 1 (by simp)).1, (D1.out.1.2 2 (by simp)).1, (D1.out.1.2 3 (by simp)).1, (D1.out.1.2 4 (by simp)).1, (D1.out.1.2 5 (by simp)).1, (D1.out.1.2 6 (by simp)).1, (D1.out.1.2 7 (by simp)).1, (D1.out.1.2 8 (by simp)).1, (D1.out.1.2 9 (by simp)).1, (D1.out.1.2 10 (by simp)).1, (D1.out.1.2 11 (by simp)).1⟩, D1.out⟩ | exact hst.out _ _ (by assumption) ((Below.refl _ _).alloc (Nat.le_refl _) _))
    (first
      | (go_at_call 55; refine (implStmtWriters _).mono ?_; rintro e wa ⟨rfl, ba⟩; have h1 := hst.out _ _ (by assumption) ba)
      | (go_at_call 98; refine (HPH.out _ h1.2.out.2).mono ?_; rintro e wb ⟨pa, pc, rfl, hpa, bb⟩; have h2 := hst.out _ _ h1 bb; have HS2 := Lib.hid hpa)
      | (go_at_call 34; refine (phraseText pa pc Q _ HS2.out hJ r HR.out).mono ?_; rintro e wc ⟨rfl, bc⟩; have h3 := hst.out _ _ h2 bc))
  go_wp2_with fail
  go_ret
  exact ⟨rfl, h3.2.out.2⟩

end Go.Proofs.YtpdcmmhhgnackaaGreatDoor
