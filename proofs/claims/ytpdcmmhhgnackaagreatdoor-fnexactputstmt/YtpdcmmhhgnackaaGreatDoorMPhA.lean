/- The program's phrases: how a statement begins. Written by tools/gen_ps.py. -/
import Derived.Test.YtpdcmmhhgnackaaGreatDoorMTypeTextJ
import Derived.Test.YtpdcmmhhgnackaaGreatDoorMStFo
import Derived.Test.YtpdcmmhhgnackaaGreatDoorMPutRuI
namespace Go.Proofs.YtpdcmmhhgnackaaGreatDoor
open Go.RowKit

def startB (kind : Int) (flag : Bool) : ByteArray := if kind = 13 ∧ flag = true then (ByteArray.mk #[99, 114, 101, 97, 116, 101, 32, 117, 110, 105, 113, 117, 101, 32, 105, 110, 100, 101, 120]) else txt (sf kind).start

theorem start_small (kind : Int) (flag : Bool) (h : 0 ≤ kind ∧ kind ≤ 16) : (startB kind flag).size ≤ 30 := by
  have hc : kind = 0 ∨ kind = 1 ∨ kind = 2 ∨ kind = 3 ∨ kind = 4 ∨ kind = 5 ∨ kind = 6 ∨ kind = 7 ∨ kind = 8 ∨ kind = 9 ∨ kind = 10 ∨ kind = 11 ∨ kind = 12 ∨ kind = 13 ∨ kind = 14 ∨ kind = 15 ∨ kind = 16 := by omega
  rcases hc with rfl | rfl | rfl | rfl | rfl | rfl | rfl | rfl | rfl | rfl | rfl | rfl | rfl | rfl | rfl | rfl | rfl <;> cases flag <;> decide

set_option maxRecDepth 100000 in
set_option maxHeartbeats 4000000 in
theorem phStart (kind : Int) (name on : ByteArray) (list : List ByteArray) (num : Int) (flag : Bool) (ty : Ty) (cols : List Co) (rules : List Ru) (exprs : List Ex) (a0 a1 a2 a3 : Option Addr) (c0 c1 c2 c3 : Nat) (w : World) (hin : 0 ≤ kind ∧ kind ≤ 16) (Zn : Hid (name.size ≤ 1048576)) (N : ByteArray) (HN : Hid (nameT name = N)) (zN : N.size ≤ 82) (st : ByteArray) (hs : startB kind flag = st) :
    Calls Tryz.prog 94 #[.agg #[.int .i64 kind, .string name, .string on, .slice a0 list.length c0, .int .i64 num, .bool flag, .int .i64 ty.kind, .int .i64 ty.len, .string ty.name, .slice a1 cols.length c1, .slice a2 rules.length c2, .slice a3 exprs.length c3]] w fun e w' => ∃ a c, e = .returned (.slice a 2 c) ∧ Strs w' a c [st, N] ∧ Below w.heap.size w w' := by
  have hz := start_small kind flag hin
  rw [hs] at hz
  have hf : ∀ W, (Instr.index 123 (.agg formsV) (.int .i64 kind)).run Tryz.prog W = .ok (.agg (sf kind).vs.toArray) W := fun W => formAt kind hin W
  obtain ⟨f, hff⟩ : ∃ f, sf kind = f := ⟨_, rfl⟩
  rw [hff] at hf
  have hidx : ∀ W, (Instr.index 123 (.agg formsV) (.int .i64 kind)).run Tryz.prog W = .ok (.agg #[.string (txt f.start), .bool f.on, .int .i64 f.l0, .int .i64 f.l1, .int .i64 f.n0, .int .i64 f.n1, .bool f.flag, .bool f.typed, .int .i64 f.c0, .int .i64 f.c1, .int .i64 f.r0, .int .i64 f.r1, .int .i64 f.e0, .int .i64 f.e1]) W := hf
  have hfld : ∀ W, (Instr.field 122 (.agg #[.string (txt f.start), .bool f.on, .int .i64 f.l0, .int .i64 f.l1, .int .i64 f.n0, .int .i64 f.n1, .bool f.flag, .bool f.typed, .int .i64 f.c0, .int .i64 f.c1, .int .i64 f.r0, .int .i64 f.r1, .int .i64 f.e0, .int .i64 f.e1]) 0).run Tryz.prog W = .ok (.string (txt f.start)) W := fun _ => by kernel_rfl
  have hk0 : 0 ≤ kind := hin.1
  have hk1 : kind < 17 := by omega
  have hk2 : kind ≤ 16 := hin.2
  clear hf
  by_cases h13 : kind = 13
  · cases flag with
    | true =>
      have hst0 : st = (ByteArray.mk #[99, 114, 101, 97, 116, 101, 32, 117, 110, 105, 113, 117, 101, 32, 105, 110, 100, 101, 120]) := by rw [← hs]; unfold startB; rw [if_pos ⟨h13, rfl⟩]
      have q13 : (kind == 13) = true := by simp; exact h13
      have HB := Lib.hid (boxV_new w [.int .i64 kind, .string name, .string on, .slice a0 list.length c0, .int .i64 num, .bool true, .int .i64 ty.kind, .int .i64 ty.len, .string ty.name, .slice a1 cols.length c1, .slice a2 rules.length c2, .slice a3 exprs.length c3] 55)
      have y0 : (ByteArray.mk #[99, 114, 101, 97, 116, 101, 32, 117, 110, 105, 113, 117, 101, 32, 105, 110, 100, 101, 120]).size = 19 := rfl
      have HST := Lib.hid hst0
      clear hs hff hst0 h13
      go_enter Tryz.func94, Tryz.ntmps94
      go_wp2_with fail
      refine (implPutName name _ Zn.out N HN.out).mono ?_
      rintro e w2 ⟨rfl, b2⟩
      have B2 := Lib.hid (HB.out.call b2)
      clear b2
      go_wp2_with fail
      go_ret
      refine ⟨_, _, rfl, ?_, B2.out.2.alloc (Nat.le_of_lt B2.out.1.1) _⟩
      rw [HST.out]
      exact rowLit1 w2 [(ByteArray.mk #[99, 114, 101, 97, 116, 101, 32, 117, 110, 105, 113, 117, 101, 32, 105, 110, 100, 101, 120]), N] (by intro t ht; simp only [List.mem_cons, List.not_mem_nil, or_false] at ht; unfold maxLen; rcases ht with rfl | rfl <;> omega) (by simp)
    | false =>
      have hst0 : txt f.start = st := by rw [← hs, ← hff]; unfold startB; rw [if_neg (by simp)]
      have q13 : (kind == 13) = true := by simp; exact h13
      have HB := Lib.hid (boxV_new w [.int .i64 kind, .string name, .string on, .slice a0 list.length c0, .int .i64 num, .bool false, .int .i64 ty.kind, .int .i64 ty.len, .string ty.name, .slice a1 cols.length c1, .slice a2 rules.length c2, .slice a3 exprs.length c3] 55)
      subst hst0
      clear hs hff h13
      have HB0 := Lib.hid HB
      go_enter Tryz.func94, Tryz.ntmps94
      go_wp2_with fail
      have hst : Hid (∀ p q : World, ((p.cell? ⟨w.heap.size, 0, none⟩ = some (.int .i64 kind) ∧ p.cell? ⟨w.heap.size, 1, none⟩ = some (.string name)) ∧ Hid (BoxV w [.int .i64 kind, .string name, .string on, .slice a0 list.length c0, .int .i64 num, .bool false, .int .i64 ty.kind, .int .i64 ty.len, .string ty.name, .slice a1 cols.length c1, .slice a2 rules.length c2, .slice a3 exprs.length c3] p)) → Below p.heap.size p q → ((q.cell? ⟨w.heap.size, 0, none⟩ = some (.int .i64 kind) ∧ q.cell? ⟨w.heap.size, 1, none⟩ = some (.string name)) ∧ Hid (BoxV w [.int .i64 kind, .string name, .string on, .slice a0 list.length c0, .int .i64 num, .bool false, .int .i64 ty.kind, .int .i64 ty.len, .string ty.name, .slice a1 cols.length c1, .slice a2 rules.length c2, .slice a3 exprs.length c3] q))) := fun p q h hb => by
        have T := h.2.out.call hb
        exact ⟨⟨(T.1.2 0 (by simp)).1, (T.1.2 1 (by simp)).1⟩, T⟩
      have D0 := Lib.hid ((HB.out).call (below_drewE (Below.refl _ _)))
      have D1 := Lib.hid (HB.out)
      go_region_held3 (fun w' => (w'.cell? ⟨w.heap.size, 0, none⟩ = some (.int .i64 kind) ∧ w'.cell? ⟨w.heap.size, 1, none⟩ = some (.string name)) ∧ Hid (BoxV w [.int .i64 kind, .string name, .string on, .slice a0 list.length c0, .int .i64 num, .bool false, .int .i64 ty.kind, .int .i64 ty.len, .string ty.name, .slice a1 cols.length c1, .slice a2 rules.length c2, .slice a3 exprs.length c3] w')) (first | assumption | exact ⟨⟨(D0.out.1.2 0 (by simp)).1, (D0.out.1.2 1 (by simp)).1⟩, D0.out⟩ | exact ⟨⟨(D1.out.1.2 0 (by simp)).1, (D1.out.1.2 1 (by simp)).1⟩, D1.out⟩ | exact hst.out _ _ (by assumption) ((Below.refl _ _).alloc (Nat.le_refl _) _))
        (first
          | (go_at_call 91; refine (implStmtForms _).mono ?_; rintro e wq ⟨rfl, bq⟩; have h1 := hst.out _ _ (by assumption) bq)
          | (go_at_call 30; refine (implPutName name _ Zn.out N HN.out).mono ?_; rintro e wz ⟨rfl, bz⟩; have h2 := hst.out _ _ (by assumption) bz))
      all_goals go_wp2_with fail
      all_goals go_ret
      all_goals refine ⟨_, _, rfl, rowLit1 wz [txt f.start, N] (by intro t ht; simp only [List.mem_cons, List.not_mem_nil, or_false] at ht; unfold maxLen; rcases ht with rfl | rfl <;> omega) (by simp), h2.2.out.2.alloc (Nat.le_of_lt h2.2.out.1.1) _⟩
  · have hst0 : txt f.start = st := by rw [← hs, ← hff]; unfold startB; rw [if_neg (by intro h; exact h13 h.1)]
    have q13 : (kind == 13) = false := by simp; exact h13
    have HB := Lib.hid (boxV_new w [.int .i64 kind, .string name, .string on, .slice a0 list.length c0, .int .i64 num, .bool flag, .int .i64 ty.kind, .int .i64 ty.len, .string ty.name, .slice a1 cols.length c1, .slice a2 rules.length c2, .slice a3 exprs.length c3] 55)
    subst hst0
    clear hs hff h13
    have HB0 := Lib.hid HB
    go_enter Tryz.func94, Tryz.ntmps94
    go_wp2_with fail
    have hst : Hid (∀ p q : World, ((p.cell? ⟨w.heap.size, 0, none⟩ = some (.int .i64 kind) ∧ p.cell? ⟨w.heap.size, 1, none⟩ = some (.string name)) ∧ Hid (BoxV w [.int .i64 kind, .string name, .string on, .slice a0 list.length c0, .int .i64 num, .bool flag, .int .i64 ty.kind, .int .i64 ty.len, .string ty.name, .slice a1 cols.length c1, .slice a2 rules.length c2, .slice a3 exprs.length c3] p)) → Below p.heap.size p q → ((q.cell? ⟨w.heap.size, 0, none⟩ = some (.int .i64 kind) ∧ q.cell? ⟨w.heap.size, 1, none⟩ = some (.string name)) ∧ Hid (BoxV w [.int .i64 kind, .string name, .string on, .slice a0 list.length c0, .int .i64 num, .bool flag, .int .i64 ty.kind, .int .i64 ty.len, .string ty.name, .slice a1 cols.length c1, .slice a2 rules.length c2, .slice a3 exprs.length c3] q))) := fun p q h hb => by
      have T := h.2.out.call hb
      exact ⟨⟨(T.1.2 0 (by simp)).1, (T.1.2 1 (by simp)).1⟩, T⟩
    have D0 := Lib.hid ((HB.out).call (below_drewE (Below.refl _ _)))
    have D1 := Lib.hid (HB.out)
    go_region_held3 (fun w' => (w'.cell? ⟨w.heap.size, 0, none⟩ = some (.int .i64 kind) ∧ w'.cell? ⟨w.heap.size, 1, none⟩ = some (.string name)) ∧ Hid (BoxV w [.int .i64 kind, .string name, .string on, .slice a0 list.length c0, .int .i64 num, .bool flag, .int .i64 ty.kind, .int .i64 ty.len, .string ty.name, .slice a1 cols.length c1, .slice a2 rules.length c2, .slice a3 exprs.length c3] w')) (first | assumption | exact ⟨⟨(D0.out.1.2 0 (by simp)).1, (D0.out.1.2 1 (by simp)).1⟩, D0.out⟩ | exact ⟨⟨(D1.out.1.2 0 (by simp)).1, (D1.out.1.2 1 (by simp)).1⟩, D1.out⟩ | exact hst.out _ _ (by assumption) ((Below.refl _ _).alloc (Nat.le_refl _) _))
      (first
        | (go_at_call 91; refine (implStmtForms _).mono ?_; rintro e wq ⟨rfl, bq⟩; have h1 := hst.out _ _ (by assumption) bq)
        | (go_at_call 30; refine (implPutName name _ Zn.out N HN.out).mono ?_; rintro e wz ⟨rfl, bz⟩; have h2 := hst.out _ _ (by assumption) bz))
    all_goals go_wp2_with fail
    all_goals go_ret
    all_goals refine ⟨_, _, rfl, rowLit1 wz [txt f.start, N] (by intro t ht; simp only [List.mem_cons, List.not_mem_nil, or_false] at ht; unfold maxLen; rcases ht with rfl | rfl <;> omega) (by simp), h2.2.out.2.alloc (Nat.le_of_lt h2.2.out.1.1) _⟩

set_option maxRecDepth 100000 in
set_option maxHeartbeats 4000000 in
theorem phColStart (kind : Int) (name on : ByteArray) (list : List ByteArray) (num : Int) (flag : Bool) (ty : Ty) (cols : List Co) (rules : List Ru) (exprs : List Ex) (a0 a1 a2 a3 : Option Addr) (c0 c1 c2 c3 : Nat) (w : World) (hin : 0 ≤ kind ∧ kind ≤ 16) (Zn : Hid (name.size ≤ 1048576)) (Zo : Hid (on.size ≤ 1048576)) (N M : ByteArray) (HN : Hid (nameT name = N)) (HM : Hid (nameT on = M)) (zN : N.size ≤ 82) (zM : M.size ≤ 82) (st : ByteArray) (hs : startB kind flag = st) :
    Calls Tryz.prog 133 #[.agg #[.int .i64 kind, .string name, .string on, .slice a0 list.length c0, .int .i64 num, .bool flag, .int .i64 ty.kind, .int .i64 ty.len, .string ty.name, .slice a1 cols.length c1, .slice a2 rules.length c2, .slice a3 exprs.length c3]] w fun e w' => ∃ a c, e = .returned (.slice a 4 c) ∧ Strs w' a c [st, N, (ByteArray.mk #[97, 108, 116, 101, 114, 32, 99, 111, 108, 117, 109, 110]), M] ∧ Below w.heap.size w w' := by
  have HB := Lib.hid (boxV_new w [.int .i64 kind, .string name, .string on, .slice a0 list.length c0, .int .i64 num, .bool flag, .int .i64 ty.kind, .int .i64 ty.len, .string ty.name, .slice a1 cols.length c1, .slice a2 rules.length c2, .slice a3 exprs.length c3] 55)
  have hcs := fun W => phStart kind name on list num flag ty cols rules exprs a0 a1 a2 a3 c0 c1 c2 c3 W hin Zn N HN zN st hs
  have HCS := Lib.hid hcs
  have y0 : (ByteArray.mk #[97, 108, 116, 101, 114, 32, 99, 111, 108, 117, 109, 110]).size = 12 := rfl
  clear hcs hs hin
  go_enter Tryz.func133, Tryz.ntmps133
  go_wp2_with fail
  have hst : Hid (∀ p q : World, ((p.cell? ⟨w.heap.size, 0, none⟩ = some (.int .i64 kind) ∧ p.cell? ⟨w.heap.size, 1, none⟩ = some (.string name) ∧ p.cell? ⟨w.heap.size, 2, none⟩ = some (.string on) ∧ p.cell? ⟨w.heap.size, 3, none⟩ = some (.slice a0 list.length c0) ∧ p.cell? ⟨w.heap.size, 4, none⟩ = some (.int .i64 num) ∧ p.cell? ⟨w.heap.size, 5, none⟩ = some (.bool flag) ∧ p.cell? ⟨w.heap.size, 6, none⟩ = some (.int .i64 ty.kind) ∧ p.cell? ⟨w.heap.size, 7, none⟩ = some (.int .i64 ty.len) ∧ p.cell? ⟨w.heap.size, 8, none⟩ = some (.string ty.name) ∧ p.cell? ⟨w.heap.size, 9, none⟩ = some (.slice a1 cols.length c1) ∧ p.cell? ⟨w.heap.size, 10, none⟩ = some (.slice a2 rules.length c2) ∧ p.cell? ⟨w.heap.size, 11, none⟩ = some (.slice a3 exprs.length c3)) ∧ Hid (BoxV w [.int .i64 kind, .string name, .string on, .slice a0 list.length c0, .int .i64 num, .bool flag, .int .i64 ty.kind, .int .i64 ty.len, .string ty.name, .slice a1 cols.length c1, .slice a2 rules.length c2, .slice a3 exprs.length c3] p)) → Below p.heap.size p q → ((q.cell? ⟨w.heap.size, 0, none⟩ = some (.int .i64 kind) ∧ q.cell? ⟨w.heap.size, 1, none⟩ = some (.string name) ∧ q.cell? ⟨w.heap.size, 2, none⟩ = some (.string on) ∧ q.cell? ⟨w.heap.size, 3, none⟩ = some (.slice a0 list.length c0) ∧ q.cell? ⟨w.heap.size, 4, none⟩ = some (.int .i64 num) ∧ q.cell? ⟨w.heap.size, 5, none⟩ = some (.bool flag) ∧ q.cell? ⟨w.heap.size, 6, none⟩ = some (.int .i64 ty.kind) ∧ q.cell? ⟨w.heap.size, 7, none⟩ = some (.int .i64 ty.len) ∧ q.cell? ⟨w.heap.size, 8, none⟩ = some (.string ty.name) ∧ q.cell? ⟨w.heap.size, 9, none⟩ = some (.slice a1 cols.length c1) ∧ q.cell? ⟨w.heap.size, 10, none⟩ = some (.slice a2 rules.length c2) ∧ q.cell? ⟨w.heap.size, 11, none⟩ = some (.slice a3 exprs.length c3)) ∧ Hid (BoxV w [.int .i64 kind, .string name, .string on, .slice a0 list.length c0, .int .i64 num, .bool flag, .int .i64 ty.kind, .int .i64 ty.len, .string ty.name, .slice a1 cols.length c1, .slice a2 rules.length c2, .slice a3 exprs.length c3] q))) := fun p q h hb => by
    have T := h.2.out.call hb
    exact ⟨⟨(T.1.2 0 (by simp)).1, (T.1.2 1 (by simp)).1, (T.1.2 2 (by simp)).1, (T.1.2 3 (by simp)).1, (T.1.2 4 (by simp)).1, (T.1.2 5 (by simp)).1, (T.1.2 6 (by simp)).1, (T.1.2 7 (by simp)).1, (T.1.2 8 (by simp)).1, (T.1.2 9 (by simp)).1, (T.1.2 10 (by simp)).1, (T.1.2 11 (by simp)).1⟩, T⟩
  have D0 := Lib.hid ((HB.out).call (below_drewE (Below.refl _ _)))
  have D1 := Lib.hid (HB.out)
  go_region_held3 (fun w' => (w'.cell? ⟨w.heap.size, 0, none⟩ = some (.int .i64 kind) ∧ w'.cell? ⟨w.heap.size, 1, none⟩ = some (.string name) ∧ w'.cell? ⟨w.heap.size, 2, none⟩ = some (.string on) ∧ w'.cell? ⟨w.heap.size, 3, none⟩ = some (.slice a0 list.length c0) ∧ w'.cell? ⟨w.heap.size, 4, none⟩ = some (.int .i64 num) ∧ w'.cell? ⟨w.heap.size, 5, none⟩ = some (.bool flag) ∧ w'.cell? ⟨w.heap.size, 6, none⟩ = some (.int .i64 ty.kind) ∧ w'.cell? ⟨w.heap.size, 7, none⟩ = some (.int .i64 ty.len) ∧ w'.cell? ⟨w.heap.size, 8, none⟩ = some (.string ty.name) ∧ w'.cell? ⟨w.heap.size, 9, none⟩ = some (.slice a1 cols.length c1) ∧ w'.cell? ⟨w.heap.size, 10, none⟩ = some (.slice a2 rules.length c2) ∧ w'.cell? ⟨w.heap.size, 11, none⟩ = some (.slice a3 exprs.length c3)) ∧ Hid (BoxV w [.int .i64 kind, .string name, .string on, .slice a0 list.length c0, .int .i64 num, .bool flag, .int .i64 ty.kind, .int .i64 ty.len, .string ty.name, .slice a1 cols.length c1, .slice a2 rules.length c2, .slice a3 exprs.length c3] w')) (first | assumption | exact ⟨⟨(D0.out.1.2 0 (by simp)).1, (D0.out.1.2 1 (by simp)).1, (D0.out.1.2 2 (by simp)).1, (D0.out.1.2 3 (by simp)).1, (D0.out.1.2 4 (by simp)).1, (D0.out.1.2 5 (by simp)).1, (D0.out.1.2 6 (by simp)).1, (D0.out.1.2 7 (by simp)).1, (D0.out.1.2 8 (by simp)).1, (D0.out.1.2 9 (by simp)).1, (D0.out.1.2 10 (by simp)).1, (D0.out.1.2 11 (by simp)).1⟩, D0.out⟩ | exact ⟨⟨(D1.out.1.2 0 (by simp)).1, (D1.out.1.2 1 (by simp)).1, (D1.out.1.2 2 (by simp)).1, (D1.out.1.2 3 (by simp)).1, (D1.out.1.2 4 (by simp)).1, (D1.out.1.2 5 (by simp)).1, (D1.out.1.2 6 (by simp)).1, (D1.out.1.2 7 (by simp)).1, (D1.out.1.2 8 (by simp)).1, (D1.out.1.2 9 (by simp)).1, (D1.out.1.2 10 (by simp)).1, (D1.out.1.2 11 (by simp)).1⟩, D1.out⟩ | exact hst.out _ _ (by assumption) ((Below.refl _ _).alloc (Nat.le_refl _) _))
    (first
      | (go_at_call 94; refine (HCS.out _).mono ?_; rintro e wa ⟨pa, pc, rfl, hpa, ba⟩; have h1 := hst.out _ _ (by assumption) ba; have HS1 := Lib.hid hpa)
      | (go_at_call 30; refine (implPutName on _ Zo.out M HM.out).mono ?_; rintro e wb ⟨rfl, bb⟩; have h2 := hst.out _ _ h1 bb; have HS2 := Lib.hid (HS1.out.below bb))
      | (go_at_call 32; have hrow := rowLit1 wb [(ByteArray.mk #[97, 108, 116, 101, 114, 32, 99, 111, 108, 117, 109, 110]), M] (by intro t ht; simp only [List.mem_cons, List.not_mem_nil, or_false] at ht; unfold maxLen; rcases ht with rfl | rfl <;> omega) (by simp); refine (phraseAnd pa pc [st, N] _ 2 [(ByteArray.mk #[97, 108, 116, 101, 114, 32, 99, 111, 108, 117, 109, 110]), M] _ (HS2.out.below ((Below.refl _ _).alloc (Nat.le_refl _) _)) hrow (HS2.out.addr (by simp)) (by simp)).mono ?_; rintro e wd ⟨ad, cd, rfl, hd, bd⟩; have h4 := hst.out _ _ (hst.out _ _ h2 ((Below.refl _ _).alloc (Nat.le_refl _) _)) bd; have HSd := Lib.hid hd))
  go_wp2_with fail
  go_ret
  exact ⟨_, _, rfl, HSd.out, h4.2.out.2⟩

end Go.Proofs.YtpdcmmhhgnackaaGreatDoor
