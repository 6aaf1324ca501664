/- Types: how a value of the document's Type is laid; its equality; Turns of the program and of the model. -/
import Derived.Test.YtndbmnnomokfkaaMem
import Derived.Laws.StructEq
namespace Go.Proofs.Ytndbmnnomokfkaa
open Go.RowKit

structure Ty where
  kind : Int
  len : Int
  name : ByteArray

def Ty.v (t : Ty) : Value := .agg #[.int .i64 t.kind, .int .i64 t.len, .string t.name]
/-- The name is a text that fits; the numbers are ints. -/
def Ty.ok (t : Ty) : Prop := t.name.size ≤ maxLen ∧ (Lit.int .i64 t.kind).wf = true ∧ (Lit.int .i64 t.len).wf = true
def tyEq (t u : Ty) : Bool := t.kind == u.kind && (t.len == u.len && t.name.toList == u.name.toList)

theorem tyEq_refl (t : Ty) : tyEq t t = true := by simp [tyEq]
theorem tyEq_kind {t u : Ty} (h : tyEq t u = true) : t.kind = u.kind := by simp [tyEq] at h; exact h.1

def turnsB (t u : Ty) : Bool := tyEq t u || (u.kind == 1 || (t.kind == 1 && (u.kind == 3 || u.kind == 4)))

theorem eqlTy (k l : Int) (s : ByteArray) (k' l' : Int) (s' : ByteArray) (w : World) :
    (binOp .eql 25 (.agg #[.int .i64 k, .int .i64 l, .string s]) (.agg #[.int .i64 k', .int .i64 l', .string s'])).run Try.prog w = .ok (.bool (tyEq ⟨k, l, s⟩ ⟨k', l', s'⟩)) w := by
  have u3 := Try.underlying3
  have u9 := Try.underlying9
  have hS : Try.prog.underlying 25 = some (.struct (Try.prog.fieldsOf 25)) := by kernel_rfl
  have hp : Try.prog.stoodInHeld 25 = false := by kernel_rfl
  rw [run_eql_struct, show (10000 : Nat) = 9999 + 1 from rfl, run_equalIn_agg w 9999 25 _ _ hS hp]
  simp only [Program.fieldsOf, Try.underlying25]
  unfold tyEq
  go_simp
  by_cases h1 : k = k' <;> by_cases h2 : l = l' <;> by_cases h3 : s.toList = s'.toList <;> simp [h1, h2, h3]

theorem guardTy (x y : Operand) (k l : Int) (s : ByteArray) (k' l' : Int) (s' : ByteArray) (w : World) :
    (eqGuard .eql 25 x y (.agg #[.int .i64 k, .int .i64 l, .string s]) (.agg #[.int .i64 k', .int .i64 l', .string s'])).run Try.prog w = .ok () w :=
  run_eqGuard_agg w .eql 25 x y _ _ (by kernel_rfl)

theorem below2 (w : World) (o o' : Obj) : Below w.heap.size w ((w.alloc o).alloc o') := ((Below.refl _ _).alloc (Nat.le_refl _) _).alloc (by simp) _

set_option maxHeartbeats 1000000 in
theorem specTurns (t u : Ty) (w : World) (v : Bool) (hv : turnsB t u = v) :
    Calls Try.prog 11 #[t.v, u.v] w fun e w' => e = .returned (.bool v) ∧ Below w.heap.size w w' := by
  obtain ⟨k, l, s⟩ := t
  obtain ⟨k', l', s'⟩ := u
  have hq := fun w => eqlTy k l s k' l' s' w
  have hG := fun x y w => guardTy x y k l s k' l' s' w
  unfold turnsB at hv
  generalize tyEq ⟨k, l, s⟩ ⟨k', l', s'⟩ = b at hq hv
  simp only [Ty.v] at *
  cases b with
  | true =>
    have HV : Hid (v = true) := by unfold Hid; rw [← hv]; rfl
    clear hv
    go_enter Try.func11, Try.ntmps11
    go_wp2_with fail
    go_ret
    exact ⟨by rw [HV.out]; rfl, below2 _ _ _⟩
  | false =>
    cases h1 : (k' == 1) with
    | true =>
      have HV : Hid (v = true) := by unfold Hid; rw [← hv, h1]; rfl
      clear hv
      go_enter Try.func11, Try.ntmps11
      go_wp2_with fail
      go_ret
      exact ⟨by rw [HV.out]; rfl, below2 _ _ _⟩
    | false =>
      cases h2 : (k == 1) with
      | false =>
        have HV : Hid (v = false) := by unfold Hid; rw [← hv, h1, h2]; rfl
        clear hv
        go_enter Try.func11, Try.ntmps11
        go_wp2_with fail
        go_ret
        exact ⟨by rw [HV.out]; rfl, below2 _ _ _⟩
      | true =>
        cases h3 : (k' == 3) with
        | true =>
          have HV : Hid (v = true) := by unfold Hid; rw [← hv, h1, h2, h3]; rfl
          clear hv
          go_enter Try.func11, Try.ntmps11
          go_wp2_with fail
          go_ret
          exact ⟨by rw [HV.out]; rfl, below2 _ _ _⟩
        | false =>
          have HV : Hid (v = (k' == 4)) := by unfold Hid; rw [← hv, h1, h2, h3]; rfl
          clear hv
          go_enter Try.func11, Try.ntmps11
          go_wp2_with fail
          go_ret
          exact ⟨by rw [HV.out]; rfl, below2 _ _ _⟩

set_option maxHeartbeats 1000000 in
theorem implTurns (t u : Ty) (w : World) (v : Bool) (hv : turnsB t u = v) :
    Calls Try.prog 10 #[t.v, u.v] w fun e w' => e = .returned (.bool v) ∧ Below w.heap.size w w' := by
  obtain ⟨k, l, s⟩ := t
  obtain ⟨k', l', s'⟩ := u
  have hq := fun w => eqlTy k l s k' l' s' w
  have hG := fun x y w => guardTy x y k l s k' l' s' w
  unfold turnsB at hv
  generalize tyEq ⟨k, l, s⟩ ⟨k', l', s'⟩ = b at hq hv
  simp only [Ty.v] at *
  cases b with
  | true =>
    have HV : Hid (v = true) := by unfold Hid; rw [← hv]; rfl
    clear hv
    go_enter Try.func10, Try.ntmps10
    go_wp2_with fail
    go_ret
    exact ⟨by rw [HV.out]; rfl, below2 _ _ _⟩
  | false =>
    cases h1 : (k' == 1) with
    | true =>
      have HV : Hid (v = true) := by unfold Hid; rw [← hv, h1]; rfl
      clear hv
      go_enter Try.func10, Try.ntmps10
      go_wp2_with fail
      go_ret
      exact ⟨by rw [HV.out]; rfl, below2 _ _ _⟩
    | false =>
      cases h2 : (k == 1) with
      | false =>
        have HV : Hid (v = false) := by unfold Hid; rw [← hv, h1, h2]; rfl
        clear hv
        go_enter Try.func10, Try.ntmps10
        go_wp2_with fail
        go_ret
        exact ⟨by rw [HV.out]; rfl, below2 _ _ _⟩
      | true =>
        cases h3 : (k' == 3) with
        | true =>
          have HV : Hid (v = true) := by unfold Hid; rw [← hv, h1, h2, h3]; rfl
          clear hv
          go_enter Try.func10, Try.ntmps10
          go_wp2_with fail
          go_ret
          exact ⟨by rw [HV.out]; rfl, below2 _ _ _⟩
        | false =>
          have HV : Hid (v = (k' == 4)) := by unfold Hid; rw [← hv, h1, h2, h3]; rfl
          clear hv
          go_enter Try.func10, Try.ntmps10
          go_wp2_with fail
          go_ret
          exact ⟨by rw [HV.out]; rfl, below2 _ _ _⟩

end Go.Proofs.Ytndbmnnomokfkaa
