/- Types: how a value of the document's Type is laid; its equality; Turns of the program and of the model. -/
import Derived.Test.YtefjjcoaeanagaaDoorMem
import Derived.Laws.StructEq
namespace Go.Proofs.YtefjjcoaeanagaaDoor
open Go.RowKit

structure Ty where
  kind : Int
  len : Int
  name : ByteArray

def Ty.v (t : Ty) : Value := .agg #[.int .i64 t.kind, .int .i64 t.len, .string t.name]
/-- The name is a text that fits; the numbers are ints. -/
def Ty.ok (t : Ty) : Prop := t.name.size ≤ maxLen ∧ (Lit.int .i64 t.kind).wf = true ∧ (Lit.int .i64 t.len).wf = true
def tyEq (t u : Ty) : Bool := t.kind == u.kind && (t.len == u.len && t.name.toList == u.name.toList)

theorem tyEq_refl (t : Ty) : tyEq t t = true := by simp [tyEq]
theorem tyEq_kind {t u : Ty} (h : tyEq t u = true) : t.kind = u.kind := by simp [tyEq] at h; exact h.1

def turnsB (t u : Ty) : Bool := tyEq t u || (u.kind == 1 || (t.kind == 1 && (u.kind == 3 || u.kind == 4)))

theorem eqlTy (k l : Int) (s : ByteArray) (k' l' : Int) (s' : ByteArray) (w : World) :
    (binOp .eql 36 (.agg #[.int .i64 k, .int .i64 l, .string s]) (.agg #[.int .i64 k', .int .i64 l', .string s'])).run Tryd.prog w = .ok (.bool (tyEq ⟨k, l, s⟩ ⟨k', l', s'⟩)) w := by
  have u3 := Tryd.underlying3
  have u9 := Tryd.underlying9
  have hS : Tryd.prog.underlying 36 = some (.struct (Tryd.prog.fieldsOf 36)) := by kernel_rfl
  have hp : Tryd.prog.stoodInHeld 36 = false := by kernel_rfl
  rw [run_eql_struct, show (10000 : Nat) = 9999 + 1 from rfl, run_equalIn_agg w 9999 36 _ _ hS hp]
  simp only [Program.fieldsOf, Tryd.underlying36]
  unfold tyEq
  go_simp
  by_cases h1 : k = k' <;> by_cases h2 : l = l' <;> by_cases h3 : s.toList = s'.toList <;> simp [h1, h2, h3]

theorem guardTy (x y : Operand) (k l : Int) (s : ByteArray) (k' l' : Int) (s' : ByteArray) (w : World) :
    (eqGuard .eql 36 x y (.agg #[.int .i64 k, .int .i64 l, .string s]) (.agg #[.int .i64 k', .int .i64 l', .string s'])).run Tryd.prog w = .ok () w :=
  run_eqGuard_agg w .eql 36 x y _ _ (by kernel_rfl)

theorem below2 (w : World) (o o' : Obj) : Below w.heap.size w ((w.alloc o).alloc o') := ((Below.refl _ _).alloc (Nat.le_refl _) _).alloc (by simp) _

end Go.Proofs.YtefjjcoaeanagaaDoor
