/- What Lex answers, by cases. -/
import Derived.Test.YtjnanlfahgjcbaaDoorLexSpec9
namespace Go.Proofs.YtjnanlfahgjcbaaDoor
open Go.RowKit

theorem lexErr {s : ByteArray} {p : Nat} (h : lexB s.data.toList = .error p) {w w' : World} {e : Ending} (ha : LexAns s w e w') :
    ∃ a c, e = .returned (.tuple #[.slice a 0 c, .int .i64 (p : Int)]) ∧ OwnT w' w.heap.size a c [] ∧ Below w.heap.size w w' := by
  obtain ⟨a, c, rfl, ho, hb⟩ := ha
  have ht : toks s = [] := by unfold toks; rw [h]; rfl
  rw [ht] at ho
  refine ⟨a, c, ?_, ho, hb⟩
  rw [ht, h]
  rfl

theorem lexOk {s : ByteArray} {ts : List Tok} (h : lexB s.data.toList = .ok ts) {xs : List Tk} (hx : xs = ts.map tkOf) {w w' : World} {e : Ending} (ha : LexAns s w e w') :
    ∃ a c, e = .returned (.tuple #[.slice a xs.length c, .int .i64 (-1)]) ∧ OwnT w' w.heap.size a c xs ∧ Below w.heap.size w w' := by
  obtain ⟨a, c, rfl, ho, hb⟩ := ha
  have ht : toks s = xs := by unfold toks; rw [h, hx]; rfl
  rw [ht] at ho
  refine ⟨a, c, ?_, ho, hb⟩
  rw [ht, h]
  rfl

end Go.Proofs.YtjnanlfahgjcbaaDoor
