/- The laws' own helpers over slices of texts: the size that is left, the copy, the equality. -/
import Derived.Test.YtnepfnbmmdcgpaaDoorLets
namespace Go.Proofs.YtnepfnbmmdcgpaaDoor
open Go.RowKit

/-- What is left of 'left' behind the texts: -1 where it is not enough. -/
def leftOf (xs : List ByteArray) (left : Int) : Int := if left < xs.length + lets xs then -1 else left - xs.length - lets xs

def filled (xs : List ByteArray) (k : Nat) : List Value := (xs.take k).map Value.string ++ List.replicate (xs.length - k) (Value.string ByteArray.empty)

theorem filled_set (xs : List ByteArray) (k : Nat) (h : k < xs.length) : (filled xs k).set k (.string xs[k]) = filled xs (k + 1) := by
  unfold filled
  have hl : ((xs.take k).map Value.string).length = k := by simp; omega
  rw [List.set_append_right _ _ (by omega), hl, Nat.sub_self, show xs.length - k = (xs.length - (k + 1)) + 1 by omega, List.replicate_succ, List.set_cons_zero, List.take_succ_eq_append_getElem h, List.map_append, List.append_assoc]
  rfl

theorem filled_at (xs : List ByteArray) (k : Nat) (h : k < xs.length) : ∃ s, (filled xs k)[k]? = some (.string s) := by
  unfold filled
  have hl : ((xs.take k).map Value.string).length = k := by simp; omega
  rw [List.getElem?_append_right (by omega), hl, Nat.sub_self, List.getElem?_replicate, if_pos (by omega)]
  exact ⟨_, rfl⟩

theorem filled_all (xs : List ByteArray) : filled xs xs.length = xs.map Value.string := by simp [filled]
theorem filled_none (xs : List ByteArray) : filled xs 0 = List.replicate xs.length (Value.string ByteArray.empty) := by simp [filled]

/-- The two lists hold the same texts. -/
def eqB (xs ys : List ByteArray) : Bool := xs.map ByteArray.toList == ys.map ByteArray.toList

end Go.Proofs.YtnepfnbmmdcgpaaDoor
