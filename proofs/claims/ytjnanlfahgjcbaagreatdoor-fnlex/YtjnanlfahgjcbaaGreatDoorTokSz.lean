/- The laws' own helpers over slices of words: the size that is left. -/
import Derived.Test.YtjnanlfahgjcbaaGreatDoorToks
namespace Go.Proofs.YtjnanlfahgjcbaaGreatDoor
open Go.RowKit

def tlets (xs : List Tk) : Nat := (xs.map fun x => x.text.size).sum

theorem tlets_take (xs : List Tk) (k : Nat) (h : k < xs.length) : tlets (xs.take (k + 1)) = tlets (xs.take k) + xs[k].text.size := by
  unfold tlets
  rw [List.take_succ_eq_append_getElem h, List.map_append, List.sum_append]
  simp only [List.map_cons, List.map_nil, List.sum_cons, List.sum_nil, Nat.add_zero]

theorem tlets_le (xs : List Tk) (k : Nat) : tlets (xs.take k) ≤ tlets xs := by
  unfold tlets
  conv => rhs; rw [← List.take_append_drop k xs, List.map_append, List.sum_append]
  omega

theorem tlets_mem {xs : List Tk} {x : Tk} (h : x ∈ xs) : x.text.size ≤ tlets xs := by
  unfold tlets
  induction xs with
  | nil => simp at h
  | cons y r ih =>
    simp only [List.map_cons, List.sum_cons]
    rcases List.mem_cons.1 h with rfl | h
    · omega
    · have := ih h; omega

def leftT (xs : List Tk) (left : Int) : Int := if left < xs.length + tlets xs then -1 else left - xs.length - tlets xs

theorem leftT_le {xs : List Tk} (h : ¬ leftT xs 1048576 < 0) : xs.length + tlets xs ≤ 1048576 := by
  unfold leftT at h
  split at h
  · omega
  · omega

end Go.Proofs.YtjnanlfahgjcbaaGreatDoor
