/- impl.Rising (over impl.neighbours) and spec.Rising answer whether each text is ahead of the next. -/
import Derived.Test.YtdggcgipchijjaaRange
import Derived.Test.YtdggcgipchijjaaPut
namespace Go.Proofs.Ytdggcgipchijjaa
open Go.RowKit Go.Shelf
attribute [local go_sem] Oper.semAt_some

def pairAt (xs : List ByteArray) (j : Nat) : ByteArray × ByteArray := (xs[j]?.getD ByteArray.empty, xs[j + 1]?.getD ByteArray.empty)
def prs (xs : List ByteArray) (k : Nat) : List (ByteArray × ByteArray) := (List.range k).map (pairAt xs)
theorem prs_succ (xs : List ByteArray) (k : Nat) : prs xs (k + 1) = prs xs k ++ [pairAt xs k] := by simp [prs, List.range_succ]
theorem prs_length (xs : List ByteArray) (k : Nat) : (prs xs k).length = k := by simp [prs]

def risingB (xs : List ByteArray) : Bool := (prs xs (xs.length - 1)).all fun x => lessB x.1 x.2

end Go.Proofs.Ytdggcgipchijjaa
