/- spec.Quote answers the text between quotes, each of its quotes doubled. -/
import Derived.Test.YtjnanlfahgjcbaaGreatDoorBytes1
import Derived.Test.YtjnanlfahgjcbaaGreatDoorLexM
namespace Go.Proofs.YtjnanlfahgjcbaaGreatDoor
open Go.RowKit

def dbl (q : UInt8) (t : List UInt8) : List UInt8 := t.flatMap fun b => if b = q then [q, b] else [b]
def quoteT (s : ByteArray) (q : UInt8) : ByteArray := ⟨(quoteL q s.data.toList).toArray⟩

theorem dbl_eq (q : UInt8) (s : ByteArray) (k : Nat) (h : k < s.size) (he : s[k] = q) : dbl q (s.data.toList.take (k + 1)) = dbl q (s.data.toList.take k) ++ [q] ++ [s[k]] := by
  unfold dbl
  rw [take_snoc s k h, List.flatMap_append]
  simp [he]
theorem dbl_ne (q : UInt8) (s : ByteArray) (k : Nat) (h : k < s.size) (he : s[k] ≠ q) : dbl q (s.data.toList.take (k + 1)) = dbl q (s.data.toList.take k) ++ [s[k]] := by
  unfold dbl
  rw [take_snoc s k h, List.flatMap_append]
  simp [he]
theorem dbl_len (q : UInt8) (t : List UInt8) : (dbl q t).length ≤ 2 * t.length := by
  unfold dbl
  induction t with
  | nil => simp
  | cons b r ih =>
    rw [List.flatMap_cons, List.length_append, List.length_cons]
    split
    · simp only [List.length_cons, List.length_nil]; omega
    · simp only [List.length_cons, List.length_nil]; omega

end Go.Proofs.YtjnanlfahgjcbaaGreatDoor
