/- The marks at 1; what is made stays where it lies while others are marked. -/
import Derived.Test.YtdggcgipchijjaaMark
namespace Go.Proofs.Ytdggcgipchijjaa
open Go.RowKit

def Marked1 (w : World) (B : Nat) (a : Option Addr) (c n : Nat) (e : Ending) (w' : World) : Prop :=
  e = .returned (.int .i64 (1 + (n : Int))) ∧ Own w' B a c (marks 1 n) ∧ w.grownBy w' (Value.slice a n c).ownBlock

theorem markStrs1 (a : Option Addr) (c : Nat) (xs : List ByteArray) (B : Nat) (w : World) (hx : Own w B a c xs) (hn : xs.length ≤ 8388608) :
    Calls Try.prog 25 #[.slice a xs.length c, .int .i64 1] w (Marked1 w B a c xs.length) := by
  refine (markStrs a c xs 1 B w hx (by omega) (by omega) hn).mono ?_
  rintro e w' ⟨rfl, h⟩
  exact ⟨congrArg (fun z => Ending.returned (Value.int .i64 z)) (by omega), h⟩

theorem heldStrs1 (a : Option Addr) (c n : Nat) (w : World) (hx : Strs w a c (marks 1 n)) (hn : n ≤ 8388608) :
    Calls Try.prog 26 #[.slice a n c, .int .i64 1] w fun e w' => e = .returned (.int .i64 (1 + (n : Int))) ∧ Below w.heap.size w w' := by
  refine (heldStrs a c 1 n w hx (by omega) (by omega) hn).mono ?_
  rintro e w' ⟨rfl, h⟩
  exact ⟨congrArg (fun z => Ending.returned (Value.int .i64 z)) (by omega), h⟩

/-- A slice of the call's own in blocks from lo to hi. -/
def OwnAt (w : World) (lo hi : Nat) (a : Option Addr) (c : Nat) (xs : List ByteArray) : Prop :=
  Own w lo a c xs ∧ ∀ g, (Value.slice a xs.length c).ownBlock = some g → g < hi

theorem Own.at_ {w : World} {lo : Nat} {a : Option Addr} {c : Nat} {xs : List ByteArray} (h : Own w lo a c xs) : OwnAt w lo w.heap.size a c xs :=
  ⟨h, fun _ hg => (h.lt hg).2⟩

theorem OwnAt.below {w w' : World} {lo hi : Nat} {a : Option Addr} {c : Nat} {xs : List ByteArray} (h : OwnAt w lo hi a c xs) (hb : Below w.heap.size w w') : OwnAt w' lo hi a c xs :=
  ⟨h.1.below hb, h.2⟩

theorem OwnAt.grown {w w' : World} {lo hi : Nat} {a : Option Addr} {c : Nat} {xs : List ByteArray} {row : Option Nat} (h : OwnAt w lo hi a c xs) (hg : w.grownBy w' row)
    (hr : ∀ g, row = some g → g < lo ∨ hi ≤ g) : OwnAt w' lo hi a c xs :=
  ⟨h.1.kept hg (fun g hg' e => by have h1 := (h.1.lt hg').1; have h2 := h.2 g hg'; have h3 := hr g e; omega), h.2⟩

theorem leftOf_le {xs : List ByteArray} {left : Int} (h : ¬ leftOf xs left < 0) : (xs.length : Int) + lets xs ≤ left := by
  unfold leftOf at h
  split at h <;> omega

end Go.Proofs.Ytdggcgipchijjaa
