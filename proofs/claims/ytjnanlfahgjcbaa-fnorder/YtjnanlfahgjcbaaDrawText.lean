/- What the laws of chapter 1 draw: a list of short texts, and a text. -/
import Derived.Test.YtjnanlfahgjcbaaDrawList
namespace Go.Proofs.Ytjnanlfahgjcbaa
open Go.RowKit

/-- A drawn list and a drawn text, new. -/
def DrawnPair (w : World) (e : Ending) (w' : World) : Prop :=
  ∃ a1 c1 xs s, e = .returned (.tuple #[.slice a1 (List.length xs) c1, .string s]) ∧ Own w' w.heap.size a1 c1 xs ∧ Short xs ∧ xs.length ≤ 4 ∧ s.size ≤ 2 ∧ Below w.heap.size w w'

theorem below_of_grown {w w1 w2 : World} {g : Nat} (h : Below w.heap.size w w1) (hg : w1.grownBy w2 (some g)) (hn : w.heap.size ≤ g) : Below w.heap.size w w2 :=
  h.grown hg h.size (fun k hk => by cases hk; exact hn)

def drawPutOf : List ByteArray := [⟨#[97]⟩, ⟨#[98]⟩, ⟨#[]⟩, ⟨#[122, 122]⟩, ⟨#[97, 97]⟩]
theorem drawPutShort : Short drawPutOf := by unfold Short drawPutOf; decide

def drawHasOf : List ByteArray := [⟨#[97]⟩, ⟨#[98]⟩, ⟨#[]⟩, ⟨#[122, 122]⟩]
theorem drawHasShort : Short drawHasOf := by unfold Short drawHasOf; decide

def drawWithoutOf : List ByteArray := [⟨#[97]⟩, ⟨#[98]⟩, ⟨#[]⟩, ⟨#[122, 122]⟩]
theorem drawWithoutShort : Short drawWithoutOf := by unfold Short drawWithoutOf; decide

def drawJoinOf : List ByteArray := [⟨#[]⟩, ⟨#[44, 32]⟩, ⟨#[59]⟩]
theorem drawJoinShort : Short drawJoinOf := by unfold Short drawJoinOf; decide

set_option maxHeartbeats 1000000 in
theorem specDrawRising (a : Option Addr) (c : Nat) (l : List UInt8) (w : World) (hb : Bytes w a c l) (hs : l.length ≤ 1048576) :
    Calls Try.prog 9 #[.slice a l.length c] w fun e w' => ∃ a1 c1 xs, e = .returned (.slice a1 (List.length xs) c1) ∧ Own w' w.heap.size a1 c1 xs ∧ Short xs ∧ xs.length ≤ 4 ∧ Below w.heap.size w w' := by
  go_enter Try.func9, Try.ntmps9
  go_wp2_with fail
  refine (l01New a c l w hb hs).mono ?_
  rintro e w1 ⟨rfl, hd1, hb1, hz1⟩
  go_wp2_with fail
  refine (l01List hd1).mono ?_
  rintro e w2 ⟨a1, c1, xs, rfl, hown, hsh, hlen, hd2, hg2⟩
  have hb2 : Below w.heap.size w w2 := below_of_grown hb1 hg2 (Nat.le_refl _)
  go_wp2_with fail
  go_ret
  exact ⟨a1, c1, xs, rfl, hown.lower (by omega), hsh, hlen, hb2⟩

end Go.Proofs.Ytjnanlfahgjcbaa
