/- What the laws of chapter 1 draw: a list of short texts, and a text. -/
import Derived.Test.YtboanhfmmhjepaaDrawList
namespace Go.Proofs.Ytboanhfmmhjepaa
open Go.RowKit

/-- A drawn list and a drawn text, new. -/
def DrawnPair (w : World) (e : Ending) (w' : World) : Prop :=
  ∃ a1 c1 xs s, e = .returned (.tuple #[.slice a1 (List.length xs) c1, .string s]) ∧ Own w' w.heap.size a1 c1 xs ∧ Short xs ∧ xs.length ≤ 4 ∧ s.size ≤ 2 ∧ Below w.heap.size w w'

theorem below_of_grown {w w1 w2 : World} {g : Nat} (h : Below w.heap.size w w1) (hg : w1.grownBy w2 (some g)) (hn : w.heap.size ≤ g) : Below w.heap.size w w2 :=
  h.grown hg h.size (fun k hk => by cases hk; exact hn)

def drawPutOf : List ByteArray := [⟨#[97]⟩, ⟨#[98]⟩, ⟨#[]⟩, ⟨#[122, 122]⟩, ⟨#[97, 97]⟩]
theorem drawPutShort : Short drawPutOf := by unfold Short drawPutOf; decide

set_option maxHeartbeats 1000000 in
theorem specDrawPut (a : Option Addr) (c : Nat) (l : List UInt8) (w : World) (hb : Bytes w a c l) (hs : l.length ≤ 1048576) :
    Calls Try.prog 18 #[.slice a l.length c] w (DrawnPair w) := by
  go_enter Try.func18, Try.ntmps18
  go_wp2_with fail
  refine (l01New a c l w hb hs).mono ?_
  rintro e w1 ⟨rfl, hd1, hb1, hz1⟩
  go_wp2_with fail
  refine (l01List hd1).mono ?_
  rintro e w2 ⟨a1, c1, xs, rfl, hown, hsh, hlen, hd2, hg2⟩
  have hb2 : Below w.heap.size w w2 := below_of_grown hb1 hg2 (Nat.le_refl _)
  go_wp2_with fail
  refine (pickLit hd2 drawPutOf 5 rfl drawPutShort.sizes (by decide) (by decide) _ rfl).mono ?_
  rintro e w3 ⟨v, ⟨s, rfl, hs'⟩, rfl, hd3, hg3⟩
  have hs2 := drawPutShort s hs'
  have hown3 := (hown.alloc _).draw hg3 (by omega)
  have hb3 : Below w.heap.size w w3 := below_of_grown (hb2.alloc hb2.size _) hg3 (Nat.le_refl _)
  go_wp2_with fail
  go_ret2
  exact ⟨a1, c1, xs, s, rfl, hown3.lower (by omega), hsh, hlen, hs2, hb3⟩

def drawHasOf : List ByteArray := [⟨#[97]⟩, ⟨#[98]⟩, ⟨#[]⟩, ⟨#[122, 122]⟩]
theorem drawHasShort : Short drawHasOf := by unfold Short drawHasOf; decide

set_option maxHeartbeats 1000000 in
theorem specDrawHas (a : Option Addr) (c : Nat) (l : List UInt8) (w : World) (hb : Bytes w a c l) (hs : l.length ≤ 1048576) :
    Calls Try.prog 25 #[.slice a l.length c] w (DrawnPair w) := by
  go_enter Try.func25, Try.ntmps25
  go_wp2_with fail
  refine (l01New a c l w hb hs).mono ?_
  rintro e w1 ⟨rfl, hd1, hb1, hz1⟩
  go_wp2_with fail
  refine (l01List hd1).mono ?_
  rintro e w2 ⟨a1, c1, xs, rfl, hown, hsh, hlen, hd2, hg2⟩
  have hb2 : Below w.heap.size w w2 := below_of_grown hb1 hg2 (Nat.le_refl _)
  go_wp2_with fail
  refine (pickLit hd2 drawHasOf 4 rfl drawHasShort.sizes (by decide) (by decide) _ rfl).mono ?_
  rintro e w3 ⟨v, ⟨s, rfl, hs'⟩, rfl, hd3, hg3⟩
  have hs2 := drawHasShort s hs'
  have hown3 := (hown.alloc _).draw hg3 (by omega)
  have hb3 : Below w.heap.size w w3 := below_of_grown (hb2.alloc hb2.size _) hg3 (Nat.le_refl _)
  go_wp2_with fail
  go_ret2
  exact ⟨a1, c1, xs, s, rfl, hown3.lower (by omega), hsh, hlen, hs2, hb3⟩

def drawWithoutOf : List ByteArray := [⟨#[97]⟩, ⟨#[98]⟩, ⟨#[]⟩, ⟨#[122, 122]⟩]
theorem drawWithoutShort : Short drawWithoutOf := by unfold Short drawWithoutOf; decide

set_option maxHeartbeats 1000000 in
theorem specDrawWithout (a : Option Addr) (c : Nat) (l : List UInt8) (w : World) (hb : Bytes w a c l) (hs : l.length ≤ 1048576) :
    Calls Try.prog 26 #[.slice a l.length c] w (DrawnPair w) := by
  go_enter Try.func26, Try.ntmps26
  go_wp2_with fail
  refine (l01New a c l w hb hs).mono ?_
  rintro e w1 ⟨rfl, hd1, hb1, hz1⟩
  go_wp2_with fail
  refine (l01List hd1).mono ?_
  rintro e w2 ⟨a1, c1, xs, rfl, hown, hsh, hlen, hd2, hg2⟩
  have hb2 : Below w.heap.size w w2 := below_of_grown hb1 hg2 (Nat.le_refl _)
  go_wp2_with fail
  refine (pickLit hd2 drawWithoutOf 4 rfl drawWithoutShort.sizes (by decide) (by decide) _ rfl).mono ?_
  rintro e w3 ⟨v, ⟨s, rfl, hs'⟩, rfl, hd3, hg3⟩
  have hs2 := drawWithoutShort s hs'
  have hown3 := (hown.alloc _).draw hg3 (by omega)
  have hb3 : Below w.heap.size w w3 := below_of_grown (hb2.alloc hb2.size _) hg3 (Nat.le_refl _)
  go_wp2_with fail
  go_ret2
  exact ⟨a1, c1, xs, s, rfl, hown3.lower (by omega), hsh, hlen, hs2, hb3⟩

def drawJoinOf : List ByteArray := [⟨#[]⟩, ⟨#[44, 32]⟩, ⟨#[59]⟩]
theorem drawJoinShort : Short drawJoinOf := by unfold Short drawJoinOf; decide

set_option maxHeartbeats 1000000 in
theorem specDrawJoin (a : Option Addr) (c : Nat) (l : List UInt8) (w : World) (hb : Bytes w a c l) (hs : l.length ≤ 1048576) :
    Calls Try.prog 29 #[.slice a l.length c] w (DrawnPair w) := by
  go_enter Try.func29, Try.ntmps29
  go_wp2_with fail
  refine (l01New a c l w hb hs).mono ?_
  rintro e w1 ⟨rfl, hd1, hb1, hz1⟩
  go_wp2_with fail
  refine (l01List hd1).mono ?_
  rintro e w2 ⟨a1, c1, xs, rfl, hown, hsh, hlen, hd2, hg2⟩
  have hb2 : Below w.heap.size w w2 := below_of_grown hb1 hg2 (Nat.le_refl _)
  go_wp2_with fail
  refine (pickLit hd2 drawJoinOf 3 rfl drawJoinShort.sizes (by decide) (by decide) _ rfl).mono ?_
  rintro e w3 ⟨v, ⟨s, rfl, hs'⟩, rfl, hd3, hg3⟩
  have hs2 := drawJoinShort s hs'
  have hown3 := (hown.alloc _).draw hg3 (by omega)
  have hb3 : Below w.heap.size w w3 := below_of_grown (hb2.alloc hb2.size _) hg3 (Nat.le_refl _)
  go_wp2_with fail
  go_ret2
  exact ⟨a1, c1, xs, s, rfl, hown3.lower (by omega), hsh, hlen, hs2, hb3⟩

set_option maxHeartbeats 1000000 in
theorem specDrawRising (a : Option Addr) (c : Nat) (l : List UInt8) (w : World) (hb : Bytes w a c l) (hs : l.length ≤ 1048576) :
    Calls Try.prog 15 #[.slice a l.length c] w fun e w' => ∃ a1 c1 xs, e = .returned (.slice a1 (List.length xs) c1) ∧ Own w' w.heap.size a1 c1 xs ∧ Short xs ∧ xs.length ≤ 4 ∧ Below w.heap.size w w' := by
  go_enter Try.func15, Try.ntmps15
  go_wp2_with fail
  refine (l01New a c l w hb hs).mono ?_
  rintro e w1 ⟨rfl, hd1, hb1, hz1⟩
  go_wp2_with fail
  refine (l01List hd1).mono ?_
  rintro e w2 ⟨a1, c1, xs, rfl, hown, hsh, hlen, hd2, hg2⟩
  have hb2 : Below w.heap.size w w2 := below_of_grown hb1 hg2 (Nat.le_refl _)
  go_wp2_with fail
  go_ret
  exact ⟨a1, c1, xs, rfl, hown.lower (by omega), hsh, hlen, hb2⟩

end Go.Proofs.Ytboanhfmmhjepaa
