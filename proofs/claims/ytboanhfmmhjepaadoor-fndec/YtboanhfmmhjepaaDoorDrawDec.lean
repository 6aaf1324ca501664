/- The draws of numbers and of their texts. -/
import Derived.Test.YtboanhfmmhjepaaDoorDrawPick
import Derived.Test.YtboanhfmmhjepaaDoorReadDec
namespace Go.Proofs.YtboanhfmmhjepaaDoor
open Go.RowKit

/-- A number that an int can be. -/
def IsInt (v : Value) : Prop := ∃ x : Int, v = .int .i64 x ∧ -9223372036854775808 ≤ x ∧ x ≤ 9223372036854775807

set_option maxHeartbeats 1000000 in
theorem l01PickInt {w0 : World} {a : Option Addr} {c : Nat} {l : List UInt8} {g : Nat} {w : World} (hd : Deck w0 a c l g w) (b n : Nat) (cs : Array Value) (hb : w.heap[b]? = some (.cells cs 3 (0, 0))) (hbg : b ≠ g) (hn : cs.size = n) (h0 : 1 ≤ n) (h1 : n ≤ 1000)
    (hi : ∀ (k : Nat) (v : Value), cs[k]? = some v → IsInt v) :
    Calls Tryd.prog 21 #[.pointer (some ⟨g, 0, none⟩), .slice (some ⟨b, 0, none⟩) n n] w (Drawn w0 a c l g w IsInt) := by
  have hbl : b < w.heap.size := by
    rcases Nat.lt_or_ge b w.heap.size with hlt | hge
    · exact hlt
    · rw [Array.getElem?_eq_none hge] at hb; cases hb
  go_enter Tryd.func21, Tryd.ntmps21
  go_wp2_with fail
  refine (l01Below hd (n : Int) (by omega) (by omega)).mono ?_
  rintro e w1 ⟨v, ⟨x, rfl, hx0, hx1⟩, rfl, hd1, hg1⟩
  obtain ⟨k, rfl⟩ := Int.eq_ofNat_of_zero_le hx0
  have hk : k < cs.size := by omega
  obtain ⟨v, hv⟩ : ∃ v, cs[k]? = some v := ⟨cs[k], Array.getElem?_eq_getElem hk⟩
  obtain ⟨y, rfl, hy0, hy1⟩ := hi k v hv
  have hb1 : w1.heap[b]? = some (.cells cs 3 (0, 0)) := (hg1.block b hbl (fun e => hbg (by cases e; rfl))).trans hb
  have hc2 : w1.cell? ⟨b, k, none⟩ = some (.int .i64 y) := by rw [cell_of_row _ _ _ _ _ _ hb1]; exact hv
  have hkn : k < n := by omega
  have HV := Lib.hid hv
  have HI := Lib.hid hi
  clear hv hi hb hb1 hn hk
  go_wp2_with fail
  go_ret
  exact ⟨_, ⟨y, rfl, hy0, hy1⟩, rfl, hd1, hg1⟩

set_option maxRecDepth 100000 in
set_option maxHeartbeats 1000000 in
theorem l01Int {w0 : World} {a : Option Addr} {c : Nat} {l : List UInt8} {g : Nat} {w : World} (hd : Deck w0 a c l g w) :
    Calls Tryd.prog 14 #[.pointer (some ⟨g, 0, none⟩)] w fun e w' => ∃ x : Int, e = .returned (.int .i64 x) ∧ -9223372036854775808 ≤ x ∧ x ≤ 9223372036854775807 ∧ Deck w0 a c l g w' ∧ w.grownBy w' (some g) := by
  go_enter Tryd.func14, Tryd.ntmps14
  go_wp2_with fail
  refine (l01Below hd 100000 (by omega) (by omega)).mono ?_
  rintro e w1 ⟨v, ⟨x, rfl, hx0, hx1⟩, rfl, hd1, hg1⟩
  go_wp2_with fail
  refine (l01PickInt (hd1.alloc _) w1.heap.size 9 _ (heap_alloc_new _ _) (by have := hd1.lt; omega) rfl (by omega) (by omega) ?_).mono ?_
  · intro k v hv
    have hm := Array.mem_of_getElem? hv
    simp only [List.mem_toArray, List.mem_cons, List.not_mem_nil, or_false] at hm
    rcases hm with rfl | rfl | rfl | rfl | rfl | rfl | rfl | rfl | rfl <;> exact ⟨_, rfl, by omega, by omega⟩
  · rintro e w2 ⟨v, ⟨y, rfl, hy0, hy1⟩, rfl, hd2, hg2⟩
    go_wp2_with fail
    go_ret
    exact ⟨y, rfl, hy0, hy1, hd2, grown_trans (grown_alloc hg1 _) hg2⟩

set_option maxHeartbeats 1000000 in
theorem specDrawDecText (a : Option Addr) (c : Nat) (l : List UInt8) (w : World) (hb : Bytes w a c l) (hs : l.length ≤ 1048576) :
    Calls Tryd.prog 7 #[.slice a l.length c] w fun e w' => ∃ x : Int, e = .returned (.int .i64 x) ∧ -9223372036854775808 ≤ x ∧ x ≤ 9223372036854775807 ∧ Below w.heap.size w w' := by
  go_enter Tryd.func7, Tryd.ntmps7
  go_wp2_with fail
  refine (l01New a c l w hb hs).mono ?_
  rintro e w1 ⟨rfl, hd1, hb1, hz1⟩
  go_wp2_with fail
  refine (l01Int hd1).mono ?_
  rintro e w2 ⟨x, rfl, h0, h1, hd2, hg2⟩
  go_wp2_with fail
  go_ret
  exact ⟨x, rfl, h0, h1, hb1.grown hg2 hb1.size (fun k hk => by cases hk; exact Nat.le_refl _)⟩

def eight : List ByteArray := [⟨#[]⟩, ⟨#[45, 49]⟩, ⟨#[48, 48]⟩, ⟨#[48, 49]⟩, ⟨#[49, 120]⟩, ⟨#[57, 57, 57, 57, 57, 57, 57, 57, 57]⟩, ⟨#[49, 48, 48, 48, 48, 48, 48, 48, 48, 48]⟩, ⟨#[49, 56, 52, 52, 54, 55, 52, 52, 48, 55, 51, 55, 48, 57, 53, 53, 49, 54, 49, 55]⟩]
theorem eight_small : ∀ s ∈ eight, s.size ≤ 20 := by unfold eight; decide

set_option maxHeartbeats 1000000 in
theorem specDrawReadDec (a : Option Addr) (c : Nat) (l : List UInt8) (w : World) (hb : Bytes w a c l) (hs : l.length ≤ 1048576) :
    Calls Tryd.prog 9 #[.slice a l.length c] w fun e w' => ∃ s : ByteArray, e = .returned (.string s) ∧ s.size ≤ 1048576 ∧ Below w.heap.size w w' := by
  go_enter Tryd.func9, Tryd.ntmps9
  go_wp2_with fail
  refine (l01New a c l w hb hs).mono ?_
  rintro e w1 ⟨rfl, hd1, hb1, hz1⟩
  go_wp2_with fail
  refine (l01Once hd1 2 (by omega) (by omega)).mono ?_
  rintro e w2 ⟨v, ⟨b, rfl⟩, rfl, hd2, hg2⟩
  have hb2 : Below w.heap.size w w2 := hb1.grown hg2 hb1.size (fun k hk => by cases hk; exact Nat.le_refl _)
  cases b with
  | true =>
    go_wp2_with fail
    refine (pickLit hd2 eight 8 rfl (fun s hs' => by have := eight_small s hs'; unfold maxLen; omega) (by decide) (by decide) _ rfl).mono ?_
    rintro e w3 ⟨v, ⟨s, rfl, hs'⟩, rfl, hd3, hg3⟩
    have hss := eight_small s hs'
    have hb3 : Below w.heap.size w w3 := (hb2.alloc hb2.size _).grown hg3 (by have := hb2.size; simp; omega) (fun k hk => by cases hk; exact Nat.le_refl _)
    go_wp2_with fail
    go_ret
    exact ⟨s, rfl, by omega, hb3⟩
  | false =>
    go_wp2_with fail
    refine (l01Below hd2 100000 (by omega) (by omega)).mono ?_
    rintro e w3 ⟨v, ⟨x, rfl, hx0, hx1⟩, rfl, hd3, hg3⟩
    have hb3 : Below w.heap.size w w3 := hb2.grown hg3 hb2.size (fun k hk => by cases hk; exact Nat.le_refl _)
    go_wp2_with fail
    refine (specDecText x _ (by omega) (by omega)).mono ?_
    rintro e w4 ⟨rfl, rfl⟩
    have hlen : (dec x).size ≤ 1048576 := by
      have := Lib.itoa_length_le x (by omega) (by omega)
      simp [dec, ByteArray.size]
      omega
    go_wp2_with fail
    go_ret
    exact ⟨dec x, rfl, hlen, hb3⟩

end Go.Proofs.YtboanhfmmhjepaaDoor
