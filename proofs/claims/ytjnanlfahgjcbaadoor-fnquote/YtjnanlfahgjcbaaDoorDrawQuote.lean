/- The draws of texts to be quoted. -/
import Derived.Test.YtjnanlfahgjcbaaDoorDrawPick
import Derived.Test.YtjnanlfahgjcbaaDoorBytes1
namespace Go.Proofs.YtjnanlfahgjcbaaDoor
open Go.RowKit

set_option maxHeartbeats 1000000 in
theorem l01PickIntP {w0 : World} {a : Option Addr} {c : Nat} {l : List UInt8} {g : Nat} {w : World} (hd : Deck w0 a c l g w) (P : Int → Prop) (b n : Nat) (cs : Array Value) (hb : w.heap[b]? = some (.cells cs 3 (0, 0))) (hbg : b ≠ g) (hn : cs.size = n) (h0 : 1 ≤ n) (h1 : n ≤ 1000)
    (hi : ∀ (k : Nat) (v : Value), cs[k]? = some v → ∃ x : Int, v = .int .i64 x ∧ P x) :
    Calls Tryd.prog 31 #[.pointer (some ⟨g, 0, none⟩), .slice (some ⟨b, 0, none⟩) n n] w (Drawn w0 a c l g w (fun v => ∃ x : Int, v = .int .i64 x ∧ P x)) := by
  have hbl : b < w.heap.size := by
    rcases Nat.lt_or_ge b w.heap.size with hlt | hge
    · exact hlt
    · rw [Array.getElem?_eq_none hge] at hb; cases hb
  go_enter Tryd.func31, Tryd.ntmps31
  go_wp2_with fail
  refine (l01Below hd (n : Int) (by omega) (by omega)).mono ?_
  rintro e w1 ⟨v, ⟨x, rfl, hx0, hx1⟩, rfl, hd1, hg1⟩
  obtain ⟨k, rfl⟩ := Int.eq_ofNat_of_zero_le hx0
  have hk : k < cs.size := by omega
  obtain ⟨v, hv⟩ : ∃ v, cs[k]? = some v := ⟨cs[k], Array.getElem?_eq_getElem hk⟩
  obtain ⟨y, rfl, hy⟩ := hi k v hv
  have hb1 : w1.heap[b]? = some (.cells cs 3 (0, 0)) := (hg1.block b hbl (fun e => hbg (by cases e; rfl))).trans hb
  have hc2 : w1.cell? ⟨b, k, none⟩ = some (.int .i64 y) := by rw [cell_of_row _ _ _ _ _ _ hb1]; exact hv
  have hkn : k < n := by omega
  have HV := Lib.hid hv
  have HI := Lib.hid hi
  have HY := Lib.hid hy
  clear hv hi hb hb1 hn hk hy
  go_wp2_with fail
  go_ret
  exact ⟨_, ⟨y, rfl, HY.out⟩, rfl, hd1, hg1⟩

def texts5 : List ByteArray := [⟨#[]⟩, ⟨#[97]⟩, ⟨#[105, 116, 39, 115]⟩, ⟨#[34, 113, 34]⟩, ⟨#[39, 39]⟩]
/-- What FnQuote asks of a text. -/
def Quotable (s : ByteArray) : Prop := s.size ≤ 10 ∧ s.data.toList.contains 0 = false
theorem texts5_fit : ∀ s ∈ texts5, s.size ≤ 10 ∧ s.data.toList.contains 0 = false := by unfold texts5; decide

set_option maxRecDepth 100000 in
set_option maxHeartbeats 1000000 in
theorem specDrawQuote (a : Option Addr) (c : Nat) (l : List UInt8) (w : World) (hb : Bytes w a c l) (hs : l.length ≤ 1048576) :
    Calls Tryd.prog 13 #[.slice a l.length c] w fun e w' => ∃ (s : ByteArray) (y : UInt8), e = .returned (.tuple #[.string s, .int .u8 (y.toNat : Int)]) ∧ Quotable s ∧ Below w.heap.size w w' := by
  go_enter Tryd.func13, Tryd.ntmps13
  go_wp2_with fail
  refine (l01New a c l w hb hs).mono ?_
  rintro e w1 ⟨rfl, hd1, hb1, hz1⟩
  clear hz1
  go_wp2_with fail
  refine (pickLit hd1 texts5 5 rfl (fun s hs' => by have := (texts5_fit s hs').1; unfold maxLen; omega) (by decide) (by decide) _ rfl).mono ?_
  rintro e w2 ⟨v, ⟨s, rfl, hs'⟩, rfl, hd2, hg2⟩
  have hfit := texts5_fit s hs'
  have hb2 : Below w.heap.size w w2 := (hb1.alloc hb1.size _).grown hg2 (by have := hb1.size; simp; omega) (fun k hk => by cases hk; exact Nat.le_refl _)
  have hs2 := hb2.size
  have HF := Lib.hid hfit
  clear hfit hg2
  go_wp2_with fail
  refine (l01PickIntP (hd2.alloc _) (fun x => x = 34 ∨ x = 39 ∨ x = 97) w2.heap.size 4 _ (heap_alloc_new _ _) (by have := hd2.lt; omega) rfl (by omega) (by omega) ?_).mono ?_
  · intro k v hv
    have hm := Array.mem_of_getElem? hv
    simp only [List.mem_toArray, List.mem_cons, List.not_mem_nil, or_false] at hm
    rcases hm with rfl | rfl | rfl | rfl <;> exact ⟨_, rfl, by simp⟩
  · rintro e w3 ⟨v, ⟨x, rfl, hx⟩, rfl, hd3, hg3⟩
    have hb3 : Below w.heap.size w w3 := (hb2.alloc hs2 _).grown hg3 (by simp; omega) (fun k hk => by cases hk; exact Nat.le_refl _)
    rcases hx with rfl | rfl | rfl
    · go_wp2_with fail
      go_ret2
      exact ⟨s, 34, rfl, HF.out, hb3⟩
    · go_wp2_with fail
      go_ret2
      exact ⟨s, 39, rfl, HF.out, hb3⟩
    · go_wp2_with fail
      go_ret2
      exact ⟨s, 97, rfl, HF.out, hb3⟩

end Go.Proofs.YtjnanlfahgjcbaaDoor
