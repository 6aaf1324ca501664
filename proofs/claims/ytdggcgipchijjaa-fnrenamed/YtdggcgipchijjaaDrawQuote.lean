/- The draws of texts to be quoted. -/
import Derived.Test.YtdggcgipchijjaaDrawPick
import Derived.Test.YtdggcgipchijjaaBytes1
namespace Go.Proofs.Ytdggcgipchijjaa
open Go.RowKit

set_option maxHeartbeats 1000000 in
theorem l01PickIntP {w0 : World} {a : Option Addr} {c : Nat} {l : List UInt8} {g : Nat} {w : World} (hd : Deck w0 a c l g w) (P : Int → Prop) (b n : Nat) (cs : Array Value) (hb : w.heap[b]? = some (.cells cs 3 (0, 0))) (hbg : b ≠ g) (hn : cs.size = n) (h0 : 1 ≤ n) (h1 : n ≤ 1000)
    (hi : ∀ (k : Nat) (v : Value), cs[k]? = some v → ∃ x : Int, v = .int .i64 x ∧ P x) :
    Calls Try.prog 49 #[.pointer (some ⟨g, 0, none⟩), .slice (some ⟨b, 0, none⟩) n n] w (Drawn w0 a c l g w (fun v => ∃ x : Int, v = .int .i64 x ∧ P x)) := by
  have hbl : b < w.heap.size := by
    rcases Nat.lt_or_ge b w.heap.size with hlt | hge
    · exact hlt
    · rw [Array.getElem?_eq_none hge] at hb; cases hb
  go_enter Try.func49, Try.ntmps49
  go_wp2_with fail
  refine (l01Below hd (n : Int) (by omega) (by omega)).mono ?_
  rintro e w1 ⟨v, ⟨x, rfl, hx0, hx1⟩, rfl, hd1, hg1⟩
  obtain ⟨k, rfl⟩ := Int.eq_ofNat_of_zero_le hx0
  have hk : k < cs.size := by omega
  obtain ⟨v, hv⟩ : ∃ v, cs[k]? = some v := ⟨cs[k], Array.getElem?_eq_getElem hk⟩
  obtain ⟨y, rfl, hy⟩ := hi k v hv
  have hb1 : w1.heap[b]? = some (.cells cs 3 (0, 0)) := (hg1.block b hbl (fun e => hbg (by cases e; rfl))).trans hb
  have hc2 : w1.cell? ⟨b, k, none⟩ = some (.int .i64 y) := by rw [cell_of_row _ _ _ _ _ _ hb1]; exact hv
  have hkn : k < n := by omega
  have HV := Lib.hid hv
  have HI := Lib.hid hi
  have HY := Lib.hid hy
  clear hv hi hb hb1 hn hk hy
  go_wp2_with fail
  go_ret
  exact ⟨_, ⟨y, rfl, HY.out⟩, rfl, hd1, hg1⟩

def texts5 : List ByteArray := [⟨#[]⟩, ⟨#[97]⟩, ⟨#[105, 116, 39, 115]⟩, ⟨#[34, 113, 34]⟩, ⟨#[39, 39]⟩]
/-- What FnQuote asks of a text. -/
def Quotable (s : ByteArray) : Prop := s.size ≤ 10 ∧ s.data.toList.contains 0 = false
theorem texts5_fit : ∀ s ∈ texts5, s.size ≤ 10 ∧ s.data.toList.contains 0 = false := by unfold texts5; decide

end Go.Proofs.Ytdggcgipchijjaa
