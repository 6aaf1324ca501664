/- The draws of texts: a pick out of a list, a list of short texts. -/
import Derived.Test.YtjnanlfahgjcbaaDrawPick
import Derived.Test.YtjnanlfahgjcbaaPutSpec
namespace Go.Proofs.Ytjnanlfahgjcbaa
open Go.RowKit

/-- Texts of at most two letters. -/
def Short (xs : List ByteArray) : Prop := ∀ s ∈ xs, s.size ≤ 2

/-- A drawn list: new, of short texts. -/
def DrawnList (w0 : World) (a : Option Addr) (c : Nat) (l : List UInt8) (g : Nat) (w : World) (e : Ending) (w' : World) : Prop :=
  ∃ a1 c1 xs, e = .returned (.slice a1 (List.length xs) c1) ∧ Own w' w.heap.size a1 c1 xs ∧ Short xs ∧ xs.length ≤ 4 ∧ Deck w0 a c l g w' ∧ w.grownBy w' (some g)

def six : List ByteArray := [⟨#[97]⟩, ⟨#[98]⟩, ⟨#[99]⟩, ⟨#[97, 98]⟩, ⟨#[]⟩, ⟨#[66]⟩]

theorem putL_short {xs : List ByteArray} {s : ByteArray} (hx : Short xs) (hs : s.size ≤ 2) : Short (putL xs s) := by
  intro t ht
  rcases putL_mem ht with rfl | h
  · exact hs
  · exact hx t h

theorem Short.sizes {xs : List ByteArray} (h : Short xs) : ∀ s ∈ xs, s.size ≤ maxLen := fun s hs => by have := h s hs; unfold maxLen; omega

theorem six_short : Short six := by unfold Short six; decide

set_option maxHeartbeats 1000000 in
theorem l01List {w0 : World} {a : Option Addr} {c : Nat} {l : List UInt8} {g : Nat} {w : World} (hd : Deck w0 a c l g w) :
    Calls Try.prog 24 #[.pointer (some ⟨g, 0, none⟩)] w (DrawnList w0 a c l g w) := by
  obtain ⟨i0, hi0, hz0, hz1, hz2⟩ := info_parts Try.infoString
  have hgl := hd.lt
  go_enter Try.func24, Try.ntmps24
  go_wp2_with fail
  refine (l01Below (hd.alloc _) 5 (by omega) (by omega)).mono ?_
  rintro e w1 ⟨v, ⟨x, rfl, hx0, hx1⟩, rfl, hd1, hg1⟩
  obtain ⟨m, rfl⟩ := Int.eq_ofNat_of_zero_le hx0
  have hm : m ≤ 4 := by omega
  have hown1 : Own w1 w.heap.size (some ⟨w.heap.size, 0, none⟩) 0 [] := (ownEmpty w).draw hg1 hgl
  have hgw1 : w.grownBy w1 (some g) := grown_trans (grown_alloc (World.grownBy.refl w _) _) hg1
  clear hg1 hx0 hx1
  go_wp2_with fail
  go_loopw [3, 5] (fun v i wr => ∃ (k : Nat) (a1 : Option Addr) (c1 : Nat) (xs : List ByteArray), k ≤ m ∧ i = .int .i64 k ∧ v = .slice a1 xs.length c1 ∧ Own wr w.heap.size a1 c1 xs ∧ Short xs ∧ xs.length ≤ k ∧ Deck w0 a c l g wr ∧ w.grownBy wr (some g)) (fun _ i _ => m - (intOf i).toNat)
  case atStart => exact ⟨0, _, _, [], Nat.zero_le _, rfl, rfl, hown1, by simp [Short], by simp, hd1, hgw1⟩
  case round =>
    obtain ⟨k, a1, c1, xs, hk, rfl, rfl, hown, hsh, hxl, hdr, hgr⟩ := hrel
    clear hown1 hd1 hgw1
    by_cases hlt : k < m
    · go_wp2_with fail
      refine (pickLit hdr six 6 rfl six_short.sizes (by decide) (by decide) _ rfl).mono ?_
      rintro e w2 ⟨v, ⟨s, rfl, hs⟩, rfl, hd2, hg2⟩
      have hs2 : s.size ≤ 2 := six_short s hs
      have hsm : s.size ≤ maxLen := by unfold maxLen; omega
      have hown2 : Own w2 w.heap.size a1 c1 xs := (hown.alloc _).draw hg2 hgl
      have hgr2 : w.grownBy w2 (some g) := grown_trans (grown_alloc hgr _) hg2
      go_wp2_with fail
      refine (l01Once hd2 2 (by omega) (by omega)).mono ?_
      rintro e w3 ⟨v, ⟨b, rfl⟩, rfl, hd3, hg3⟩
      have hown3 : Own w3 w.heap.size a1 c1 xs := hown2.draw hg3 hgl
      have hgr3 : w.grownBy w3 (some g) := grown_trans hgr2 hg3
      have hst3 := hown3.strs hsh.sizes
      have hsz3 := hgr3.size
      clear hown hown2 hdr hgr hgr2 hd2 hg2 hg3
      cases b with
      | true =>
        go_wp2_with (go_at_call 34; refine (specPut a1 c1 xs s _ hst3 hsm (by omega)).mono ?_; rintro e w4 ⟨a4, c4, rfl, hown4, hb4⟩)
        have hpl := putL_len xs s
        go_roundw
        case rel => exact ⟨k + 1, a4, c4, putL xs s, by omega, by go_num, rfl, hown4.lower hsz3, putL_short hsh hs2, by omega, hd3.belowed hb4, grown_below hgr3 hb4⟩
        case measure => simp [intOf]; omega
      | false =>
        go_wp2_with (at_builtin; refine wpAppendStrs rfl (.tmp 23) (.tmp 25) rfl i0 hi0 hz0 hz1 hz2 w.heap.size a1 c1 xs (some ⟨_, 0, none⟩) 1 [s] rfl (hown3.alloc _) rfl (strsOne _ _ hsm) (by simp only [List.length_cons, List.length_nil]; omega) (by simp; omega) ?_; intro a4 c4 w4 hown4 hg4)
        have hrow : ∀ j, (Value.slice a1 xs.length c1).ownBlock = some j → w.heap.size ≤ j := fun j hj => (hown3.lt hj).1
        go_roundw
        case rel => exact ⟨k + 1, a4, c4, xs ++ [s], by omega, by go_num, by simp, hown4, (fun t ht => by
          rcases List.mem_append.1 ht with h | h
          · exact hsh t h
          · simp at h; subst h; exact hs2), by simp; omega, (hd3.alloc _).kept hg4 (fun j hj => ⟨by have := hrow j hj; have := hd3.below.size; have := hd3.new; omega, by have := hrow j hj; omega⟩), grown_any (grown_alloc hgr3 _) hg4 hrow⟩
        case measure => simp [intOf]; omega
    · obtain rfl : k = m := by omega
      go_wp2_with fail
      go_ret
      exact ⟨a1, c1, xs, rfl, hown, hsh, by omega, hdr, hgr⟩

end Go.Proofs.Ytjnanlfahgjcbaa
