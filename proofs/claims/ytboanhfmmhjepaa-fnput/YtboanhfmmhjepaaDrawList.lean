/- The draws of texts: a pick out of a list, a list of short texts. -/
import Derived.Test.YtboanhfmmhjepaaDraw
import Derived.Test.YtboanhfmmhjepaaPutSpec
namespace Go.Proofs.Ytboanhfmmhjepaa
open Go.RowKit

/-- Texts of at most two letters. -/
def Short (xs : List ByteArray) : Prop := ∀ s ∈ xs, s.size ≤ 2

def TextIn (xs : List ByteArray) (v : Value) : Prop := ∃ s, v = .string s ∧ s ∈ xs

theorem Strs.grown {w w' : World} {a : Option Addr} {c : Nat} {xs : List ByteArray} (h : Strs w a c xs) {g : Nat} (hg : w.grownBy w' (some g)) (hne : ∀ b off, a = some ⟨b, off, none⟩ → b ≠ g) : Strs w' a c xs := by
  obtain ⟨h1, h2, h3, h3', h4⟩ := h
  refine ⟨h1, h2, h3, h3', fun hp => ?_⟩
  obtain ⟨b, off, ha, hlt, hc⟩ := h4 hp
  refine ⟨b, off, ha, Nat.lt_of_lt_of_le hlt hg.size, fun i hi => ?_⟩
  rw [World.cell?_of_block (w := w) (w' := w') (a := ⟨b, off + i, none⟩) (hg.block b hlt (fun e => hne b off ha (by cases e; rfl)))]
  exact hc i hi

set_option maxHeartbeats 1000000 in
theorem l01Pick {w0 : World} {a : Option Addr} {c : Nat} {l : List UInt8} {g : Nat} {w : World} (hd : Deck w0 a c l g w) (b : Nat) (cx : Nat) (xs : List ByteArray) (hx : Strs w (some ⟨b, 0, none⟩) cx xs) (hb : b ≠ g) (h0 : 1 ≤ xs.length) (h1 : xs.length ≤ 1000000) :
    Calls Try.prog 41 #[.pointer (some ⟨g, 0, none⟩), .slice (some ⟨b, 0, none⟩) xs.length cx] w (Drawn w0 a c l g w (TextIn xs)) := by
  go_enter Try.func41, Try.ntmps41
  go_wp2_with fail
  refine (l01Below hd (xs.length : Int) (by omega) (by omega)).mono ?_
  rintro e w1 ⟨v, ⟨x, rfl, hx0, hx1⟩, rfl, hd1, hg1⟩
  obtain ⟨k, rfl⟩ := Int.eq_ofNat_of_zero_le hx0
  have hk : k < xs.length := by omega
  have hs1 := hx.grown hg1 (fun b' off' e => by cases e; exact hb)
  have hc2 : w1.cell? ⟨b, k, none⟩ = some (.string xs[k]) := by
    obtain ⟨b', off', e, _, h⟩ := hs1.spot hk
    cases e
    simpa using h
  go_wp2_with fail
  go_ret
  exact ⟨_, ⟨_, rfl, List.getElem_mem hk⟩, rfl, hd1, hg1⟩

/-- A new row of texts that is laid in one go. -/
theorem strsLit (w : World) (xs : List ByteArray) (hs : ∀ s ∈ xs, s.size ≤ maxLen) (hn : xs.length ≤ 1000000) :
    Strs (w.alloc (.cells (xs.map Value.string).toArray 9)) (some ⟨w.heap.size, 0, none⟩) xs.length xs := by
  refine ⟨Nat.le_refl _, by unfold maxLen; omega, hs, (fun h => by cases h), fun _ => ⟨w.heap.size, 0, rfl, by simp, fun i hi => ?_⟩⟩
  rw [cell_of_row _ _ _ _ _ _ (heap_alloc_new w _)]
  simp [hi]

theorem Deck.alloc {w0 : World} {a : Option Addr} {c : Nat} {l : List UInt8} {g : Nat} {w : World} (h : Deck w0 a c l g w) (o : Obj) : Deck w0 a c l g (w.alloc o) :=
  h.belowed ((Below.refl _ _).alloc (Nat.le_refl _) _)

/-- The call draws out of a list that it lays. -/
theorem pickLit {w0 : World} {a : Option Addr} {c : Nat} {l : List UInt8} {g : Nat} {w : World} (hd : Deck w0 a c l g w) (xs : List ByteArray) (n : Nat) (hl : n = xs.length) (hs : ∀ s ∈ xs, s.size ≤ maxLen) (h0 : 1 ≤ xs.length) (h1 : xs.length ≤ 1000000) (cs : Array Value) (hcs : cs = (xs.map Value.string).toArray) :
    Calls Try.prog 41 #[.pointer (some ⟨g, 0, none⟩), .slice (some ⟨w.heap.size, 0, none⟩) n n] (w.alloc (.cells cs 9)) (Drawn w0 a c l g (w.alloc (.cells cs 9)) (TextIn xs)) := by
  subst hl hcs
  exact l01Pick (hd.alloc _) w.heap.size xs.length xs (strsLit w xs hs h1) (by have := hd.lt; omega) h0 h1

/-- A drawn list: new, of short texts. -/
def DrawnList (w0 : World) (a : Option Addr) (c : Nat) (l : List UInt8) (g : Nat) (w : World) (e : Ending) (w' : World) : Prop :=
  ∃ a1 c1 xs, e = .returned (.slice a1 (List.length xs) c1) ∧ Own w' w.heap.size a1 c1 xs ∧ Short xs ∧ xs.length ≤ 4 ∧ Deck w0 a c l g w' ∧ w.grownBy w' (some g)

def six : List ByteArray := [⟨#[97]⟩, ⟨#[98]⟩, ⟨#[99]⟩, ⟨#[97, 98]⟩, ⟨#[]⟩, ⟨#[66]⟩]

theorem putL_short {xs : List ByteArray} {s : ByteArray} (hx : Short xs) (hs : s.size ≤ 2) : Short (putL xs s) := by
  intro t ht
  rcases putL_mem ht with rfl | h
  · exact hs
  · exact hx t h

theorem Short.sizes {xs : List ByteArray} (h : Short xs) : ∀ s ∈ xs, s.size ≤ maxLen := fun s hs => by have := h s hs; unfold maxLen; omega

theorem Own.draw {w w' : World} {lo g : Nat} {a : Option Addr} {c : Nat} {xs : List ByteArray} (h : Own w lo a c xs) (hg : w.grownBy w' (some g)) (hlt : g < lo) : Own w' lo a c xs :=
  h.kept hg (fun k hk e => by cases e; have := (h.lt hk).1; omega)

theorem six_short : Short six := by unfold Short six; decide

/-- A row of the call's own grows while the cursor stands. -/
theorem grown_any {a b c : World} {g : Nat} {row : Option Nat} (h : a.grownBy b (some g)) (k : b.grownBy c row) (hr : ∀ j, row = some j → a.heap.size ≤ j) : a.grownBy c (some g) :=
  ⟨k.os.trans h.os, k.tape.trans h.tape, k.output.trans h.output, Nat.le_trans h.size k.size, fun i hi hne => (k.block i (Nat.lt_of_lt_of_le hi h.size) (fun e => by have := hr i e.symm; omega)).trans (h.block i hi hne)⟩

theorem grown_below {a b c : World} {g : Nat} (h : a.grownBy b (some g)) (k : Below b.heap.size b c) : a.grownBy c (some g) :=
  grown_any h (row := none) ⟨k.os, k.tape, k.output, k.size, fun i hi _ => k.block i hi⟩ (fun j e => by cases e)

theorem grown_alloc {a b : World} {g : Nat} (h : a.grownBy b (some g)) (o : Obj) : a.grownBy (b.alloc o) (some g) := grown_below h ((Below.refl _ _).alloc (Nat.le_refl _) _)

set_option maxHeartbeats 1000000 in
theorem l01List {w0 : World} {a : Option Addr} {c : Nat} {l : List UInt8} {g : Nat} {w : World} (hd : Deck w0 a c l g w) :
    Calls Try.prog 42 #[.pointer (some ⟨g, 0, none⟩)] w (DrawnList w0 a c l g w) := by
  obtain ⟨i0, hi0, hz0, hz1, hz2⟩ := info_parts Try.infoString
  have hgl := hd.lt
  go_enter Try.func42, Try.ntmps42
  go_wp2_with fail
  refine (l01Below (hd.alloc _) 5 (by omega) (by omega)).mono ?_
  rintro e w1 ⟨v, ⟨x, rfl, hx0, hx1⟩, rfl, hd1, hg1⟩
  obtain ⟨m, rfl⟩ := Int.eq_ofNat_of_zero_le hx0
  have hm : m ≤ 4 := by omega
  have hown1 : Own w1 w.heap.size (some ⟨w.heap.size, 0, none⟩) 0 [] := (ownEmpty w).draw hg1 hgl
  have hgw1 : w.grownBy w1 (some g) := grown_trans (grown_alloc (World.grownBy.refl w _) _) hg1
  clear hg1 hx0 hx1
  go_wp2_with fail
  go_loopw [3, 5] (fun v i wr => ∃ (k : Nat) (a1 : Option Addr) (c1 : Nat) (xs : List ByteArray), k ≤ m ∧ i = .int .i64 k ∧ v = .slice a1 xs.length c1 ∧ Own wr w.heap.size a1 c1 xs ∧ Short xs ∧ xs.length ≤ k ∧ Deck w0 a c l g wr ∧ w.grownBy wr (some g)) (fun _ i _ => m - (intOf i).toNat)
  case atStart => exact ⟨0, _, _, [], Nat.zero_le _, rfl, rfl, hown1, by simp [Short], by simp, hd1, hgw1⟩
  case round =>
    obtain ⟨k, a1, c1, xs, hk, rfl, rfl, hown, hsh, hxl, hdr, hgr⟩ := hrel
    clear hown1 hd1 hgw1
    by_cases hlt : k < m
    · go_wp2_with fail
      refine (pickLit hdr six 6 rfl six_short.sizes (by decide) (by decide) _ rfl).mono ?_
      rintro e w2 ⟨v, ⟨s, rfl, hs⟩, rfl, hd2, hg2⟩
      have hs2 : s.size ≤ 2 := six_short s hs
      have hsm : s.size ≤ maxLen := by unfold maxLen; omega
      have hown2 : Own w2 w.heap.size a1 c1 xs := (hown.alloc _).draw hg2 hgl
      have hgr2 : w.grownBy w2 (some g) := grown_trans (grown_alloc hgr _) hg2
      go_wp2_with fail
      refine (l01Once hd2 2 (by omega) (by omega)).mono ?_
      rintro e w3 ⟨v, ⟨b, rfl⟩, rfl, hd3, hg3⟩
      have hown3 : Own w3 w.heap.size a1 c1 xs := hown2.draw hg3 hgl
      have hgr3 : w.grownBy w3 (some g) := grown_trans hgr2 hg3
      have hst3 := hown3.strs hsh.sizes
      have hsz3 := hgr3.size
      clear hown hown2 hdr hgr hgr2 hd2 hg2 hg3
      cases b with
      | true =>
        go_wp2_with (go_at_call 22; refine (specPut a1 c1 xs s _ hst3 hsm (by omega)).mono ?_; rintro e w4 ⟨a4, c4, rfl, hown4, hb4⟩)
        have hpl := putL_len xs s
        go_roundw
        case rel => exact ⟨k + 1, a4, c4, putL xs s, by omega, by go_num, rfl, hown4.lower hsz3, putL_short hsh hs2, by omega, hd3.belowed hb4, grown_below hgr3 hb4⟩
        case measure => simp [intOf]; omega
      | false =>
        go_wp2_with (at_builtin; refine wpAppendStrs rfl (.tmp 23) (.tmp 25) rfl i0 hi0 hz0 hz1 hz2 w.heap.size a1 c1 xs (some ⟨_, 0, none⟩) 1 [s] rfl (hown3.alloc _) rfl (strsOne _ _ hsm) (by simp only [List.length_cons, List.length_nil]; omega) (by simp; omega) ?_; intro a4 c4 w4 hown4 hg4)
        have hrow : ∀ j, (Value.slice a1 xs.length c1).ownBlock = some j → w.heap.size ≤ j := fun j hj => (hown3.lt hj).1
        go_roundw
        case rel => exact ⟨k + 1, a4, c4, xs ++ [s], by omega, by go_num, by simp, hown4, (fun t ht => by
          rcases List.mem_append.1 ht with h | h
          · exact hsh t h
          · simp at h; subst h; exact hs2), by simp; omega, (hd3.alloc _).kept hg4 (fun j hj => ⟨by have := hrow j hj; have := hd3.below.size; have := hd3.new; omega, by have := hrow j hj; omega⟩), grown_any (grown_alloc hgr3 _) hg4 hrow⟩
        case measure => simp [intOf]; omega
    · obtain rfl : k = m := by omega
      go_wp2_with fail
      go_ret
      exact ⟨a1, c1, xs, rfl, hown, hsh, by omega, hdr, hgr⟩

end Go.Proofs.Ytboanhfmmhjepaa
