/- The draws of texts for Lex. -/
import Derived.Test.YtjnanlfahgjcbaaDoorDrawPick
import Derived.Test.YtjnanlfahgjcbaaDoorLexSpec3
import Derived.Deep.RegionWith
namespace Go.Proofs.YtjnanlfahgjcbaaDoor
open Go.RowKit

def texts25 : List ByteArray := [⟨#[99, 114, 101, 97, 116, 101]⟩, ⟨#[32]⟩, ⟨#[84, 97, 98, 108, 101]⟩, ⟨#[34, 97, 32, 34, 34, 98, 34]⟩, ⟨#[39, 105, 116, 39, 39, 115, 39]⟩, ⟨#[49, 50]⟩, ⟨#[40]⟩, ⟨#[41]⟩, ⟨#[44]⟩, ⟨#[60, 61]⟩, ⟨#[60, 62]⟩, ⟨#[45, 45, 32, 110, 111, 116, 101, 10]⟩, ⟨#[45]⟩, ⟨#[61]⟩, ⟨#[59]⟩, ⟨#[120, 95, 49]⟩, ⟨#[10]⟩, ⟨#[39, 39]⟩, ⟨#[48, 48, 55]⟩, ⟨#[49, 97]⟩, ⟨#[34, 34]⟩, ⟨#[39, 111, 112, 101, 110]⟩, ⟨#[49, 50, 51, 52, 53, 54, 55, 56, 57, 48]⟩, ⟨#[33]⟩, ⟨#[46]⟩]
theorem texts25_small : ∀ s ∈ texts25, s.size ≤ 10 := by unfold texts25; decide
def texts10 : List ByteArray := [⟨#[48]⟩, ⟨#[32]⟩, ⟨#[255]⟩, ⟨#[39]⟩, ⟨#[34]⟩, ⟨#[97]⟩, ⟨#[40]⟩, ⟨#[44]⟩, ⟨#[59]⟩, ⟨#[45]⟩]
theorem texts10_small : ∀ s ∈ texts10, s.size ≤ 1 := by unfold texts10; decide
def texts6 : List ByteArray := [⟨#[48]⟩, ⟨#[65]⟩, ⟨#[0]⟩, ⟨#[57]⟩, ⟨#[41]⟩, ⟨#[61]⟩]
theorem texts6_small : ∀ s ∈ texts6, s.size ≤ 1 := by unfold texts6; decide

def SomeText (n : Nat) (v : Value) : Prop := ∃ s : ByteArray, v = .string s ∧ s.size ≤ n

theorem append_size2 (a b : ByteArray) : (a ++ b).size = a.size + b.size := by simp

set_option maxRecDepth 100000 in
set_option maxHeartbeats 2000000 in
theorem specText {w0 : World} {a : Option Addr} {c : Nat} {l : List UInt8} {g : Nat} {w : World} (hd : Deck w0 a c l g w) :
    Calls Tryd.prog 20 #[.pointer (some ⟨g, 0, none⟩)] w (Drawn w0 a c l g w (SomeText 90)) := by
  go_enter Tryd.func20, Tryd.ntmps20
  go_wp2_with fail
  refine (l01Below hd 9 (by omega) (by omega)).mono ?_
  rintro e w1 ⟨v, ⟨x, rfl, hx0, hx1⟩, rfl, hd1, hg1⟩
  obtain ⟨n, rfl⟩ := Int.eq_ofNat_of_zero_le hx0
  go_wp2_with fail
  go_loopw [3, 5] (fun v i wr => ∃ (k : Nat) (t : ByteArray), v = .string t ∧ t.size ≤ 10 * k ∧ i = .int .i64 k ∧ k ≤ n ∧ Deck w0 a c l g wr ∧ w.grownBy wr (some g)) (fun _ i _ => n - (intOf i).toNat)
  case atStart => exact ⟨0, _, rfl, by decide, rfl, Nat.zero_le _, hd1, hg1⟩
  case round =>
    obtain ⟨k, t, rfl, hts, rfl, hk, hdr, hgr⟩ := hrel
    by_cases hlt : k < n
    · go_wp2_with fail
      refine (pickLit hdr texts25 25 rfl (fun s hs' => by have := texts25_small s hs'; unfold maxLen; omega) (by decide) (by decide) _ rfl).mono ?_
      rintro e w2 ⟨v, ⟨u, rfl, hu⟩, rfl, hd2, hg2⟩
      have hus := texts25_small u hu
      have hg3 := grown_trans (grown_alloc hgr _) hg2
      clear hg2
      go_wp2_with fail
      go_roundw
      case rel => exact ⟨k + 1, t ++ u, rfl, by rw [append_size2]; omega, by go_num, by omega, hd2, hg3⟩
      case measure => simp [intOf]; omega
    · go_wp2_with fail
      go_ret
      exact ⟨_, ⟨t, rfl, by omega⟩, rfl, hdr, hgr⟩

theorem Deck.drewn {w0 : World} {a : Option Addr} {c : Nat} {l : List UInt8} {g : Nat} {w : World} (hd : Deck w0 a c l g w) : Deck w0 a c l g w.drew := ⟨hd.bytes, hd.short, ⟨hd.below.os, hd.below.tape, hd.below.output, hd.below.size, hd.below.block⟩, hd.new, hd.cur⟩
theorem grown_drewn {a b : World} {r : Option Nat} (h : a.grownBy b r) : a.grownBy b.drew r := ⟨h.os, h.tape, h.output, h.size, h.block⟩

set_option maxRecDepth 100000 in
set_option maxHeartbeats 2000000 in
theorem specBent {w0 : World} {a : Option Addr} {c : Nat} {l : List UInt8} {g : Nat} {w : World} (hd : Deck w0 a c l g w) (s : ByteArray) (hs : s.size ≤ 100000) :
    Calls Tryd.prog 23 #[.pointer (some ⟨g, 0, none⟩), .string s] w (Drawn w0 a c l g w (SomeText 100001)) := by
  go_enter Tryd.func23, Tryd.ntmps23
  go_wp2_with fail
  refine (l01Below hd ((s.size : Int) + 1) (by omega) (by omega)).mono ?_
  rintro e w1 ⟨v, ⟨x, rfl, hx0, hx1⟩, rfl, hd1, hg1⟩
  obtain ⟨i, rfl⟩ := Int.eq_ofNat_of_zero_le hx0
  have hi : i ≤ s.size := by omega
  go_wp2_with fail
  refine (l01Below hd1 10 (by omega) (by omega)).mono ?_
  rintro e w2 ⟨v, ⟨y, rfl, hy0, hy1⟩, rfl, hd2, hg2⟩
  have hg12 := grown_trans hg1 hg2
  clear hg1 hg2
  have hii : (i : Int) ≤ (s.size : Int) := by omega
  have h0i : (0 : Int) ≤ (i : Int) := by omega
  cases t0 : (y == 0) with
  | true =>
    go_wp2_with fail
    go_ret
    exact ⟨_, ⟨_, rfl, by simp; omega⟩, rfl, hd2, hg12⟩
  | false =>
    cases t1 : (y == 1) with
    | true =>
      go_wp2_with fail
      go_region_with (go_at_call 30; refine (pickLit hd2.drewn texts10 10 rfl (fun s hs' => by have := texts10_small s hs'; unfold maxLen; omega) (by decide) (by decide) _ rfl).mono ?_; rintro e w3 ⟨v, ⟨u, rfl, hu⟩, rfl, hd3, hg3⟩; have hus := texts10_small u hu)
      all_goals go_wp2_with fail
      all_goals go_ret
      all_goals exact ⟨_, ⟨_, rfl, by simp; omega⟩, rfl, hd3, grown_trans (grown_alloc (grown_drewn hg12) _) hg3⟩
    | false =>
      cases t2 : (y == 2) with
      | true =>
        by_cases hlt : (i : Int) < (s.size : Int)
        · have hw1 : IntKind.i64.wrap ((i : Int) + 1) = (i : Int) + 1 := by rw [IntWalk.i64_in _ (by omega)]
          have hi1 : (i : Int) + 1 ≤ (s.size : Int) := by omega
          have h0i1 : (0 : Int) ≤ (i : Int) + 1 := by omega
          go_wp2_with fail
          go_region_with (go_at_call 30; refine (pickLit hd2.drewn texts6 6 rfl (fun s hs' => by have := texts6_small s hs'; unfold maxLen; omega) (by decide) (by decide) _ rfl).mono ?_; rintro e w3 ⟨v, ⟨u, rfl, hu⟩, rfl, hd3, hg3⟩; have hus := texts6_small u hu)
          all_goals go_wp2_with fail
          all_goals go_ret
          all_goals exact ⟨_, ⟨_, rfl, by simp; omega⟩, rfl, hd3, grown_trans (grown_alloc (grown_drewn hg12) _) hg3⟩
        · go_wp2_with fail
          go_ret
          exact ⟨_, ⟨_, rfl, by omega⟩, rfl, hd2, hg12⟩
      | false =>
        go_wp2_with fail
        go_ret
        exact ⟨_, ⟨_, rfl, by omega⟩, rfl, hd2, hg12⟩

theorem zeroConv {W : World} {B : Nat} {A : Option Addr} {n : Nat} (h : W.ownsRow B 5 1 (.slice A n n) n (madeCells (Value.int .u8 0).cells (n * 1)).toList) :
    ∃ t : ByteArray, (convert 22 9 (.slice A n n)).run Tryd.prog W = .ok (.string t) W ∧ t.size = n := by
  have hm := toList_madeCells_one (.int .u8 0) (n * 1)
  have hl : (List.replicate n (0 : UInt8)).length = n := List.length_replicate
  have ho : OwnB W B A n (List.replicate n (0 : UInt8)) := by
    unfold OwnB
    rw [hl]
    have e : bcells (List.replicate n (0 : UInt8)) = (madeCells (Value.int .u8 0).cells (n * 1)).toList := by
      refine Eq.trans ?_ hm.symm
      unfold bcells
      rw [List.map_replicate, Nat.mul_one]
      rfl
    rw [e]
    exact h
  have hc := convBytes ho
  rw [hl] at hc
  exact ⟨_, hc, by show (List.replicate n (0 : UInt8)).toArray.size = n; rw [List.size_toArray, hl]⟩

set_option maxRecDepth 100000 in
set_option maxHeartbeats 2000000 in
theorem specDrawLex (a : Option Addr) (c : Nat) (l : List UInt8) (w : World) (hb : Bytes w a c l) (hs : l.length ≤ 1048576) :
    Calls Tryd.prog 9 #[.slice a l.length c] w fun e w' => ∃ s : ByteArray, e = .returned (.string s) ∧ s.size ≤ 100001 ∧ Below w.heap.size w w' := by
  obtain ⟨i0, hi0, hz0, hz1, hz2⟩ := info_parts Tryd.infoByte
  go_enter Tryd.func9, Tryd.ntmps9
  go_wp2_with fail
  refine (l01New a c l w hb hs).mono ?_
  rintro e w1 ⟨rfl, hd1, hb1, hzz⟩
  clear hzz
  have hs1 := hb1.size
  go_wp2_with fail
  refine (specText hd1).mono ?_
  rintro e w2 ⟨v, ⟨t, rfl, ht⟩, rfl, hd2, hg2⟩
  have B2 : Below w.heap.size w w2 := hb1.grown hg2 hs1 (fun k hk => by cases hk; exact Nat.le_refl _)
  have hs2 := B2.size
  clear hg2
  go_wp2_with fail
  refine (l01Once hd2 30 (by omega) (by omega)).mono ?_
  rintro e w3 ⟨v, ⟨b, rfl⟩, rfl, hd3, hg3⟩
  have B3 : Below w.heap.size w w3 := B2.grown hg3 hs2 (fun k hk => by cases hk; exact Nat.le_refl _)
  have hs3 := B3.size
  clear hg3
  cases b with
  | true =>
    go_wp2_with fail
    refine (l01Below hd3 3 (by omega) (by omega)).mono ?_
    rintro e w4 ⟨v, ⟨x, rfl, hx0, hx1⟩, rfl, hd4, hg4⟩
    obtain ⟨k, rfl⟩ := Int.eq_ofNat_of_zero_le hx0
    have B4 : Below w.heap.size w w4 := B3.grown hg4 hs3 (fun k hk => by cases hk; exact Nat.le_refl _)
    clear hg4
    have hwr : IntKind.i64.wrap (19999 + (k : Int)) = ((19999 + k : Nat) : Int) := by rw [IntWalk.i64_in _ (by omega)]; omega
    have hb16 : i0.bytes * (19999 + k) ≤ 281474976710656 := by rw [hz2]; omega
    go_wp2_with (at_make; refine wpList_make_full _ rfl _ _ 22 rfl w4.heap.size 5 i0 (.int .u8 0) 1 Tryd.underlying22 hi0 hz0 hz1 .i64 .i64 _ _ (19999 + k) rfl rfl (by first | rfl | exact hwr | omega) (by first | rfl | exact hwr | omega) hb16 (by unfold maxLen; omega) (Nat.le_refl _) ?_; intro w5 hown hg; obtain ⟨t5, hcv, ht5⟩ := zeroConv hown; clear hown)
    go_ret
    exact ⟨t5, rfl, by omega, B4.grown hg B4.size (fun k hk => by cases hk)⟩
  | false =>
    go_wp2_with fail
    refine (specBent hd3 t (by omega)).mono ?_
    rintro e w4 ⟨v, ⟨u, rfl, hu⟩, rfl, hd4, hg4⟩
    have B4 : Below w.heap.size w w4 := B3.grown hg4 hs3 (fun k hk => by cases hk; exact Nat.le_refl _)
    go_wp2_with fail
    go_ret
    exact ⟨u, rfl, hu, B4⟩

end Go.Proofs.YtjnanlfahgjcbaaDoor
