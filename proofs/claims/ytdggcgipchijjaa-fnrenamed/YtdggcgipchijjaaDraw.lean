/- The draws: a cursor over bytes; what it draws is within bounds, and it turns its own block alone. -/
import Derived.Test.YtdggcgipchijjaaMem
import Derived.Deep.RegionHeld3
namespace Go.Proofs.Ytdggcgipchijjaa
open Go.RowKit

/-- The slice (a, length of l, c) reads as the bytes l. -/
def Bytes (w : World) (a : Option Addr) (c : Nat) (l : List UInt8) : Prop :=
  l.length ≤ c ∧ c ≤ maxLen ∧ (a = none → c = 0) ∧
  (0 < l.length → ∃ b off, a = some ⟨b, off, none⟩ ∧ b < w.heap.size ∧ ∀ (i : Nat) (h : i < l.length), w.cell? ⟨b, off + i, none⟩ = some (.int .u8 (l[i].toNat : Int)))

theorem Bytes.below {w w' : World} {a : Option Addr} {c : Nat} {l : List UInt8} (h : Bytes w a c l) (hb : Below w.heap.size w w') : Bytes w' a c l := by
  obtain ⟨h1, h2, h3, h4⟩ := h
  refine ⟨h1, h2, h3, fun hp => ?_⟩
  obtain ⟨b, off, ha, hlt, hc⟩ := h4 hp
  exact ⟨b, off, ha, Nat.lt_of_lt_of_le hlt hb.size, fun i hi => (hb.cell (p := ⟨b, off + i, none⟩) hlt).trans (hc i hi)⟩

theorem Bytes.len {w : World} {a : Option Addr} {c : Nat} {l : List UInt8} (h : Bytes w a c l) : l.length ≤ 9223372036854775807 := by
  have h1 := h.1
  have h2 := h.2.1
  unfold maxLen at h2
  omega

/-- The cursor in block g, over the bytes (a, n, c). -/
def Cur (w : World) (g : Nat) (a : Option Addr) (n c : Nat) : Prop :=
  ∃ i h : Int, 0 ≤ i ∧ i ≤ n ∧ w.heap[g]? = some (.cells #[.slice a n c, .int .i64 i, .int .i64 h] 67 (0, 0))

/-- A cursor on the way: the bytes came in with the world w0. -/
structure Deck (w0 : World) (a : Option Addr) (c : Nat) (l : List UInt8) (g : Nat) (w : World) : Prop where
  bytes : Bytes w0 a c l
  short : l.length ≤ 1048576
  below : Below w0.heap.size w0 w
  new : w0.heap.size ≤ g
  cur : Cur w g a l.length c

theorem Deck.lt {w0 : World} {a : Option Addr} {c : Nat} {l : List UInt8} {g : Nat} {w : World} (h : Deck w0 a c l g w) : g < w.heap.size := by
  obtain ⟨i, hh, _, _, hg⟩ := h.cur
  rcases Nat.lt_or_ge g w.heap.size with hlt | hge
  · exact hlt
  · rw [Array.getElem?_eq_none hge] at hg; cases hg

/-- The cursor stays while other blocks turn. -/
theorem Deck.kept {w0 : World} {a : Option Addr} {c : Nat} {l : List UInt8} {g : Nat} {w w' : World} (h : Deck w0 a c l g w) {row : Option Nat} (hg : w.grownBy w' row) (hr : ∀ k, row = some k → w0.heap.size ≤ k ∧ k ≠ g) : Deck w0 a c l g w' := by
  refine ⟨h.bytes, h.short, h.below.grown hg h.below.size (fun k hk => (hr k hk).1), h.new, ?_⟩
  obtain ⟨i, hh, h1, h2, h3⟩ := h.cur
  exact ⟨i, hh, h1, h2, (hg.block g h.lt (fun e => (hr g e.symm).2 rfl)).trans h3⟩

theorem Deck.belowed {w0 : World} {a : Option Addr} {c : Nat} {l : List UInt8} {g : Nat} {w w' : World} (h : Deck w0 a c l g w) (hb : Below w.heap.size w w') : Deck w0 a c l g w' :=
  h.kept (row := none) ⟨hb.os, hb.tape, hb.output, hb.size, fun k hk _ => hb.block k hk⟩ (fun k hk => by cases hk)

/-- What a call that draws leaves. -/
def Drawn (w0 : World) (a : Option Addr) (c : Nat) (l : List UInt8) (g : Nat) (w : World) (P : Value → Prop) (e : Ending) (w' : World) : Prop :=
  ∃ v, P v ∧ e = .returned v ∧ Deck w0 a c l g w' ∧ w.grownBy w' (some g)

def IntIn (lo hi : Int) (v : Value) : Prop := ∃ x : Int, v = .int .i64 x ∧ lo ≤ x ∧ x ≤ hi

theorem i64_low8 (n : Int) : bits .and .i64 n 255 = n % 256 := by
  have hm : (BitVec.ofInt 64 255).toNat = 2 ^ 8 - 1 := by decide
  have key : (BitVec.ofInt 64 n &&& BitVec.ofInt 64 255).toNat = (n % ((2 ^ 64 : Nat) : Int)).toNat % 2 ^ 8 := by
    rw [BitVec.toNat_and, BitVec.toNat_ofInt, hm, Nat.and_two_pow_sub_one_eq_mod]
  show IntKind.i64.wrap ((BitVec.ofInt 64 n &&& BitVec.ofInt 64 255).toNat : Nat) = n % 256
  rw [key, IntKind.wrap_i64]
  omega

theorem i64_low30 (n : Int) : bits .and .i64 n 1073741823 = n % 1073741824 := by
  have hm : (BitVec.ofInt 64 1073741823).toNat = 2 ^ 30 - 1 := by decide
  have key : (BitVec.ofInt 64 n &&& BitVec.ofInt 64 1073741823).toNat = (n % ((2 ^ 64 : Nat) : Int)).toNat % 2 ^ 30 := by
    rw [BitVec.toNat_and, BitVec.toNat_ofInt, hm, Nat.and_two_pow_sub_one_eq_mod]
  show IntKind.i64.wrap ((BitVec.ofInt 64 n &&& BitVec.ofInt 64 1073741823).toNat : Nat) = n % 1073741824
  rw [key, IntKind.wrap_i64]
  omega

/-- Behind two stores into the cursor. -/
theorem Deck.turned {w0 : World} {a : Option Addr} {c : Nat} {l : List UInt8} {g : Nat} {w : World} (hd : Deck w0 a c l g w) {i h : Int} (hg : w.heap[g]? = some (.cells #[.slice a l.length c, .int .i64 i, .int .i64 h] 67 (0, 0)))
    {w' : World} (hw : w.grownBy w' (some g)) {i' h' : Int} (h0 : 0 ≤ i') (h1 : i' ≤ l.length) (hg' : w'.heap[g]? = some (.cells #[.slice a l.length c, .int .i64 i', .int .i64 h'] 67 (0, 0))) : Deck w0 a c l g w' :=
  ⟨hd.bytes, hd.short, hd.below.grown hw hd.below.size (fun k hk => by cases hk; exact hd.new), hd.new, ⟨i', h', h0, h1, hg'⟩⟩

theorem grown_set (w : World) (g j : Nat) (v : Value) : w.grownBy (w.setCell ⟨g, j, none⟩ v) (some g) :=
  ⟨rfl, rfl, rfl, by simp [World.setCell], fun k _ hne => Below.heap_setCell _ _ _ _ (fun e => hne (by rw [e]))⟩

theorem grown_trans {a b c : World} {row : Option Nat} (h : a.grownBy b row) (k : b.grownBy c row) : a.grownBy c row :=
  ⟨k.os.trans h.os, k.tape.trans h.tape, k.output.trans h.output, Nat.le_trans h.size k.size, fun i hi hne => (k.block i (Nat.lt_of_lt_of_le hi h.size) hne).trans (h.block i hi hne)⟩

theorem grown_drewN {a b : World} {row : Option Nat} (h : a.grownBy b row) (n : Nat) : a.grownBy (b.drewN n) row := ⟨h.os, h.tape, h.output, h.size, h.block⟩

set_option maxHeartbeats 1000000 in
theorem l01Byte {w0 : World} {a : Option Addr} {c : Nat} {l : List UInt8} {g : Nat} {w : World} (hd : Deck w0 a c l g w) :
    Calls Try.prog 55 #[.pointer (some ⟨g, 0, none⟩)] w (Drawn w0 a c l g w (IntIn 0 255)) := by
  obtain ⟨i, h, hi0, hi1, hg⟩ := hd.cur
  have c0 : w.cell? ⟨g, 0, none⟩ = some (.slice a l.length c) := by rw [cell_of_row _ _ _ _ _ _ hg]; rfl
  have c1 : w.cell? ⟨g, 1, none⟩ = some (.int .i64 i) := by rw [cell_of_row _ _ _ _ _ _ hg]; rfl
  have c2 : w.cell? ⟨g, 2, none⟩ = some (.int .i64 h) := by rw [cell_of_row _ _ _ _ _ _ hg]; rfl
  have f0 : ∀ j, w.frozen? ⟨g, j, none⟩ = false := fun j => frozen_of_row _ _ _ _ _ hg
  have f1 := f0 1
  have f2 := f0 2
  have hs := hd.short
  have hset : ∀ v, (w.setCell ⟨g, 2, none⟩ v).heap[g]? = some (.cells #[.slice a l.length c, .int .i64 i, v] 67 (0, 0)) := fun v => by
    rw [heap_setCell_same w g 2 _ _ _ hg]; rfl
  have HS := Lib.hid hset
  by_cases hlt : i < l.length
  · obtain ⟨k, rfl⟩ := Int.eq_ofNat_of_zero_le hi0
    have hk : k < l.length := by omega
    obtain ⟨b, off, rfl, hbl, hcs⟩ := hd.bytes.2.2.2 (by omega)
    have hbg : ¬ b = g := by have := hd.new; omega
    have hcb : w.cell? ⟨b, off + k, none⟩ = some (.int .u8 (l[k].toNat : Int)) := (hd.below.cell (p := ⟨b, off + k, none⟩) hbl).trans (hcs k hk)
    have HD := Lib.hid hd
    have HG := Lib.hid hg
    clear f0 hd hg hcs hset
    have hby : (l[k].toNat : Int) ≤ 255 := by have := UInt8.toNat_lt l[k]; omega
    go_enter Try.func55, Try.ntmps55
    go_wp2
    generalize wrap64 (wrap64 (h * 6364136223846793005) + 1442695040888963407) = h1
    go_quiet (fail)
    go_wp2
    generalize hx0 : bits BinOp.and IntKind.i64 (bits BinOp.xor IntKind.i64 (h1 / 8589934592) (h1 / 35184372088832)) 255 = x0
    have hb0 : 0 ≤ x0 ∧ x0 ≤ 255 := by rw [← hx0, i64_low8]; omega
    obtain ⟨hb1, hb2⟩ := hb0
    clear hx0
    go_quiet (fail)
    go_wp2
    go_quiet (fail)
    go_wp2
    go_ret
    have hW : ∀ m, w.grownBy (((w.setCell ⟨g, 2, none⟩ (.int .i64 h1)).drewN m).setCell ⟨g, 1, none⟩ (.int .i64 ((k : Int) + 1))) (some g) := fun m => grown_trans (grown_drewN (grown_set _ _ _ _) m) (grown_set _ _ _ _)
    have hH : ∀ m, (((w.setCell ⟨g, 2, none⟩ (.int .i64 h1)).drewN m).setCell ⟨g, 1, none⟩ (.int .i64 ((k : Int) + 1))).heap[g]? = some (.cells #[.slice (some ⟨b, off, none⟩) l.length c, .int .i64 ((k : Int) + 1), .int .i64 h1] 67 (0, 0)) := by
      intro m; rw [heap_setCell_same _ g 1 _ _ _ (show ((w.setCell ⟨g, 2, none⟩ (.int .i64 h1)).drewN m).heap[g]? = _ from HS.out _)]; rfl
    refine ⟨_, ⟨_, rfl, by rw [i64_low8]; omega, by rw [i64_low8]; omega⟩, rfl, ?_, ?_⟩
    · exact Deck.turned HD.out HG.out (hW _) (by omega) (by omega) (hH _)
    · exact hW _
  · have HD := Lib.hid hd
    have HG := Lib.hid hg
    clear f0 hd hg hset
    go_enter Try.func55, Try.ntmps55
    go_wp2
    generalize wrap64 (wrap64 (h * 6364136223846793005) + 1442695040888963407) = h1
    go_quiet (fail)
    go_wp2
    generalize hx0 : bits BinOp.and IntKind.i64 (bits BinOp.xor IntKind.i64 (h1 / 8589934592) (h1 / 35184372088832)) 255 = x0
    have hb0 : 0 ≤ x0 ∧ x0 ≤ 255 := by rw [← hx0, i64_low8]; omega
    clear hx0
    go_quiet (fail)
    go_wp2
    go_ret
    have hW : w.grownBy (w.setCell ⟨g, 2, none⟩ (.int .i64 h1)) (some g) := grown_set _ _ _ _
    refine ⟨_, ⟨_, rfl, hb0.1, hb0.2⟩, rfl, ?_, ?_⟩
    · exact Deck.turned HD.out HG.out (grown_drewN (grown_drewN hW _) _) hi0 hi1 (HS.out _)
    · exact grown_drewN (grown_drewN hW _) _

set_option maxRecDepth 100000 in
set_option maxHeartbeats 1000000 in
theorem l01New (a : Option Addr) (c : Nat) (l : List UInt8) (w : World) (hb : Bytes w a c l) (hs : l.length ≤ 1048576) :
    Calls Try.prog 28 #[.slice a l.length c] w fun e w' => e = .returned (.pointer (some ⟨w.heap.size, 0, none⟩)) ∧ Deck w a c l w.heap.size w' ∧ Below w.heap.size w w' ∧ w'.heap.size = w.heap.size + 1 := by
  have hl := hb.len
  go_enter Try.func28, Try.ntmps28
  go_wp2
  go_loop [3, 4] (fun q i => ∃ (k : Nat) (h : Int), k ≤ l.length ∧ i = .int .i64 k ∧ q = .int .i64 h ∧ 0 ≤ h ∧ h ≤ 1073741823) (fun _ i => l.length - (intOf i).toNat)
  case atStart => exact ⟨0, _, Nat.zero_le _, rfl, rfl, by omega, by omega⟩
  case round =>
    obtain ⟨k, h, hk, rfl, rfl, h0, h1⟩ := hrel
    by_cases hlt : k < l.length
    · obtain ⟨b, off, rfl, hbl, hcs⟩ := hb.2.2.2 (by omega)
      have hcb := hcs k hlt
      have hby : (l[k].toNat : Int) ≤ 255 := by have := UInt8.toNat_lt l[k]; omega
      clear hcs
      by_cases h4 : k < 4000
      · go_wp2
        go_round
        case rel => exact ⟨k + 1, _, by omega, by go_num, rfl, by rw [i64_low30]; omega, by rw [i64_low30]; omega⟩
        case measure => simp [intOf]; omega
      · go_wp2
        go_ret
        refine ⟨rfl, ⟨hb, hs, (Below.refl _ _).alloc (Nat.le_refl _) _, Nat.le_refl _, 0, h, by omega, by omega, heap_alloc_new _ _⟩, (Below.refl _ _).alloc (Nat.le_refl _) _, by simp⟩
    · go_wp2
      go_ret
      refine ⟨rfl, ⟨hb, hs, (Below.refl _ _).alloc (Nat.le_refl _) _, Nat.le_refl _, 0, h, by omega, by omega, heap_alloc_new _ _⟩, (Below.refl _ _).alloc (Nat.le_refl _) _, by simp⟩

theorem lawsBig (a : Option Addr) (c n : Nat) (w : World) : Calls Try.prog 7 #[.slice a n c] w fun e w' => e = .returned (.bool (decide (1048576 < n))) ∧ w = w' := by
  go_enter Try.func7, Try.ntmps7
  go_wp2
  go_ret
  exact ⟨by simp; omega, rfl⟩

set_option maxHeartbeats 1000000 in
theorem l01Below {w0 : World} {a : Option Addr} {c : Nat} {l : List UInt8} {g : Nat} {w : World} (hd : Deck w0 a c l g w) (n : Int) (hn0 : 1 ≤ n) (hn1 : n ≤ 4294967296) :
    Calls Try.prog 47 #[.pointer (some ⟨g, 0, none⟩), .int .i64 n] w (Drawn w0 a c l g w (IntIn 0 (n - 1))) := by
  have hne : ¬ n = 0 := by omega
  by_cases h : n ≤ 256
  · go_enter Try.func47, Try.ntmps47
    go_wp2_with (go_at_call 55; refine (l01Byte hd).mono ?_; rintro e w1 ⟨v, ⟨x, rfl, hx0, hx1⟩, rfl, hd1, hg1⟩)
    go_ret
    exact ⟨_, ⟨_, rfl, Int.emod_nonneg _ hne, by have := Int.emod_lt_of_pos x (show 0 < n by omega); omega⟩, rfl, hd1, hg1⟩
  · go_enter Try.func47, Try.ntmps47
    go_wp2_with fail
    refine (l01Byte hd).mono ?_
    rintro e w1 ⟨v, ⟨x, rfl, hx0, hx1⟩, rfl, hd1, hg1⟩
    go_wp2_with fail
    refine (l01Byte hd1).mono ?_
    rintro e w2 ⟨v, ⟨y, rfl, hy0, hy1⟩, rfl, hd2, hg2⟩
    go_wp2_with fail
    refine (l01Byte hd2).mono ?_
    rintro e w3 ⟨v, ⟨z, rfl, hz0, hz1⟩, rfl, hd3, hg3⟩
    go_wp2_with fail
    refine (l01Byte hd3).mono ?_
    rintro e w4 ⟨v, ⟨u, rfl, hu0, hu1⟩, rfl, hd4, hg4⟩
    go_wp2_with fail
    go_ret
    refine ⟨_, ⟨_, rfl, Int.emod_nonneg _ hne, ?_⟩, rfl, hd4, grown_trans (grown_trans (grown_trans hg1 hg2) hg3) hg4⟩
    have := Int.emod_lt_of_pos (x * 16777216 + y * 65536 + z * 256 + u) (show 0 < n by omega)
    omega

end Go.Proofs.Ytdggcgipchijjaa
