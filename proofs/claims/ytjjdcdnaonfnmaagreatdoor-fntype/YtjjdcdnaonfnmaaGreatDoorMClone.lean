/- strings.Clone answers the same text. -/
/- How many letters a list of texts has. -/
/- The laws' own helpers over slices of texts: the size that is left, the copy, the equality. -/
/- spec.Has and impl.Has both answer whether a text stands in a list. -/
/- The reserved words: impl.isReserved and the model's list. -/
/- spec.DecText answers the decimal numeral. -/
/- The words of a text: plain mathematics over lists of bytes, nothing of the program. -/
/- spec.ReadDec answers the number that a text spells, or -1. -/
/- impl.DecText answers the decimal numeral, where strconv's table stands as the text lays it. -/
/- impl.ReadDec answers the number that a text spells, or -1. -/
/- Rows of bytes that the call itself makes; texts out of them. -/
/- One byte put behind a row of bytes that the call itself has made. -/
/- The model's small words over bytes: letters, digits, gaps, names. -/
/- The model's gaps. -/
/- The model's texts in small letters, quoted texts, names, signs. -/
import Derived.Test.YtjjdcdnaonfnmaaGreatDoorMShelf
import Derived.Test.YtjjdcdnaonfnmaaGreatDoorMMem
import Derived.Test.YtjjdcdnaonfnmaaGreatDoorRows
import Derived.WalkKit
import Derived.WalkLawsBesides
import Derived.WalkSpells
import Derived.Deep.QuietTactic
import Derived.BigQuiet
import Derived.Outline
import Derived.Lib.Strings
import Derived.Lib.Hide
import Derived.Lib.ItoaNum
import Derived.Lib.ItoaLen
import Derived.Lib.Atoi
import Derived.Lib.AtoiErr
import Derived.Below
import Derived.Lib.LaidTab
import Derived.Stop.LaidErr
import Derived.Lib.AppendStr
import Derived.Laws.BytesString
import Derived.Laws.Cells
import Derived.Lib.ConvBytes
import Derived.Deep.RegionHeld3
namespace Go.Proofs.YtjjdcdnaonfnmaaGreatDoor
open Go.RowKit

theorem stringsClone5 (s : ByteArray) (w : World) (hs : s.size ≤ 1048576) :
    Calls Tryz.prog 36 #[.string s] w fun e w' => e = .returned (.string s) ∧ Below w.heap.size w w' := by
  go_enter Tryz.func36, Tryz.ntmps36
  go_wp2_with fail
  refine (Tryz.stringslite_Clone s _ (by omega)).mono ?_
  rintro e w1 ⟨rfl, b1⟩
  go_wp2_with fail
  go_ret
  exact ⟨rfl, b1⟩

end Go.Proofs.YtjjdcdnaonfnmaaGreatDoor

namespace Go.Proofs.YtjjdcdnaonfnmaaGreatDoor

/-- How many letters the texts have together. -/
def lets (xs : List ByteArray) : Nat := (xs.map ByteArray.size).sum

theorem lets_take (xs : List ByteArray) (k : Nat) (h : k < xs.length) : lets (xs.take (k + 1)) = lets (xs.take k) + xs[k].size := by
  unfold lets
  rw [List.take_succ_eq_append_getElem h, List.map_append, List.sum_append]
  simp only [List.map_cons, List.map_nil, List.sum_cons, List.sum_nil, Nat.add_zero]

theorem lets_le (xs : List ByteArray) (k : Nat) : lets (xs.take k) ≤ lets xs := by
  unfold lets
  conv => rhs; rw [← List.take_append_drop k xs, List.map_append, List.sum_append]
  omega

theorem lets_mem {xs : List ByteArray} {s : ByteArray} (h : s ∈ xs) : s.size ≤ lets xs := by
  unfold lets
  induction xs with
  | nil => simp at h
  | cons x r ih =>
    simp only [List.map_cons, List.sum_cons]
    rcases List.mem_cons.1 h with rfl | h
    · omega
    · have := ih h; omega

end Go.Proofs.YtjjdcdnaonfnmaaGreatDoor

namespace Go.Proofs.YtjjdcdnaonfnmaaGreatDoor
open Go.RowKit

/-- What is left of 'left' behind the texts: -1 where it is not enough. -/
def leftOf (xs : List ByteArray) (left : Int) : Int := if left < xs.length + lets xs then -1 else left - xs.length - lets xs

def filled (xs : List ByteArray) (k : Nat) : List Value := (xs.take k).map Value.string ++ List.replicate (xs.length - k) (Value.string ByteArray.empty)

theorem filled_set (xs : List ByteArray) (k : Nat) (h : k < xs.length) : (filled xs k).set k (.string xs[k]) = filled xs (k + 1) := by
  unfold filled
  have hl : ((xs.take k).map Value.string).length = k := by simp; omega
  rw [List.set_append_right _ _ (by omega), hl, Nat.sub_self, show xs.length - k = (xs.length - (k + 1)) + 1 by omega, List.replicate_succ, List.set_cons_zero, List.take_succ_eq_append_getElem h, List.map_append, List.append_assoc]
  rfl

theorem filled_at (xs : List ByteArray) (k : Nat) (h : k < xs.length) : ∃ s, (filled xs k)[k]? = some (.string s) := by
  unfold filled
  have hl : ((xs.take k).map Value.string).length = k := by simp; omega
  rw [List.getElem?_append_right (by omega), hl, Nat.sub_self, List.getElem?_replicate, if_pos (by omega)]
  exact ⟨_, rfl⟩

theorem filled_all (xs : List ByteArray) : filled xs xs.length = xs.map Value.string := by simp [filled]
theorem filled_none (xs : List ByteArray) : filled xs 0 = List.replicate xs.length (Value.string ByteArray.empty) := by simp [filled]

/-- The two lists hold the same texts. -/
def eqB (xs ys : List ByteArray) : Bool := xs.map ByteArray.toList == ys.map ByteArray.toList

end Go.Proofs.YtjjdcdnaonfnmaaGreatDoor

namespace Go.Proofs.YtjjdcdnaonfnmaaGreatDoor
open Go.RowKit

def hasB (xs : List ByteArray) (s : ByteArray) : Bool := xs.any fun x => x.toList == s.toList

theorem hasB_take (xs : List ByteArray) (s : ByteArray) (k : Nat) (h : k < xs.length) : hasB (xs.take (k + 1)) s = (hasB (xs.take k) s || xs[k].toList == s.toList) := by
  unfold hasB
  rw [List.take_succ_eq_append_getElem h, List.any_append]
  simp only [List.any_cons, List.any_nil, Bool.or_false]

theorem hasB_hit (xs : List ByteArray) (s : ByteArray) (k : Nat) (h : k < xs.length) (he : (xs[k].toList == s.toList) = true) : hasB xs s = true :=
  List.any_eq_true.2 ⟨xs[k], List.getElem_mem h, he⟩

set_option maxHeartbeats 400000 in
theorem specHas (a : Option Addr) (c : Nat) (xs : List ByteArray) (s : ByteArray) (w : World) (hx : Strs w a c xs) :
    Calls Tryz.prog 39 #[.slice a xs.length c, .string s] w (Quiet w (.bool (hasB xs s))) := by
  have hl := hx.len
  go_enter Tryz.func39, Tryz.ntmps39
  go_wp2
  go_loop [5] (fun i => ∃ k : Nat, k ≤ xs.length ∧ i = .int .i64 k ∧ Hid (hasB (xs.take k) s = false)) (fun i => xs.length - (intOf i).toNat)
  case atStart => exact ⟨0, Nat.zero_le _, rfl, rfl⟩
  case round =>
    obtain ⟨k, hk, rfl, hno⟩ := hrel
    by_cases hlt : k < xs.length
    · obtain ⟨b, off, rfl, hb, hc⟩ := hx.spot hlt
      cases he : (xs[k].toList == s.toList) with
      | true =>
        have H := Lib.hid (hasB_hit xs s k hlt he)
        go_wp2
        go_ret
        exact ⟨by rw [H.out]; rfl, 0, rfl⟩
      | false =>
        have H : Hid (hasB (xs.take (k + 1)) s = false) := by unfold Hid; rw [hasB_take xs s k hlt, hno.out, he]; rfl
        go_wp2
        go_round
        case rel => exact ⟨k + 1, by omega, by go_num, H⟩
        case measure => simp [intOf]; omega
    · have H : Hid (hasB xs s = false) := by have := hno.out; rwa [List.take_of_length_le (by omega)] at this
      go_wp2
      go_ret
      exact ⟨by rw [H.out]; rfl, 0, rfl⟩

theorem beq_flip (a b : List UInt8) : (a == b) = (b == a) := by
  rw [Bool.eq_iff_iff, beq_iff_eq, beq_iff_eq]; exact eq_comm

end Go.Proofs.YtjjdcdnaonfnmaaGreatDoor

namespace Go.Proofs.YtjjdcdnaonfnmaaGreatDoor
open Go.RowKit

/-- The reserved words, byte by byte. -/
def keptW : List (List UInt8) := [[97, 100, 100], [97, 108, 108], [97, 108, 116, 101, 114], [97, 110, 100], [97, 115], [98, 111, 111, 108], [99, 104, 97, 114], [99, 104, 101, 99, 107], [99, 111, 108, 117, 109, 110], [99, 111, 110, 115, 116, 114, 97, 105, 110, 116], [99, 114, 101, 97, 116, 101], [100, 101, 102, 97, 117, 108, 116], [100, 114, 111, 112], [101, 110, 117, 109], [102, 97, 108, 115, 101], [102, 111, 114, 101, 105, 103, 110], [102, 114, 111, 109], [105, 110, 100, 101, 120], [105, 110, 116], [105, 115], [107, 101, 121], [110, 111, 116], [110, 117, 108, 108], [111, 110], [111, 114], [112, 114, 105, 109, 97, 114, 121], [114, 101, 102, 101, 114, 101, 110, 99, 101, 115], [115, 101, 108, 101, 99, 116], [115, 101, 113, 117, 101, 110, 99, 101], [115, 101, 116], [115, 116, 97, 114, 116], [116, 97, 98, 108, 101], [116, 101, 120, 116], [116, 111], [116, 114, 117, 101], [116, 121, 112, 101], [117, 110, 105, 113, 117, 101], [118, 105, 101, 119], [119, 104, 101, 114, 101]]
def keptB (l : List UInt8) : Bool := keptW.any fun x => l == x

theorem kept_hit {l x : List UInt8} (hx : x ∈ keptW) (h : (l == x) = true) : keptB l = true := List.any_eq_true.2 ⟨x, hx, h⟩

set_option maxRecDepth 100000 in
set_option maxHeartbeats 4000000 in
theorem implReserved (s : ByteArray) (w : World) (v : Bool) (hv : keptB s.toList = v) :
    Calls Tryz.prog 35 #[.string s] w fun e w' => e = .returned (.bool v) ∧ w = w' := by
  have HV := Lib.hid hv
  clear hv
  go_enter Tryz.func35, Tryz.ntmps35
  go_wp2_with fail
  all_goals first
    | (rename_i ha hb; exact Bool.noConfusion (ha.symm.trans hb))
    | (rename_i ha hb; go_ret; exact ⟨by rw [← HV.out, kept_hit (by decide) hb]; rfl, rfl⟩)
    | (have HN : Hid (keptB s.toList = false) := by
         unfold Hid keptB keptW
         simp only [List.any_cons, List.any_nil, *, Bool.or_false]
       go_ret
       exact ⟨by rw [← HV.out, HN.out]; rfl, rfl⟩)

end Go.Proofs.YtjjdcdnaonfnmaaGreatDoor

namespace Go.Proofs.YtjjdcdnaonfnmaaGreatDoor
open Go.RowKit

def dec (n : Int) : ByteArray := ⟨(Lib.itoa n).toArray⟩

/-- The digits of u ahead of out; none for 0. -/
def decOn (u : Nat) (out : List UInt8) : List UInt8 := if u = 0 then out else Lib.decDigits u ++ out

theorem decOn_step (u : Nat) (out : List UInt8) (h : 0 < u) : decOn u out = decOn (u / 10) (UInt8.ofNat (48 + u % 10) :: out) := by
  unfold decOn
  rw [if_neg (by omega)]
  by_cases h10 : u < 10
  · rw [if_pos (by omega), Lib.decDigits_one h10, Nat.mod_eq_of_lt h10]
    rfl
  · rw [if_neg (by omega), Lib.decDigits, dif_neg h10]
    simp

theorem digit_cut (d : Nat) (h : d < 10) : (⟨#[48, 49, 50, 51, 52, 53, 54, 55, 56, 57]⟩ : ByteArray).extract d (d + 1) = ⟨#[UInt8.ofNat (48 + d)]⟩ := by
  have : ∀ d : Fin 10, (⟨#[48, 49, 50, 51, 52, 53, 54, 55, 56, 57]⟩ : ByteArray).extract d.val (d.val + 1) = ⟨#[UInt8.ofNat (48 + d.val)]⟩ := by decide
  exact this ⟨d, h⟩

theorem ba_cons0 (x : UInt8) (out : List UInt8) : (⟨#[x]⟩ : ByteArray) ++ ⟨out.toArray⟩ = ⟨(x :: out).toArray⟩ := by
  apply ByteArray.ext
  simp [ByteArray.data_append]

theorem decOn_len (u n : Nat) (out : List UInt8) (h : decOn u out = Lib.decDigits n) (hn : n < 18446744073709551616) : out.length ≤ 20 := by
  have h1 := congrArg List.length h
  rw [Lib.decDigits_length] at h1
  have h2 := Lib.nDigits_le20 n hn
  unfold decOn at h1
  split at h1
  · omega
  · rw [List.length_append] at h1; omega

set_option maxHeartbeats 1000000 in
theorem specDecPos (n : Nat) (w : World) (h0 : 0 < n) (h1 : (n : Int) ≤ 9223372036854775807) :
    Calls Tryz.prog 18 #[.int .i64 (n : Int)] w fun e w' => e = .returned (.string ⟨(Lib.decDigits n).toArray⟩) ∧ w = w' := by
  have hz : ((n : Int) == 0) = false := by simp; omega
  go_enter Tryz.func18, Tryz.ntmps18
  go_wp2
  go_loop [3, 4, 5] (fun o m _ => ∃ (u : Nat) (out : List UInt8), m = .int .i64 (u : Int) ∧ o = .string ⟨out.toArray⟩ ∧ u ≤ n ∧ Hid (decOn u out = Lib.decDigits n)) (fun _ m _ => (intOf m).toNat)
  case atStart => exact ⟨n, [], rfl, rfl, Nat.le_refl _, by unfold Hid decOn; rw [if_neg (by omega)]; simp⟩
  case round =>
    obtain ⟨u, out, rfl, rfl, hu, hd⟩ := hrel
    have hlen := decOn_len u n out hd.out (by omega)
    by_cases hp : 0 < u
    · have H := Lib.hid ((decOn_step u out hp).symm.trans hd.out)
      have hne : ((u : Int) != 0) = true := by rw [bne_iff_ne]; omega
      have Hc := Lib.hid (digit_cut (u % 10) (by omega))
      go_wp2
      go_round
      case rel => exact ⟨u / 10, UInt8.ofNat (48 + u % 10) :: out, by simp, by rw [Hc.out, ba_cons0], by omega, H⟩
      case measure => simp [intOf]; omega
    · obtain rfl : u = 0 := by omega
      have hd' := hd.out
      unfold decOn at hd'
      rw [if_pos rfl] at hd'
      have H := Lib.hid hd'
      clear hd hd'
      go_wp2
      go_ret
      exact ⟨by rw [← H.out]; rfl, rfl⟩

set_option maxHeartbeats 1000000 in
theorem specDecNeg (n : Nat) (w : World) (h0 : 0 < n) (h1 : (n : Int) ≤ 9223372036854775808) :
    Calls Tryz.prog 18 #[.int .i64 (-(n : Int))] w fun e w' => e = .returned (.string ⟨(45 :: Lib.decDigits n).toArray⟩) ∧ w = w' := by
  have hz : (-(n : Int) == 0) = false := by simp; omega
  go_enter Tryz.func18, Tryz.ntmps18
  go_wp2
  go_loop [3, 4, 5] (fun o m _ => ∃ (u : Nat) (out : List UInt8), m = .int .i64 (-(u : Int)) ∧ o = .string ⟨out.toArray⟩ ∧ u ≤ n ∧ Hid (decOn u out = Lib.decDigits n)) (fun _ m _ => (-(intOf m)).toNat)
  case atStart => exact ⟨n, [], rfl, rfl, Nat.le_refl _, by unfold Hid decOn; rw [if_neg (by omega)]; simp⟩
  case round =>
    obtain ⟨u, out, rfl, rfl, hu, hd⟩ := hrel
    have hlen := decOn_len u n out hd.out (by omega)
    by_cases hp : 0 < u
    · have H := Lib.hid ((decOn_step u out hp).symm.trans hd.out)
      have hne : (-(u : Int) != 0) = true := by rw [bne_iff_ne]; omega
      have Hc := Lib.hid (digit_cut (u % 10) (by omega))
      have hm : (-(u : Int)).tmod 10 = -((u % 10 : Nat) : Int) := by rw [Int.neg_tmod]; congr 1
      have hq : (-(u : Int)).tdiv 10 = -((u / 10 : Nat) : Int) := by rw [Int.neg_tdiv]; congr 1
      by_cases h10 : u % 10 = 0
      · have Hc' : Hid ((⟨#[48, 49, 50, 51, 52, 53, 54, 55, 56, 57]⟩ : ByteArray).extract 0 1 = ⟨#[UInt8.ofNat (48 + u % 10)]⟩) := by
          have := Hc.out
          rw [h10] at this
          unfold Hid
          rw [h10]
          exact this
        go_wp2
        go_round
        case rel => exact ⟨u / 10, UInt8.ofNat (48 + u % 10) :: out, by simp, by rw [Hc'.out, ba_cons0], by omega, H⟩
        case measure => simp [intOf]; omega
      · go_wp2
        go_round
        case rel => exact ⟨u / 10, UInt8.ofNat (48 + u % 10) :: out, by simp, by rw [Hc.out, ba_cons0], by omega, H⟩
        case measure => simp [intOf]; omega
    · have hz0 : (-(u : Int) != 0) = false := by simp; omega
      have hd' := hd.out
      unfold decOn at hd'
      rw [if_pos (by omega)] at hd'
      have H := Lib.hid hd'
      clear hd hd'
      go_wp2
      go_ret
      exact ⟨by rw [← H.out, ← ba_cons0]; rfl, rfl⟩

theorem specDecText (n : Int) (w : World) (h0 : -9223372036854775808 ≤ n) (h1 : n ≤ 9223372036854775807) :
    Calls Tryz.prog 18 #[.int .i64 n] w fun e w' => e = .returned (.string (dec n)) ∧ w = w' := by
  unfold dec Lib.itoa
  rcases Int.lt_trichotomy n 0 with h | h | h
  · obtain ⟨u, hu⟩ := Int.eq_ofNat_of_zero_le (show 0 ≤ -n by omega)
    have hn : n = -(u : Int) := by omega
    subst hn
    rw [if_pos (by omega), show (-(u : Int)).natAbs = u by omega]
    exact specDecNeg u w (by omega) (by omega)
  · subst h
    rw [if_neg (by omega), Lib.decDigits_one (by decide)]
    go_enter Tryz.func18, Tryz.ntmps18
    go_wp2
    go_ret
    exact ⟨rfl, rfl⟩
  · obtain ⟨u, rfl⟩ := Int.eq_ofNat_of_zero_le (show 0 ≤ n by omega)
    rw [if_neg (by omega), Int.toNat_natCast]
    exact specDecPos u w (by omega) (by omega)

end Go.Proofs.YtjjdcdnaonfnmaaGreatDoor

namespace Go.Proofs.YtjjdcdnaonfnmaaGreatDoor

/-- The number that l spells, or -1. -/
def readD (l : List UInt8) : Int :=
  if 9 < l.length then -1 else match Go.Lib.decNat l with
    | none => -1
    | some m => if Go.Lib.itoa (m : Int) = l then (m : Int) else -1

def letterB (b : UInt8) : Bool := (decide (65 ≤ b.toNat) && decide (b.toNat ≤ 90)) || (decide (97 ≤ b.toNat) && decide (b.toNat ≤ 122)) || b.toNat == 95
def digitB (b : UInt8) : Bool := decide (48 ≤ b.toNat) && decide (b.toNat ≤ 57)
def moreB (b : UInt8) : Bool := letterB b || digitB b
def blankB (b : UInt8) : Bool := b.toNat == 32 || b.toNat == 9 || b.toNat == 10 || b.toNat == 13
def lowB (b : UInt8) : UInt8 := if decide (65 ≤ b.toNat) && decide (b.toNat ≤ 90) then b + 32 else b
def signB (b : UInt8) : Bool := [40, 41, 44, 59, 61, 60, 62, 43, 45, 42, 46].contains b.toNat

/-- How many bytes are passed over at the head (true: inside a note). -/
def gap : Bool → List UInt8 → Nat
  | _, [] => 0
  | true, b :: r => 1 + gap (b.toNat != 10) r
  | false, b :: r => if blankB b then 1 + gap false r else if b.toNat == 45 && (r.head?.map (·.toNat)) == some 45 then 1 + gap true r else 0

/-- A word: its kind, its text, its place. -/
structure Tok where
  kind : Nat
  text : List UInt8
  at_ : Nat
deriving DecidableEq

def runL (l : List UInt8) : List UInt8 := l.takeWhile moreB
def runN (l : List UInt8) : Nat := (runL l).length

/-- What stands between quotes (behind the first one), and how many bytes it has there with the last one. -/
def quoted (q : UInt8) : List UInt8 → Option (List UInt8 × Nat)
  | [] => none
  | [b] => if b = q then some ([], 1) else none
  | b :: c :: r =>
    if b = q then
      if c = q then (quoted q r).map fun x => (b :: x.1, 2 + x.2) else some ([], 1)
    else (quoted q (c :: r)).map fun x => (b :: x.1, 1 + x.2)

def twoB (b c : UInt8) : Bool := (b.toNat == 60 && c.toNat == 61) || (b.toNat == 62 && c.toNat == 61) || (b.toNat == 60 && c.toNat == 62)

def signN : List UInt8 → Nat
  | [] => 0
  | [b] => if signB b then 1 else 0
  | b :: c :: _ => if twoB b c then 2 else if signB b then 1 else 0

def nameB (t : List UInt8) : Bool := decide (1 ≤ t.length) && decide (t.length ≤ 40) && !t.contains 0

/-- The word at the head: kind, text, how many bytes. -/
def one : List UInt8 → Option (Nat × List UInt8 × Nat)
  | [] => none
  | b :: r =>
    if letterB b then some (0, (runL (b :: r)).map lowB, runN (b :: r))
    else if digitB b then if 0 ≤ readD (runL (b :: r)) then some (2, runL (b :: r), runN (b :: r)) else none
    else if b.toNat = 34 then (quoted 34 r).bind fun x => if nameB x.1 then some (1, x.1, 1 + x.2) else none
    else if b.toNat = 39 then (quoted 39 r).bind fun x => if x.1.length ≤ 100 then some (3, x.1, 1 + x.2) else none
    else if signN (b :: r) = 0 then none else some (4, (b :: r).take (signN (b :: r)), signN (b :: r))

theorem runN_pos {b : UInt8} {r : List UInt8} (h : moreB b = true) : 0 < runN (b :: r) := by
  simp [runN, runL, h]

theorem one_pos {l : List UInt8} {k : Nat} {t : List UInt8} {n : Nat} (h : one l = some (k, t, n)) : 0 < n := by
  cases l with
  | nil => simp [one] at h
  | cons b r =>
    rw [one] at h
    split at h
    · rename_i hb
      simp only [Option.some.injEq, Prod.mk.injEq] at h
      rw [← h.2.2]; exact runN_pos (by simp [moreB, hb])
    · split at h
      · rename_i hb
        split at h
        · simp only [Option.some.injEq, Prod.mk.injEq] at h
          rw [← h.2.2]; exact runN_pos (by simp [moreB, hb])
        · cases h
      · split at h
        · cases hq : quoted 34 r with
          | none => rw [hq] at h; cases h
          | some x =>
            rw [hq, Option.bind_some] at h
            split at h
            · simp only [Option.some.injEq, Prod.mk.injEq] at h; omega
            · cases h
        · split at h
          · cases hq : quoted 39 r with
            | none => rw [hq] at h; cases h
            | some x =>
              rw [hq, Option.bind_some] at h
              split at h
              · simp only [Option.some.injEq, Prod.mk.injEq] at h; omega
              · cases h
          · split at h
            · cases h
            · simp only [Option.some.injEq, Prod.mk.injEq] at h; omega

theorem one_len {l : List UInt8} {k : Nat} {t : List UInt8} {n : Nat} (h : one l = some (k, t, n)) : l ≠ [] := by
  rintro rfl; simp [one] at h

/-- The words from a place on, at which no gap stands; or the place of what is none. -/
def lexAt (at_ : Nat) (l : List UInt8) : Except Nat (List Tok) :=
  if l = [] then .ok [] else
  match h : one l with
  | none => .error at_
  | some (k, t, n) =>
    match lexAt (at_ + n + gap false (l.drop n)) ((l.drop n).drop (gap false (l.drop n))) with
    | .ok ts => .ok (⟨k, t, at_⟩ :: ts)
    | .error e => .error e
termination_by l.length
decreasing_by
  have h1 := one_pos h
  have h2 := one_len h
  cases l with
  | nil => exact absurd rfl h2
  | cons b r => simp only [List.length_drop, List.length_cons]; omega

def lexB (l : List UInt8) : Except Nat (List Tok) :=
  if 20000 < l.length then .error 20000 else lexAt (gap false l) (l.drop (gap false l))

def cat (ts : List Tok) : Except Nat (List Tok) → Except Nat (List Tok)
  | .ok us => .ok (ts ++ us)
  | .error e => .error e

theorem lexAt_nil (p : Nat) : lexAt p [] = .ok [] := by rw [lexAt]; simp
theorem lexAt_bad {p : Nat} {l : List UInt8} (h : l ≠ []) (h1 : one l = none) : lexAt p l = .error p := by
  rw [lexAt, if_neg h]; split
  · rfl
  · rename_i h2; rw [h1] at h2; cases h2
theorem lexAt_one {p : Nat} {l : List UInt8} {k : Nat} {t : List UInt8} {n : Nat} (h : one l = some (k, t, n)) :
    lexAt p l = cat [⟨k, t, p⟩] (lexAt (p + n + gap false (l.drop n)) ((l.drop n).drop (gap false (l.drop n)))) := by
  rw [lexAt, if_neg (one_len h)]
  split
  · rename_i h2; rw [h] at h2; cases h2
  · rename_i k' t' n' h2
    rw [h] at h2
    cases h2
    cases lexAt (p + n + gap false (l.drop n)) ((l.drop n).drop (gap false (l.drop n))) <;> rfl
theorem cat_cat (a b : List Tok) (r : Except Nat (List Tok)) : cat a (cat b r) = cat (a ++ b) r := by
  cases r <;> simp [cat]
theorem cat_nil (r : Except Nat (List Tok)) : cat [] r = r := by cases r <;> rfl

/-- How a call answers words. -/
def wordsOf : Except Nat (List Tok) → List Tok
  | .ok ts => ts
  | .error _ => []
def placeOf : Except Nat (List Tok) → Int
  | .ok _ => -1
  | .error p => (p : Int)

def quoteL (q : UInt8) (t : List UInt8) : List UInt8 := q :: (t.flatMap fun b => if b = q then [q, b] else [b]) ++ [q]

def spell1 (x : Int) (t : List UInt8) : Option (List UInt8) :=
  if x = 0 ∨ x = 2 ∨ x = 4 then some t else if x = 1 then some (quoteL 34 t) else if x = 3 then some (quoteL 39 t) else none

end Go.Proofs.YtjjdcdnaonfnmaaGreatDoor

namespace Go.Proofs.YtjjdcdnaonfnmaaGreatDoor
open Go.RowKit

theorem decFrom_stop : ∀ (l : List UInt8) (k acc n : Nat) (b : UInt8), Lib.decFrom acc (l.take k) = some n → l[k]? = some b → Lib.digitVal b = none → Lib.decFrom acc l = none
  | [], k, _, _, _, _, hb, _ => by simp at hb
  | x :: r, 0, acc, n, b, _, hb, hd => by
    simp at hb
    subst hb
    simp [Lib.decFrom, hd]
  | x :: r, k + 1, acc, n, b, h, hb, hd => by
    rw [List.take_succ_cons, Lib.decFrom] at h
    rw [Lib.decFrom]
    cases hv : Lib.digitVal x with
    | none => rfl
    | some d =>
      rw [hv] at h
      exact decFrom_stop r k _ n b h (by simpa using hb) hd

theorem readD_stop {l : List UInt8} {k n : Nat} {b : UInt8} (h : Lib.decFrom 0 (l.take k) = some n) (hb : l[k]? = some b) (hd : Lib.digitVal b = none) : readD l = -1 := by
  unfold readD
  split
  · rfl
  · have h0 := decFrom_stop l k 0 n b h hb hd
    have : Lib.decNat l = none := by
      unfold Lib.decNat
      split
      · rfl
      · exact h0
    rw [this]

theorem readD_end {l : List UInt8} {n : Nat} (h9 : l.length ≤ 9) (h0 : l ≠ []) (h : Lib.decFrom 0 l = some n) : readD l = if Lib.itoa (n : Int) = l then (n : Int) else -1 := by
  have : Lib.decNat l = some n := by
    unfold Lib.decNat
    rw [if_neg (by simpa using h0), h]
  unfold readD
  rw [if_neg (by omega), this]

theorem specDigit (b : UInt8) (w : World) : Calls Tryz.prog 38 #[.int .u8 (b.toNat : Int)] w fun e w' => e = .returned (.bool (Lib.digitVal b).isSome) ∧ w = w' := by
  have hb : (b.toNat : Int) ≤ 255 := by have := UInt8.toNat_lt b; omega
  by_cases h1 : 48 ≤ b.toNat
  · by_cases h2 : b.toNat ≤ 57
    · have H : Hid ((Lib.digitVal b).isSome = true) := by unfold Hid Lib.digitVal; rw [if_pos ⟨h1, h2⟩]; rfl
      have ht : decide ((b.toNat : Int) ≤ 57) = true := by simp; omega
      go_enter Tryz.func38, Tryz.ntmps38
      go_wp2
      go_ret
      exact ⟨by rw [H.out]; rfl, rfl⟩
    · have H : Hid ((Lib.digitVal b).isSome = false) := by unfold Hid Lib.digitVal; rw [if_neg (by omega)]; rfl
      have ht : decide ((b.toNat : Int) ≤ 57) = false := by simp; omega
      go_enter Tryz.func38, Tryz.ntmps38
      go_wp2
      go_ret
      exact ⟨by rw [H.out]; rfl, rfl⟩
  · have H : Hid ((Lib.digitVal b).isSome = false) := by unfold Hid Lib.digitVal; rw [if_neg (by omega)]; rfl
    have ht : decide ((48 : Int) ≤ (b.toNat : Int)) = false := by simp; omega
    go_enter Tryz.func38, Tryz.ntmps38
    go_wp2
    go_ret
    exact ⟨by rw [H.out]; rfl, rfl⟩

theorem specDigitIs (b : UInt8) (w : World) (v : Bool) (h : (Lib.digitVal b).isSome = v) : Calls Tryz.prog 38 #[.int .u8 (b.toNat : Int)] w fun e w' => e = .returned (.bool v) ∧ w = w' := h ▸ specDigit b w

theorem pow9 {n k : Nat} (h : n < (0 + 1) * 10 ^ k) (hk : k ≤ 9) : n < 1000000000 := by
  have : 10 ^ k ≤ 10 ^ 9 := Nat.pow_le_pow_right (by omega) hk
  omega

end Go.Proofs.YtjjdcdnaonfnmaaGreatDoor

namespace Go.Proofs.YtjjdcdnaonfnmaaGreatDoor
open Go.RowKit

theorem gPow : Tryz.prog.globalNamed "internal/strconv.uint64pow10" = some 1 := by kernel_rfl
theorem gPowType : (Tryz.prog.globals[1]?).map (·.type) = some 135 := by kernel_rfl
theorem cellsPow : Tryz.prog.cellsOf 135 = 20 := by kernel_rfl
theorem cellsU64 : Tryz.prog.cellsOf 114 = 1 := by kernel_rfl

theorem powTab_of {W : World} {rest : List (String × DataW Unit)} (h : laidMet Tryz.prog (("internal/strconv.uint64pow10", Rows.laid_internal_strconv_uint64pow10) :: rest) W) :
    Lib.TabIs Tryz.prog W "internal/strconv.uint64pow10" .u64 Lib.pow10Tab :=
  Lib.tabIs_of_head (rest := rest) gPow gPowType Tryz.underlying135 Tryz.underlying114 cellsU64 cellsPow h

theorem implDecText (n : Int) (w : World) (h0 : -9223372036854775808 ≤ n) (h1 : n ≤ 9223372036854775807) (ht : Lib.TabIs Tryz.prog w "internal/strconv.uint64pow10" .u64 Lib.pow10Tab) :
    Calls Tryz.prog 16 #[.int .i64 n] w fun e w' => e = .returned (.string (dec n)) ∧ Below w.heap.size w w' := by
  have HT := Lib.hid ht
  clear ht
  go_enter Tryz.func16, Tryz.ntmps16
  go_wp2_with (go_at_call 33; refine (Tryz.strconv_Itoa n h0 h1 w HT.out).mono ?_; rintro e w' ⟨rfl, k, os, rfl⟩)
  go_ret
  refine ⟨rfl, rfl, rfl, rfl, by simp [Go.Sort.grow], fun i hi => ?_⟩
  show (w.heap ++ os)[i]? = w.heap[i]?
  rw [Array.getElem?_append_left hi]

end Go.Proofs.YtjjdcdnaonfnmaaGreatDoor

namespace Go.Proofs.YtjjdcdnaonfnmaaGreatDoor
open Go.RowKit

theorem decDigits_first (u : Nat) : ∃ b r, Lib.decDigits u = b :: r ∧ 48 ≤ b.toNat ∧ b.toNat ≤ 57 := by
  rw [Lib.decDigits_eq]
  have hp := Lib.nDigits_pos u
  obtain ⟨k, hk⟩ : ∃ k, Lib.nDigits u = k + 1 := ⟨Lib.nDigits u - 1, by omega⟩
  rw [hk, List.range_succ_eq_map, List.map_cons]
  refine ⟨_, _, rfl, ?_⟩
  unfold Lib.dg
  have h1 : u / 10 ^ (k + 1 - 1 - 0) % 10 < 10 := Nat.mod_lt _ (by omega)
  have h2 : (UInt8.ofNat (48 + u / 10 ^ (k + 1 - 1 - 0) % 10)).toNat = 48 + u / 10 ^ (k + 1 - 1 - 0) % 10 := by
    rw [UInt8.toNat_ofNat']
    omega
  omega

theorem itoa_nat (m : Nat) : Lib.itoa (m : Int) = Lib.decDigits m := by
  unfold Lib.itoa
  rw [if_neg (by omega), Int.toNat_natCast]

theorem atoi_of_dec {l : List UInt8} {m : Nat} (h : Lib.decNat l = some m) : Lib.atoi l = some (m : Int) := by
  obtain ⟨h0, h1⟩ := Lib.decNat_some h
  cases l with
  | nil => exact absurd rfl h0
  | cons b r =>
    have hb : ∃ d, Lib.digitVal b = some d := by
      rw [Lib.decFrom] at h1
      cases hv : Lib.digitVal b with
      | none => rw [hv] at h1; cases h1
      | some d => exact ⟨d, rfl⟩
    obtain ⟨d, hd⟩ := hb
    have hr : 48 ≤ b.toNat := by
      unfold Lib.digitVal at hd
      split at hd
      · omega
      · cases hd
    have n45 : (b == 45) = false := by
      rw [beq_eq_false_iff_ne]; intro e; subst e; simp at hr
    have n43 : (b == 43) = false := by
      rw [beq_eq_false_iff_ne]; intro e; subst e; simp at hr
    rw [Lib.atoi]
    simp only [n45, n43, Bool.false_eq_true, if_false, h, Option.map_some]

theorem readD_none {l : List UInt8} (h : Lib.atoi l = none) : readD l = -1 := by
  unfold readD
  split
  · rfl
  · cases hd : Lib.decNat l with
    | none => rfl
    | some m => rw [atoi_of_dec hd] at h; cases h

theorem readD_some {l : List UInt8} {n : Int} (h9 : l.length ≤ 9) (h : Lib.atoi l = some n) : readD l = if n < 0 then -1 else if Lib.itoa n = l then n else -1 := by
  unfold readD
  rw [if_neg (by omega)]
  cases hd : Lib.decNat l with
  | some m =>
    have := atoi_of_dec hd
    rw [h] at this
    cases this
    rw [if_neg (by omega)]
  | none =>
    by_cases hn : n < 0
    · rw [if_pos hn]
    · rw [if_neg hn, if_neg]
      intro he
      obtain ⟨m, rfl⟩ := Int.eq_ofNat_of_zero_le (show 0 ≤ n by omega)
      rw [itoa_nat] at he
      obtain ⟨b, r, hbr, hb1, hb2⟩ := decDigits_first m
      rw [hbr] at he
      subst he
      have n45 : (b == 45) = false := by
        rw [beq_eq_false_iff_ne]; intro e; subst e; simp at hb1
      have n43 : (b == 43) = false := by
        rw [beq_eq_false_iff_ne]; intro e; subst e; simp at hb1
      rw [Lib.atoi] at h
      simp only [n45, n43, Bool.false_eq_true, if_false, hd] at h
      cases h

theorem belowBytes (w : World) (t : ByteArray) : Below w.heap.size w (Lib.bytesWorld w 5 t) :=
  ⟨rfl, rfl, rfl, by rw [Lib.bytesWorld_size]; omega, fun k hk => Lib.bytesWorld_at_old _ _ _ k hk⟩

theorem atoi_bound {l : List UInt8} {n : Int} (h9 : l.length ≤ 9) (h : Lib.atoi l = some n) : -1000000000000000000 ≤ n ∧ n ≤ 1000000000000000000 := by
  have key : ∀ (r : List UInt8) (m : Nat), Lib.decNat r = some m → r.length ≤ 18 → m < 1000000000000000000 := fun r m hm hr => Lib.decFrom_lt18 (Lib.decNat_some hm).2 hr
  cases l with
  | nil => cases h
  | cons b r =>
    have hr : r.length ≤ 18 := by simp at h9; omega
    rw [Lib.atoi] at h
    split at h
    · cases hd : Lib.decNat r with
      | none => rw [hd] at h; cases h
      | some m => rw [hd] at h; cases h; have := key r m hd hr; dsimp only; omega
    · split at h
      · cases hd : Lib.decNat r with
        | none => rw [hd] at h; cases h
        | some m => rw [hd] at h; cases h; have := key r m hd hr; dsimp only; omega
      · cases hd : Lib.decNat (b :: r) with
        | none => rw [hd] at h; cases h
        | some m => rw [hd] at h; cases h; have := key (b :: r) m hd (by simp at h9 ⊢; omega); dsimp only; omega

set_option maxHeartbeats 1000000 in
theorem implReadDec (s : ByteArray) (w : World) (ht : Lib.TabIs Tryz.prog w "internal/strconv.uint64pow10" .u64 Lib.pow10Tab) (tp : TypeId) (p : Value) (hv : w.var? Tryz.prog "strconv.ErrSyntax" = some #[.iface tp p]) :
    Calls Tryz.prog 50 #[.string s] w fun e w' => e = .returned (.int .i64 (readD s.data.toList)) ∧ Below w.heap.size w w' := by
  have hll : s.data.toList.length = s.size := by simp
  have HT := Lib.hid ht
  have HV := Lib.hid hv
  clear ht hv
  by_cases h9 : s.size ≤ 9
  · cases ha : Lib.atoi s.data.toList with
    | none =>
      have HR := Lib.hid (readD_none ha)
      have HA := Lib.hid ha
      clear ha hll
      go_enter Tryz.func50, Tryz.ntmps50
      go_wp2_with (go_at_call 70; refine (Tryz.strconv_Atoi_err_var s (by omega) HA.out tp p w HV.out).mono ?_; rintro e w' ⟨N, rfl, hN, hcell, hb⟩)
      go_ret
      exact ⟨by rw [HR.out]; rfl, hb⟩
    | some n =>
      have HR := Lib.hid (readD_some (by omega) ha)
      obtain ⟨hb0, hb1⟩ := atoi_bound (by omega) ha
      have HA := Lib.hid ha
      clear ha hll
      by_cases hneg : n < 0
      · go_enter Tryz.func50, Tryz.ntmps50
        go_wp2_with (go_at_call 70; refine (Tryz.strconv_Atoi s n (by omega) HA.out w).mono ?_; rintro e w' ⟨rfl, t, rfl⟩)
        go_ret
        exact ⟨by rw [HR.out, if_pos hneg]; rfl, belowBytes _ _⟩
      · have HT' : ∀ t, Lib.TabIs Tryz.prog (Lib.bytesWorld w 5 t) "internal/strconv.uint64pow10" .u64 Lib.pow10Tab := fun t => Lib.bytesWorld_var _ _ _ HT.out
        have HTs := Lib.hid HT'
        clear HT'
        by_cases he : Lib.itoa n = s.data.toList
        · have ht : (!((dec n).toList == s.toList)) = false := by simp [Lib.toList_data, dec, he]
          have HE := Lib.hid he
          clear he
          go_enter Tryz.func50, Tryz.ntmps50
          go_wp2_with (first
            | (go_at_call 70; refine (Tryz.strconv_Atoi s n (by omega) HA.out w).mono ?_; rintro e w' ⟨rfl, t, rfl⟩)
            | (go_at_call 16; refine (implDecText n _ (by omega) (by omega) (HTs.out _)).mono ?_; rintro e w2 ⟨rfl, hb2⟩))
          go_ret
          exact ⟨by rw [HR.out, if_neg (by omega), if_pos HE.out]; rfl, (belowBytes _ _).trans (hb2.mono (belowBytes _ _).size)⟩
        · have ht : (!((dec n).toList == s.toList)) = true := by simp [Lib.toList_data, dec, he]
          have HE := Lib.hid he
          clear he
          go_enter Tryz.func50, Tryz.ntmps50
          go_wp2_with (first
            | (go_at_call 70; refine (Tryz.strconv_Atoi s n (by omega) HA.out w).mono ?_; rintro e w' ⟨rfl, t, rfl⟩)
            | (go_at_call 16; refine (implDecText n _ (by omega) (by omega) (HTs.out _)).mono ?_; rintro e w2 ⟨rfl, hb2⟩))
          go_ret
          exact ⟨by rw [HR.out, if_neg (by omega), if_neg HE.out]; rfl, (belowBytes _ _).trans (hb2.mono (belowBytes _ _).size)⟩
  · have HR : Hid (readD s.data.toList = -1) := by unfold Hid readD; rw [if_pos (by omega)]
    clear hll
    go_enter Tryz.func50, Tryz.ntmps50
    go_wp2_with fail
    go_ret
    exact ⟨by rw [HR.out]; rfl, Below.refl _ _⟩

end Go.Proofs.YtjjdcdnaonfnmaaGreatDoor

namespace Go.Proofs.YtjjdcdnaonfnmaaGreatDoor
open Go.RowKit

def bcells (l : List UInt8) : List Value := l.map fun b => Value.int .u8 b.toNat

def OwnB (w : World) (B : Nat) (a : Option Addr) (c : Nat) (l : List UInt8) : Prop :=
  w.ownsRow B 5 1 (.slice a l.length c) l.length (bcells l)

theorem Tryz.infoByte : (Tryz.prog.info? 5).map (fun i => (i.zero, i.size, i.bytes)) = some (some (.int .u8 0), 1, 1) := by kernel_rfl

theorem OwnB.lt {w : World} {B : Nat} {a : Option Addr} {c : Nat} {l : List UInt8} (h : OwnB w B a c l) {g : Nat} (hg : (Value.slice a l.length c).ownBlock = some g) : B ≤ g ∧ g < w.heap.size :=
  World.ownsRow.lt h g hg

theorem OwnB.below {w w' : World} {B : Nat} {a : Option Addr} {c : Nat} {l : List UInt8} (h : OwnB w B a c l) (hb : Below w.heap.size w w') : OwnB w' B a c l := by
  unfold OwnB at h ⊢
  refine ⟨h.1, ?_⟩
  rcases h.2 with h2 | ⟨g, cap, cur, hv, hB, hg, r⟩
  · exact .inl h2
  · refine .inr ⟨g, cap, cur, hv, hB, ?_, r⟩
    have : g < w.heap.size := by
      rcases Nat.lt_or_ge g w.heap.size with hlt | hge
      · exact hlt
      · rw [Array.getElem?_eq_none hge] at hg; cases hg
    rw [hb.block g this, hg]

theorem ownBEmpty (w : World) : OwnB (w.alloc (.cells #[] 5)) w.heap.size (some ⟨w.heap.size, 0, none⟩) 0 [] :=
  World.ownsRow_lit (base := w.heap.size) (e := 5) (size := 1) w #[] 0 (Nat.le_refl _) (by unfold maxLen; omega) rfl

theorem strCells_eq (s : ByteArray) : Lib.strCells s = bcells s.data.toList := rfl

/-- append of a text's bytes to a row of the call's own. -/
theorem wpAppendText {w : World} {ops : Array Oper} {rest : List Oper} {o : Oper} {A : Act} {Q : Exit → Act → World → Prop} (hgd : o.guard = none) (sl x : Operand)
    (ho : o.op = .call { callee := .builtin .append, args := #[sl, x], argTypes := #[22, 9] })
    (i0 : TypeInfo) (hi0 : Tryz.prog.info? 5 = some i0) (hz0 : i0.zero = some (.int .u8 0)) (hz1 : i0.size = 1) (hz2 : i0.bytes = 1)
    (B : Nat) (a : Option Addr) (c : Nat) (l : List UInt8) (s : ByteArray) (hs : A.eval sl = .slice a l.length c) (hown : OwnB w B a c l) (hx : A.eval x = .string s)
    (hn : l.length + s.size ≤ 140737488355328) (hB : B ≤ w.heap.size)
    (h : ∀ a' c' w', OwnB w' B a' c' (l ++ s.data.toList) → w.grownBy w' (Value.slice a l.length c).ownBlock → wpList Tryz.prog ops Q rest (A.put o.dst (.slice a' (l ++ s.data.toList).length c')) w') :
    wpList Tryz.prog ops Q (o :: rest) A w := by
  refine Lib.wpList_append_own_string _ hgd sl x 22 9 ho B 5 i0 Tryz.underlying22 Tryz.underlying9 hi0 hz0 hz1 hz2 (.slice a l.length c) l.length (bcells l) hs hown s hx (by unfold maxLen; omega) hn hB ?_
  intro v' w' hown' hg _
  have hl : s.size = s.data.toList.length := by simp
  have hf : ∃ a' c', v' = .slice a' (l.length + s.size) c' := by
    rcases hown'.2 with ⟨rfl, h0⟩ | ⟨g, cap, cur, rfl, _⟩
    · exact ⟨none, 0, by rw [h0]⟩
    · exact ⟨_, _, rfl⟩
  obtain ⟨a', c', rfl⟩ := hf
  have hb : bcells l ++ Lib.strCells s = bcells (l ++ s.data.toList) := by rw [strCells_eq]; simp [bcells]
  rw [hb] at hown'
  have := h a' c' w' (by unfold OwnB; rw [List.length_append, ← hl]; exact hown') hg
  rw [List.length_append, ← hl] at this
  exact this

theorem foldl_push (l : List UInt8) (r : ByteArray) : (l.map fun b => (b.toNat : Int)).foldl (fun r n => r.push (UInt8.ofNat n.toNat)) r = ⟨(r.data.toList ++ l).toArray⟩ := by
  induction l generalizing r with
  | nil => simp
  | cons b l ih =>
    rw [List.map_cons, List.foldl_cons, ih]
    simp [ByteArray.push]

theorem convBytes {W : World} {B : Nat} {a : Option Addr} {c : Nat} {l : List UInt8} (h : OwnB W B a c l) :
    (convert 22 9 (.slice a l.length c)).run Tryz.prog W = .ok (.string ⟨l.toArray⟩) W := by
  rw [run_convert_bytes_string W _ _ _ _ _ _ Tryz.underlying22 Tryz.underlying5 Tryz.underlying9]
  unfold OwnB at h
  rcases h.2 with ⟨hv, hn⟩ | ⟨g, cap, cur, hv, hb, hg, hnc, hcm, hcs, ht⟩
  · simp only [Value.slice.injEq] at hv
    obtain ⟨rfl, _, rfl⟩ := hv
    have : l = [] := List.eq_nil_of_length_eq_zero hn
    subst this
    simp [Conv.bytesToString]
    rfl
  · simp only [Value.slice.injEq] at hv
    obtain ⟨rfl, _, rfl⟩ := hv
    rw [run_bytesToString W ⟨g, 0, none⟩ l.length c (l.map fun b => (b.toNat : Int))]
    · rw [foldl_push]; rfl
    · have hl : l.length = (bcells l).length := by simp [bcells]
      rw [hl, run_loadCells_list (P := Tryz.prog) W ⟨g, 0, none⟩ (bcells l) (h.cells rfl)]
      simp [bcells]

end Go.Proofs.YtjjdcdnaonfnmaaGreatDoor

namespace Go.Proofs.YtjjdcdnaonfnmaaGreatDoor
open Go.RowKit

theorem wpAppendByte {w : World} {ops : Array Oper} {rest : List Oper} {o : Oper} {A : Act} {Q : Exit → Act → World → Prop} (hgd : o.guard = none) (s x : Operand)
    (ho : o.op = .call { callee := .builtin .append, args := #[s, x], argTypes := #[22, 22] })
    (i0 : TypeInfo) (hi0 : Tryz.prog.info? 5 = some i0) (hz0 : i0.zero = some (.int .u8 0)) (hz1 : i0.size = 1) (hz2 : i0.bytes = 1)
    (B : Nat) (a : Option Addr) (c : Nat) (l : List UInt8) (g : Nat) (y : UInt8) (hs : A.eval s = .slice a l.length c) (hown : OwnB w B a c l) (hx : A.eval x = .slice (some ⟨g, 0, none⟩) 1 1) (hc : w.cell? ⟨g, 0, none⟩ = some (.int .u8 (y.toNat : Int)))
    (hn : l.length + 1 ≤ 140737488355328) (hB : B ≤ w.heap.size)
    (h : ∀ a' c' w' l', Hid (l' = l ++ [y]) → OwnB w' B a' c' l' → w.grownBy w' (Value.slice a l.length c).ownBlock → ((Value.slice a' l'.length c').ownBlock = (Value.slice a l.length c).ownBlock ∨ (Value.slice a' l'.length c').ownBlock = some w.heap.size) → wpList Tryz.prog ops Q rest (A.put o.dst (.slice a' l'.length c')) w') :
    wpList Tryz.prog ops Q (o :: rest) A w := by
  refine wpList_append_own_at _ hgd s x 22 ho B 5 i0 (.int .u8 0) 1 1 Tryz.underlying22 hi0 hz0 hz1 hz2 rfl (by decide) (.slice a l.length c) l.length (bcells l) hs hown
    ⟨g, 0, none⟩ 1 1 [.int .u8 (y.toNat : Int)] hx rfl ?_ (fun u hu => by simp at hu; subst hu; rfl) (by unfold maxLen; omega) (by omega) hB ?_
  · intro j u hu
    match j, hu with
    | 0, hu => simp at hu; subst hu; simpa [Addr.add] using hc
  · intro v' w' hown' hg _ hat
    have hf : ∃ a' c', v' = .slice a' (l.length + 1) c' := by
      rcases hown'.2 with ⟨_, h0⟩ | ⟨g', cap, cur, rfl, _⟩
      · omega
      · exact ⟨_, _, rfl⟩
    obtain ⟨a', c', rfl⟩ := hf
    have hb : bcells l ++ [Value.int .u8 (y.toNat : Int)] = bcells (l ++ [y]) := by simp [bcells]
    rw [hb] at hown'
    have hll : (l ++ [y]).length = l.length + 1 := by simp
    have := h a' c' w' (l ++ [y]) rfl (by unfold OwnB; rw [hll]; exact hown') hg (by rw [hll]; exact hat)
    rw [hll] at this
    exact this

theorem hid_len {l l' : List UInt8} {y : UInt8} (h : Hid (l' = l ++ [y])) : l'.length = l.length + 1 := by rw [h.out]; simp

theorem ownBOne (w : World) (y : UInt8) : OwnB (w.alloc (.cells #[.int .u8 (y.toNat : Int)] 5)) w.heap.size (some ⟨w.heap.size, 0, none⟩) 1 [y] :=
  World.ownsRow_lit (base := w.heap.size) (e := 5) (size := 1) w #[.int .u8 (y.toNat : Int)] 1 (Nat.le_refl _) (by unfold maxLen; omega) rfl

theorem OwnB.alloc {w : World} {B : Nat} {a : Option Addr} {c : Nat} {l : List UInt8} (h : OwnB w B a c l) (o : Obj) : OwnB (w.alloc o) B a c l :=
  h.below ((Below.refl _ _).alloc (Nat.le_refl _) _)

theorem OwnB.kept {w w' : World} {B : Nat} {a : Option Addr} {c : Nat} {l : List UInt8} {row : Option Nat} (h : OwnB w B a c l) (hg : w.grownBy w' row)
    (hne : ∀ g, (Value.slice a l.length c).ownBlock = some g → row ≠ some g) : OwnB w' B a c l := by
  refine World.ownsRow.kept h hg ?_
  cases ho : (Value.slice a l.length c).ownBlock with
  | none => exact .inl rfl
  | some g => exact .inr (fun e => hne g ho e.symm)

theorem belowBytesW (w : World) (t : ByteArray) : Below w.heap.size w (Lib.bytesWorld w 5 t) :=
  ⟨rfl, rfl, rfl, by rw [Lib.bytesWorld_size]; omega, fun k hk => Lib.bytesWorld_at_old _ _ _ k hk⟩

theorem convText (w : World) (s : ByteArray) : (convert 9 22 (.string s)).run Tryz.prog w = .ok (.slice (some ⟨w.heap.size, 0, none⟩) s.size (grownCap w s.size 0 5)) (Lib.bytesWorld w 5 s) :=
  Lib.run_convert_string_bytes w _ _ _ s Tryz.underlying9 Tryz.underlying22 Tryz.underlying5

/-- The row that a text is turned into. -/
theorem convTextEx (w : World) (s : ByteArray) : ∃ W cap, (convert 9 22 (.string s)).run Tryz.prog w = .ok (.slice (some ⟨w.heap.size, 0, none⟩) s.size cap) W ∧ Below w.heap.size w W ∧ w.heap.size < W.heap.size ∧ s.size ≤ cap ∧ ∀ (j : Nat) (h : j < s.size), W.cell? ⟨w.heap.size, j, none⟩ = some (.int .u8 (s[j].toNat : Int)) := by
  refine ⟨_, _, convText w s, belowBytesW w s, by rw [Lib.bytesWorld_size]; omega, grownCap_ge _ _ _ _, fun j hj => ?_⟩
  rw [Lib.bytesWorld_cell _ _ _ _ hj]
  have hl : j < s.data.toList.length := by simpa using hj
  rw [List.getD_eq_getElem?_getD, List.getElem?_eq_getElem hl]
  rfl

theorem byte_of {n : Int} (h : (Lit.int .u8 n).wf = true) : ∃ y : UInt8, n = (y.toNat : Int) := by
  have hmin : IntKind.u8.min = 0 := by decide
  have hmax : IntKind.u8.max = 255 := by decide
  simp [Lit.wf, hmin, hmax] at h
  refine ⟨UInt8.ofNat n.toNat, ?_⟩
  rw [UInt8.toNat_ofNat']
  omega

theorem take_snoc (s : ByteArray) (k : Nat) (h : k < s.size) : s.data.toList.take (k + 1) = s.data.toList.take k ++ [s[k]] := by
  rw [List.take_succ_eq_append_getElem (by simpa using h)]; rfl

theorem byte_eq {a b : UInt8} (h : a = b) : (((a.toNat : Int)) == (b.toNat : Int)) = true := by subst h; simp
theorem byte_ne {a b : UInt8} (h : a ≠ b) : (((a.toNat : Int)) == (b.toNat : Int)) = false := by
  rw [beq_eq_false_iff_ne]
  intro e
  exact h (UInt8.toNat_inj.1 (by omega))
theorem byte_le (a : UInt8) : (a.toNat : Int) ≤ 255 := by have := UInt8.toNat_lt a; omega

end Go.Proofs.YtjjdcdnaonfnmaaGreatDoor

namespace Go.Proofs.YtjjdcdnaonfnmaaGreatDoor
open Go.RowKit

def inI (x lo hi : Int) : Bool := decide (lo ≤ x) && decide (x ≤ hi)

theorem specIn (x lo hi : Int) (w : World) : Calls Tryz.prog 20 #[.int .i64 x, .int .i64 lo, .int .i64 hi] w fun e w' => e = .returned (.bool (inI x lo hi)) ∧ w = w' := by
  by_cases h1 : lo ≤ x
  · have H : Hid (inI x lo hi = decide (x ≤ hi)) := by unfold Hid inI; simp [h1]
    go_enter Tryz.func20, Tryz.ntmps20
    go_wp2
    go_ret
    exact ⟨by rw [H.out]; rfl, rfl⟩
  · have H : Hid (inI x lo hi = false) := by unfold Hid inI; simp [h1]
    have ht : decide (lo ≤ x) = false := by simp; omega
    go_enter Tryz.func20, Tryz.ntmps20
    go_wp2
    go_ret
    exact ⟨by rw [H.out]; rfl, rfl⟩

theorem specInIs (x lo hi : Int) (w : World) (v : Bool) (h : inI x lo hi = v) : Calls Tryz.prog 20 #[.int .i64 x, .int .i64 lo, .int .i64 hi] w fun e w' => e = .returned (.bool v) ∧ w = w' := h ▸ specIn x lo hi w

theorem digit_eq (b : UInt8) : (Lib.digitVal b).isSome = digitB b := by
  unfold Lib.digitVal digitB
  split
  · rename_i h; simp [h.1, h.2]
  · rename_i h
    symm
    simp only [Option.isSome_none, Bool.and_eq_false_iff, decide_eq_false_iff_not]
    omega

theorem specDigitB (b : UInt8) (w : World) (v : Bool) (h : digitB b = v) : Calls Tryz.prog 38 #[.int .u8 (b.toNat : Int)] w fun e w' => e = .returned (.bool v) ∧ w = w' :=
  specDigitIs b w v ((digit_eq b).trans h)

theorem letter_eq (b : UInt8) : letterB b = (inI (b.toNat : Int) 65 90 || inI (b.toNat : Int) 97 122 || ((b.toNat : Int) == 95)) := by
  rw [Bool.eq_iff_iff]
  simp only [letterB, inI, Bool.or_eq_true, Bool.and_eq_true, decide_eq_true_eq, beq_iff_eq]
  omega

theorem specLetter (b : UInt8) (w : World) : Calls Tryz.prog 62 #[.int .u8 (b.toNat : Int)] w fun e w' => e = .returned (.bool (letterB b)) ∧ w = w' := by
  have hby := byte_le b
  have HL := Lib.hid (letter_eq b)
  cases h1 : inI (b.toNat : Int) 65 90 with
  | true =>
    have H : Hid (letterB b = true) := by unfold Hid; rw [HL.out, h1]; rfl
    have H1 := Lib.hid h1
    clear h1
    go_enter Tryz.func62, Tryz.ntmps62
    go_wp2_with (go_at_call 20; refine (specInIs _ 65 90 _ true H1.out).mono ?_; rintro e w' ⟨rfl, rfl⟩)
    go_ret
    exact ⟨by rw [H.out]; rfl, rfl⟩
  | false =>
    have H1 := Lib.hid h1
    cases h2 : inI (b.toNat : Int) 97 122 with
    | true =>
      have H : Hid (letterB b = true) := by unfold Hid; rw [HL.out, h1, h2]; rfl
      have H2 := Lib.hid h2
      clear h1 h2
      go_enter Tryz.func62, Tryz.ntmps62
      go_wp2_with fail
      refine (specInIs _ 65 90 _ false H1.out).mono ?_
      rintro e w' ⟨rfl, rfl⟩
      go_wp2_with fail
      refine (specInIs _ 97 122 _ true H2.out).mono ?_
      rintro e w' ⟨rfl, rfl⟩
      go_wp2_with fail
      go_ret
      exact ⟨by rw [H.out]; rfl, rfl⟩
    | false =>
      have H : Hid (letterB b = ((b.toNat : Int) == 95)) := by unfold Hid; rw [HL.out, h1, h2]; rfl
      have H2 := Lib.hid h2
      clear h1 h2
      go_enter Tryz.func62, Tryz.ntmps62
      go_wp2_with fail
      refine (specInIs _ 65 90 _ false H1.out).mono ?_
      rintro e w' ⟨rfl, rfl⟩
      go_wp2_with fail
      refine (specInIs _ 97 122 _ false H2.out).mono ?_
      rintro e w' ⟨rfl, rfl⟩
      go_wp2_with fail
      go_ret
      exact ⟨by rw [H.out]; rfl, rfl⟩

theorem specLetterIs (b : UInt8) (w : World) (v : Bool) (h : letterB b = v) : Calls Tryz.prog 62 #[.int .u8 (b.toNat : Int)] w fun e w' => e = .returned (.bool v) ∧ w = w' := h ▸ specLetter b w

theorem specMore (b : UInt8) (w : World) (v : Bool) (hv : moreB b = v) : Calls Tryz.prog 41 #[.int .u8 (b.toNat : Int)] w fun e w' => e = .returned (.bool v) ∧ w = w' := by
  subst hv
  have hby := byte_le b
  cases h1 : letterB b with
  | true =>
    have H : Hid (moreB b = true) := by unfold Hid moreB; rw [h1]; rfl
    have H1 := Lib.hid h1
    clear h1
    go_enter Tryz.func41, Tryz.ntmps41
    go_wp2_with (go_at_call 62; refine (specLetterIs b _ true H1.out).mono ?_; rintro e w' ⟨rfl, rfl⟩)
    go_ret
    exact ⟨by rw [H.out]; rfl, rfl⟩
  | false =>
    have H : Hid (moreB b = digitB b) := by unfold Hid moreB; rw [h1]; rfl
    have H1 := Lib.hid h1
    clear h1
    go_enter Tryz.func41, Tryz.ntmps41
    go_wp2_with (first
      | (go_at_call 62; refine (specLetterIs b _ false H1.out).mono ?_; rintro e w' ⟨rfl, rfl⟩)
      | (go_at_call 38; refine (specDigitB b _ _ rfl).mono ?_; rintro e w' ⟨rfl, rfl⟩))
    go_ret
    exact ⟨by rw [H.out]; rfl, rfl⟩

end Go.Proofs.YtjjdcdnaonfnmaaGreatDoor

namespace Go.Proofs.YtjjdcdnaonfnmaaGreatDoor
open Go.RowKit

theorem drop_at (s : ByteArray) (k : Nat) (h : k < s.size) : s.data.toList.drop k = s[k] :: s.data.toList.drop (k + 1) := by
  rw [List.drop_eq_getElem_cons (by simpa using h)]; rfl

theorem gap_blank_at (s : ByteArray) (k : Nat) (h : k < s.size) (hb : blankB s[k] = true) : gap false (s.data.toList.drop k) = 1 + gap false (s.data.toList.drop (k + 1)) := by
  rw [drop_at s k h, gap, if_pos hb]

theorem gap_note_at (s : ByteArray) (k : Nat) (h : k < s.size) (hb : s[k].toNat = 45) (h1 : k + 1 < s.size) (hc : s[k + 1].toNat = 45) : gap false (s.data.toList.drop k) = gap true (s.data.toList.drop k) := by
  have hn : blankB s[k] = false := by simp [blankB, hb]
  have hh : (List.head? (s.data.toList.drop (k + 1))).map (·.toNat) = some 45 := by rw [drop_at s (k + 1) h1]; simp [hc]
  have e1 : gap false (s[k] :: s.data.toList.drop (k + 1)) = 1 + gap true (s.data.toList.drop (k + 1)) := by
    rw [gap, if_neg (by simp [hn]), if_pos (by rw [hh, hb]; rfl)]
  have e2 : gap true (s[k] :: s.data.toList.drop (k + 1)) = 1 + gap true (s.data.toList.drop (k + 1)) := by
    have : (s[k].toNat != 10) = true := by simp [hb]
    rw [gap, this]
  rw [drop_at s k h, e1, e2]

theorem gap_stop_at (s : ByteArray) (k : Nat) (h : k < s.size) (hb : blankB s[k] = false) (hs : s[k].toNat ≠ 45 ∨ s.size = k + 1 ∨ ∃ h1 : k + 1 < s.size, s[k + 1].toNat ≠ 45) : gap false (s.data.toList.drop k) = 0 := by
  rw [drop_at s k h, gap, if_neg (by simp [hb])]
  rw [if_neg]
  intro hc
  simp only [Bool.and_eq_true, beq_iff_eq] at hc
  rcases hs with h1 | h1 | ⟨h1, h2⟩
  · exact h1 hc.1
  · have : s.data.toList.drop (k + 1) = [] := List.drop_eq_nil_iff.2 (by simp; omega)
    rw [this] at hc
    simp at hc
  · rw [drop_at s (k + 1) h1] at hc
    simp at hc
    exact h2 hc.2

theorem gap_in_at (s : ByteArray) (k : Nat) (h : k < s.size) (hb : s[k].toNat ≠ 10) : gap true (s.data.toList.drop k) = 1 + gap true (s.data.toList.drop (k + 1)) := by
  rw [drop_at s k h, gap]
  have : (s[k].toNat != 10) = true := by simpa using hb
  rw [this]

theorem gap_out_at (s : ByteArray) (k : Nat) (h : k < s.size) (hb : s[k].toNat = 10) : gap true (s.data.toList.drop k) = gap false (s.data.toList.drop k) := by
  have e1 : gap false (s[k] :: s.data.toList.drop (k + 1)) = 1 + gap false (s.data.toList.drop (k + 1)) := by
    rw [gap, if_pos (by simp [blankB, hb])]
  have e2 : gap true (s[k] :: s.data.toList.drop (k + 1)) = 1 + gap false (s.data.toList.drop (k + 1)) := by
    have : (s[k].toNat != 10) = false := by simp [hb]
    rw [gap, this]
  rw [drop_at s k h, e1, e2]

theorem gap_end_at (s : ByteArray) (c : Bool) : gap c (s.data.toList.drop s.size) = 0 := by
  rw [List.drop_of_length_le (by simp)]
  cases c <;> rfl

theorem blankCases (b : UInt8) :
    (((b.toNat : Int) == 32) = true ∧ blankB b = true) ∨ (((b.toNat : Int) == 32) = false ∧ ((b.toNat : Int) == 9) = true ∧ blankB b = true) ∨
    (((b.toNat : Int) == 32) = false ∧ ((b.toNat : Int) == 9) = false ∧ ((b.toNat : Int) == 10) = true ∧ blankB b = true) ∨
    (((b.toNat : Int) == 32) = false ∧ ((b.toNat : Int) == 9) = false ∧ ((b.toNat : Int) == 10) = false ∧ ((b.toNat : Int) == 13) = true ∧ blankB b = true) ∨
    (((b.toNat : Int) == 32) = false ∧ ((b.toNat : Int) == 9) = false ∧ ((b.toNat : Int) == 10) = false ∧ ((b.toNat : Int) == 13) = false ∧ blankB b = false) := by
  have e : ∀ n : Nat, ((b.toNat : Int) == (n : Int)) = (b.toNat == n) := fun n => by
    rw [Bool.eq_iff_iff]; simp only [beq_iff_eq]; omega
  have e32 := e 32
  have e9 := e 9
  have e10 := e 10
  have e13 := e 13
  simp only [Int.cast_ofNat_Int] at e32 e9 e10 e13
  rw [e32, e9, e10, e13]
  unfold blankB
  cases b.toNat == 32 <;> cases b.toNat == 9 <;> cases b.toNat == 10 <;> cases b.toNat == 13 <;> simp

theorem bneF {b : UInt8} {n : Int} (h : (b.toNat : Int) = n) : (((b.toNat : Int)) != n) = false := by simp [h]
theorem bneT {b : UInt8} {n : Int} (h : (b.toNat : Int) ≠ n) : (((b.toNat : Int)) != n) = true := by rw [bne_iff_ne]; exact h
theorem beqF {b : UInt8} {n : Int} (h : (b.toNat : Int) ≠ n) : (((b.toNat : Int)) == n) = false := by rw [beq_eq_false_iff_ne]; exact h
theorem beqT {b : UInt8} {n : Int} (h : (b.toNat : Int) = n) : (((b.toNat : Int)) == n) = true := by simp [h]

theorem step_gap {a n b c : Nat} (h : a = n + b) (h1 : b = 1 + c) : Hid (a = (n + 1) + c) := by unfold Hid; omega

end Go.Proofs.YtjjdcdnaonfnmaaGreatDoor

namespace Go.Proofs.YtjjdcdnaonfnmaaGreatDoor
open Go.RowKit

/-- Block R holds the bytes l ahead of what is frozen. -/
def RowB (w : World) (R : Nat) (l : List UInt8) : Prop :=
  ∃ cs fz, w.heap[R]? = some (.cells cs 5 fz) ∧ l.length ≤ fz.1 ∧ ∀ (j : Nat) (h : j < l.length), cs[j]? = some (.int .u8 (l[j].toNat : Int))

theorem RowB.lt {w : World} {R : Nat} {l : List UInt8} (h : RowB w R l) : R < w.heap.size := by
  obtain ⟨cs, fz, hg, _⟩ := h
  rcases Nat.lt_or_ge R w.heap.size with hlt | hge
  · exact hlt
  · rw [Array.getElem?_eq_none hge] at hg; cases hg

theorem RowB.cell {w : World} {R : Nat} {l : List UInt8} (h : RowB w R l) {j : Nat} (hj : j < l.length) : w.cell? ⟨R, j, none⟩ = some (.int .u8 (l[j].toNat : Int)) := by
  obtain ⟨cs, fz, hg, _, hc⟩ := h
  rw [cell_of_row _ _ _ _ _ _ hg]
  exact hc j hj

theorem RowB.frozen {w : World} {R : Nat} {l : List UInt8} (h : RowB w R l) {j : Nat} (hj : j < l.length) : w.frozen? ⟨R, j, none⟩ = false := by
  obtain ⟨cs, fz, hg, hf, _⟩ := h
  simp [World.frozen?, hg]
  omega

theorem RowB.set {w : World} {R : Nat} {l : List UInt8} (h : RowB w R l) {j : Nat} (hj : j < l.length) (y : UInt8) : RowB (w.setCell ⟨R, j, none⟩ (.int .u8 (y.toNat : Int))) R (l.set j y) := by
  obtain ⟨cs, fz, hg, hf, hc⟩ := h
  have hjc : j < cs.size := by
    have := hc j hj
    rcases Nat.lt_or_ge j cs.size with hlt | hge
    · exact hlt
    · rw [Array.getElem?_eq_none hge] at this; cases this
  refine ⟨cs.setIfInBounds j (.int .u8 (y.toNat : Int)), fz, ?_, by simpa using hf, fun i hi => ?_⟩
  · simp [World.setCell, Array.getElem?_modify, hg]
  · simp at hi
    by_cases e : i = j
    · subst e
      rw [Array.getElem?_setIfInBounds_self, if_pos hjc]
      simp
    · rw [Array.getElem?_setIfInBounds_ne (by omega), hc i hi, List.getElem_set_ne (by omega)]

theorem RowB.below {w w' : World} {R : Nat} {l : List UInt8} (h : RowB w R l) (hb : Below w.heap.size w w') : RowB w' R l := by
  have hlt := h.lt
  obtain ⟨cs, fz, hg, r⟩ := h
  exact ⟨cs, fz, (hb.block R hlt).trans hg, r⟩

theorem convRow {W : World} {R : Nat} {l : List UInt8} {c : Nat} (h : RowB W R l) :
    (convert 22 9 (.slice (some ⟨R, 0, none⟩) l.length c)).run Tryz.prog W = .ok (.string ⟨l.toArray⟩) W := by
  rw [run_convert_bytes_string W _ _ _ _ _ _ Tryz.underlying22 Tryz.underlying5 Tryz.underlying9]
  rw [run_bytesToString W ⟨R, 0, none⟩ l.length c (l.map fun b => (b.toNat : Int))]
  · rw [foldl_push]; rfl
  · have hl : l.length = (bcells l).length := by simp [bcells]
    rw [hl, run_loadCells_list (P := Tryz.prog) W ⟨R, 0, none⟩ (bcells l) ?_]
    · simp [bcells]
    · intro j u hu
      have hj : j < l.length := by
        rcases Nat.lt_or_ge j l.length with h1 | h1
        · exact h1
        · rw [List.getElem?_eq_none (by simpa [bcells] using h1)] at hu; cases hu
      have hadd : (⟨R, 0, none⟩ : Addr).add j = ⟨R, j, none⟩ := by unfold Addr.add; by_cases h0 : j = 0 <;> simp [h0]
      rw [hadd, h.cell hj]
      unfold bcells at hu
      rw [List.getElem?_map, List.getElem?_eq_getElem hj] at hu
      exact hu

theorem convTextRow (w : World) (s : ByteArray) : ∃ W cap, (convert 9 22 (.string s)).run Tryz.prog w = .ok (.slice (some ⟨w.heap.size, 0, none⟩) s.size cap) W ∧ Below w.heap.size w W ∧ RowB W w.heap.size s.data.toList ∧ s.size ≤ cap := by
  refine ⟨_, _, convText w s, belowBytesW w s, ⟨_, _, Lib.bytesWorld_at_new w 5 s, ?_, fun j hj => ?_⟩, grownCap_ge _ _ _ _⟩
  · simp [Lib.bytesCells]
  · have hj' : j < s.size := by simpa using hj
    have h2 := Lib.bytesWorld_cell w 5 s j hj'
    rw [cell_of_row _ _ _ _ _ _ (Lib.bytesWorld_at_new w 5 s)] at h2
    rw [h2, List.getD_eq_getElem?_getD, List.getElem?_eq_getElem hj]
    rfl

def lowL (l : List UInt8) (k : Nat) : List UInt8 := (l.take k).map lowB ++ l.drop k

theorem lowL_len (l : List UInt8) (k : Nat) : (lowL l k).length = l.length := by
  unfold lowL
  rw [List.length_append, List.length_map, List.length_take, List.length_drop]
  omega

theorem lowL_at (l : List UInt8) (k : Nat) (h : k < l.length) : (lowL l k)[k]'(by rw [lowL_len]; exact h) = l[k] := by
  unfold lowL
  have hl : ((l.take k).map lowB).length = k := by simp; omega
  rw [List.getElem_append_right (by omega), List.getElem_drop]
  congr 1
  omega

theorem lowL_set (l : List UInt8) (k : Nat) (h : k < l.length) : (lowL l k).set k (lowB l[k]) = lowL l (k + 1) := by
  unfold lowL
  have hl : ((l.take k).map lowB).length = k := by simp; omega
  rw [List.set_append_right _ _ (by omega), hl, Nat.sub_self, List.drop_eq_getElem_cons h, List.set_cons_zero, List.take_succ_eq_append_getElem h, List.map_append, List.append_assoc]
  rfl

theorem lowL_skip (l : List UInt8) (k : Nat) (h : k < l.length) (hb : lowB l[k] = l[k]) : lowL l k = lowL l (k + 1) := by
  unfold lowL
  rw [List.drop_eq_getElem_cons h, List.take_succ_eq_append_getElem h, List.map_append, List.append_assoc, List.map_cons, hb]
  rfl

theorem lowL_all (l : List UInt8) : lowL l l.length = l.map lowB := by simp [lowL]

theorem low_in {b : UInt8} (h : inI (b.toNat : Int) 65 90 = true) : ((lowB b).toNat : Int) = (b.toNat : Int) + 32 ∧ (b.toNat : Int) ≤ 90 := by
  simp only [inI, Bool.and_eq_true, decide_eq_true_eq] at h
  unfold lowB
  rw [if_pos (by simp; omega), UInt8.toNat_add]
  have : (32 : UInt8).toNat = 32 := rfl
  omega

theorem low_out {b : UInt8} (h : inI (b.toNat : Int) 65 90 = false) : lowB b = b := by
  simp only [inI, Bool.and_eq_false_iff, decide_eq_false_iff_not] at h
  unfold lowB
  rw [if_neg (by simp; omega)]

end Go.Proofs.YtjjdcdnaonfnmaaGreatDoor
