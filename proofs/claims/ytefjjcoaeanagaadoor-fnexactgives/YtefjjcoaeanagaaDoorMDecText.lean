/- spec.DecText answers the decimal numeral. -/
/- spec.ReadDec answers the number that a text spells, or -1. -/
/- A number comes back from its numeral: plain mathematics. -/
import Derived.Test.YtefjjcoaeanagaaDoorRows
import Derived.WalkKit
import Derived.WalkLawsBesides
import Derived.WalkSpells
import Derived.Deep.QuietTactic
import Derived.BigQuiet
import Derived.Outline
import Derived.Lib.Strings
import Derived.Lib.Hide
import Derived.Lib.ItoaNum
import Derived.Lib.ItoaLen
import Derived.Test.YtefjjcoaeanagaaDoorMLexM
import Derived.Lib.Atoi
import Derived.Lib.AtoiErr
namespace Go.Proofs.YtefjjcoaeanagaaDoor
open Go.RowKit

def dec (n : Int) : ByteArray := ⟨(Lib.itoa n).toArray⟩

/-- The digits of u ahead of out; none for 0. -/
def decOn (u : Nat) (out : List UInt8) : List UInt8 := if u = 0 then out else Lib.decDigits u ++ out

theorem decOn_step (u : Nat) (out : List UInt8) (h : 0 < u) : decOn u out = decOn (u / 10) (UInt8.ofNat (48 + u % 10) :: out) := by
  unfold decOn
  rw [if_neg (by omega)]
  by_cases h10 : u < 10
  · rw [if_pos (by omega), Lib.decDigits_one h10, Nat.mod_eq_of_lt h10]
    rfl
  · rw [if_neg (by omega), Lib.decDigits, dif_neg h10]
    simp

theorem digit_cut (d : Nat) (h : d < 10) : (⟨#[48, 49, 50, 51, 52, 53, 54, 55, 56, 57]⟩ : ByteArray).extract d (d + 1) = ⟨#[UInt8.ofNat (48 + d)]⟩ := by
  have : ∀ d : Fin 10, (⟨#[48, 49, 50, 51, 52, 53, 54, 55, 56, 57]⟩ : ByteArray).extract d.val (d.val + 1) = ⟨#[UInt8.ofNat (48 + d.val)]⟩ := by decide
  exact this ⟨d, h⟩

theorem ba_cons0 (x : UInt8) (out : List UInt8) : (⟨#[x]⟩ : ByteArray) ++ ⟨out.toArray⟩ = ⟨(x :: out).toArray⟩ := by
  apply ByteArray.ext
  simp [ByteArray.data_append]

theorem decOn_len (u n : Nat) (out : List UInt8) (h : decOn u out = Lib.decDigits n) (hn : n < 18446744073709551616) : out.length ≤ 20 := by
  have h1 := congrArg List.length h
  rw [Lib.decDigits_length] at h1
  have h2 := Lib.nDigits_le20 n hn
  unfold decOn at h1
  split at h1
  · omega
  · rw [List.length_append] at h1; omega

end Go.Proofs.YtefjjcoaeanagaaDoor

namespace Go.Proofs.YtefjjcoaeanagaaDoor
open Go.RowKit

theorem decFrom_stop : ∀ (l : List UInt8) (k acc n : Nat) (b : UInt8), Lib.decFrom acc (l.take k) = some n → l[k]? = some b → Lib.digitVal b = none → Lib.decFrom acc l = none
  | [], k, _, _, _, _, hb, _ => by simp at hb
  | x :: r, 0, acc, n, b, _, hb, hd => by
    simp at hb
    subst hb
    simp [Lib.decFrom, hd]
  | x :: r, k + 1, acc, n, b, h, hb, hd => by
    rw [List.take_succ_cons, Lib.decFrom] at h
    rw [Lib.decFrom]
    cases hv : Lib.digitVal x with
    | none => rfl
    | some d =>
      rw [hv] at h
      exact decFrom_stop r k _ n b h (by simpa using hb) hd

theorem readD_stop {l : List UInt8} {k n : Nat} {b : UInt8} (h : Lib.decFrom 0 (l.take k) = some n) (hb : l[k]? = some b) (hd : Lib.digitVal b = none) : readD l = -1 := by
  unfold readD
  split
  · rfl
  · have h0 := decFrom_stop l k 0 n b h hb hd
    have : Lib.decNat l = none := by
      unfold Lib.decNat
      split
      · rfl
      · exact h0
    rw [this]

theorem readD_end {l : List UInt8} {n : Nat} (h9 : l.length ≤ 9) (h0 : l ≠ []) (h : Lib.decFrom 0 l = some n) : readD l = if Lib.itoa (n : Int) = l then (n : Int) else -1 := by
  have : Lib.decNat l = some n := by
    unfold Lib.decNat
    rw [if_neg (by simpa using h0), h]
  unfold readD
  rw [if_neg (by omega), this]

theorem pow9 {n k : Nat} (h : n < (0 + 1) * 10 ^ k) (hk : k ≤ 9) : n < 1000000000 := by
  have : 10 ^ k ≤ 10 ^ 9 := Nat.pow_le_pow_right (by omega) hk
  omega

end Go.Proofs.YtefjjcoaeanagaaDoor

namespace Go.Proofs.YtefjjcoaeanagaaDoor

theorem decFrom_snocB : ∀ (l : List UInt8) (acc n : Nat) (b : UInt8) (d : Nat), Lib.decFrom acc l = some n → Lib.digitVal b = some d → Lib.decFrom acc (l ++ [b]) = some (n * 10 + d)
  | [], acc, n, b, d, h, hd => by
    cases h
    simp [Lib.decFrom, hd]
  | x :: r, acc, n, b, d, h, hd => by
    rw [Lib.decFrom] at h
    rw [List.cons_append, Lib.decFrom]
    cases hv : Lib.digitVal x with
    | none => rw [hv] at h; cases h
    | some e => rw [hv] at h; exact decFrom_snocB r _ n b d h hd

theorem digit_ofB (d : Nat) (h : d < 10) : Lib.digitVal (UInt8.ofNat (48 + d)) = some d := by
  have h2 : (UInt8.ofNat (48 + d)).toNat = 48 + d := by rw [UInt8.toNat_ofNat']; omega
  unfold Lib.digitVal
  rw [h2, if_pos (by omega)]
  congr 1
  omega

theorem decFrom_digitsB (u : Nat) : Lib.decFrom 0 (Lib.decDigits u) = some u := by
  induction u using Nat.strongRecOn with
  | ind u ih =>
    by_cases h : u < 10
    · rw [Lib.decDigits_one h, Lib.decFrom, digit_ofB u h]
      simp [Lib.decFrom]
    · rw [Lib.decDigits, dif_neg h, decFrom_snocB _ _ _ _ _ (ih (u / 10) (by omega)) (digit_ofB (u % 10) (by omega))]
      congr 1
      omega

theorem decDigits_neB (u : Nat) : Lib.decDigits u ≠ [] := by
  intro h
  have h1 := Lib.decDigits_length u
  have h2 := Lib.nDigits_pos u
  rw [h] at h1
  simp at h1
  omega

theorem itoa_natB (m : Nat) : Lib.itoa (m : Int) = Lib.decDigits m := by
  unfold Lib.itoa
  rw [if_neg (by omega), Int.toNat_natCast]

theorem nDigits_leB : ∀ (k u : Nat), 1 ≤ k → u < 10 ^ k → Lib.nDigits u ≤ k
  | 0, _, h, _ => by omega
  | k + 1, u, _, h => by
    by_cases hu : u < 10
    · rw [Lib.nDigits_small hu]; omega
    · rw [Lib.nDigits_big hu]
      rcases Nat.eq_zero_or_pos k with rfl | hk
      · simp at h; omega
      · have : u / 10 < 10 ^ k := by
          rw [Nat.pow_succ] at h
          exact Nat.div_lt_of_lt_mul (by rw [Nat.mul_comm]; exact h)
        have := nDigits_leB k (u / 10) hk this
        omega

theorem readD_inB (n : Int) (h0 : 0 ≤ n) (h1 : n ≤ 999999999) : readD (Lib.itoa n) = n := by
  obtain ⟨m, rfl⟩ := Int.eq_ofNat_of_zero_le h0
  have hl : (Lib.decDigits m).length ≤ 9 := by
    rw [Lib.decDigits_length]
    exact nDigits_leB 9 m (by omega) (by omega)
  rw [itoa_natB, readD_end hl (decDigits_neB m) (decFrom_digitsB m), itoa_natB, if_pos rfl]

end Go.Proofs.YtefjjcoaeanagaaDoor
