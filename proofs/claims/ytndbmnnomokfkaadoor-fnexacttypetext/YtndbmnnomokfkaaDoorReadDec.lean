/- spec.ReadDec answers the number that a text spells, or -1. -/
import Derived.Test.YtndbmnnomokfkaaDoorDecText
import Derived.Test.YtndbmnnomokfkaaDoorLexM
import Derived.Lib.Atoi
import Derived.Lib.AtoiErr
namespace Go.Proofs.YtndbmnnomokfkaaDoor
open Go.RowKit

theorem decFrom_stop : ∀ (l : List UInt8) (k acc n : Nat) (b : UInt8), Lib.decFrom acc (l.take k) = some n → l[k]? = some b → Lib.digitVal b = none → Lib.decFrom acc l = none
  | [], k, _, _, _, _, hb, _ => by simp at hb
  | x :: r, 0, acc, n, b, _, hb, hd => by
    simp at hb
    subst hb
    simp [Lib.decFrom, hd]
  | x :: r, k + 1, acc, n, b, h, hb, hd => by
    rw [List.take_succ_cons, Lib.decFrom] at h
    rw [Lib.decFrom]
    cases hv : Lib.digitVal x with
    | none => rfl
    | some d =>
      rw [hv] at h
      exact decFrom_stop r k _ n b h (by simpa using hb) hd

theorem readD_stop {l : List UInt8} {k n : Nat} {b : UInt8} (h : Lib.decFrom 0 (l.take k) = some n) (hb : l[k]? = some b) (hd : Lib.digitVal b = none) : readD l = -1 := by
  unfold readD
  split
  · rfl
  · have h0 := decFrom_stop l k 0 n b h hb hd
    have : Lib.decNat l = none := by
      unfold Lib.decNat
      split
      · rfl
      · exact h0
    rw [this]

theorem readD_end {l : List UInt8} {n : Nat} (h9 : l.length ≤ 9) (h0 : l ≠ []) (h : Lib.decFrom 0 l = some n) : readD l = if Lib.itoa (n : Int) = l then (n : Int) else -1 := by
  have : Lib.decNat l = some n := by
    unfold Lib.decNat
    rw [if_neg (by simpa using h0), h]
  unfold readD
  rw [if_neg (by omega), this]

theorem specDigit (b : UInt8) (w : World) : Calls Tryd.prog 17 #[.int .u8 (b.toNat : Int)] w fun e w' => e = .returned (.bool (Lib.digitVal b).isSome) ∧ w = w' := by
  have hb : (b.toNat : Int) ≤ 255 := by have := UInt8.toNat_lt b; omega
  by_cases h1 : 48 ≤ b.toNat
  · by_cases h2 : b.toNat ≤ 57
    · have H : Hid ((Lib.digitVal b).isSome = true) := by unfold Hid Lib.digitVal; rw [if_pos ⟨h1, h2⟩]; rfl
      have ht : decide ((b.toNat : Int) ≤ 57) = true := by simp; omega
      go_enter Tryd.func17, Tryd.ntmps17
      go_wp2
      go_ret
      exact ⟨by rw [H.out]; rfl, rfl⟩
    · have H : Hid ((Lib.digitVal b).isSome = false) := by unfold Hid Lib.digitVal; rw [if_neg (by omega)]; rfl
      have ht : decide ((b.toNat : Int) ≤ 57) = false := by simp; omega
      go_enter Tryd.func17, Tryd.ntmps17
      go_wp2
      go_ret
      exact ⟨by rw [H.out]; rfl, rfl⟩
  · have H : Hid ((Lib.digitVal b).isSome = false) := by unfold Hid Lib.digitVal; rw [if_neg (by omega)]; rfl
    have ht : decide ((48 : Int) ≤ (b.toNat : Int)) = false := by simp; omega
    go_enter Tryd.func17, Tryd.ntmps17
    go_wp2
    go_ret
    exact ⟨by rw [H.out]; rfl, rfl⟩

theorem specDigitIs (b : UInt8) (w : World) (v : Bool) (h : (Lib.digitVal b).isSome = v) : Calls Tryd.prog 17 #[.int .u8 (b.toNat : Int)] w fun e w' => e = .returned (.bool v) ∧ w = w' := h ▸ specDigit b w

theorem pow9 {n k : Nat} (h : n < (0 + 1) * 10 ^ k) (hk : k ≤ 9) : n < 1000000000 := by
  have : 10 ^ k ≤ 10 ^ 9 := Nat.pow_le_pow_right (by omega) hk
  omega

end Go.Proofs.YtndbmnnomokfkaaDoor
