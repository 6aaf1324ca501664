/- spec.DecText answers the decimal numeral. -/
import Derived.Test.YtnepfnbmmdcgpaaDoorRows
import Derived.WalkKit
import Derived.WalkLawsBesides
import Derived.WalkSpells
import Derived.Deep.QuietTactic
import Derived.BigQuiet
import Derived.Outline
import Derived.Lib.Strings
import Derived.Lib.Hide
import Derived.Lib.ItoaNum
import Derived.Lib.ItoaLen
namespace Go.Proofs.YtnepfnbmmdcgpaaDoor
open Go.RowKit

def dec (n : Int) : ByteArray := ⟨(Lib.itoa n).toArray⟩

/-- The digits of u ahead of out; none for 0. -/
def decOn (u : Nat) (out : List UInt8) : List UInt8 := if u = 0 then out else Lib.decDigits u ++ out

theorem decOn_step (u : Nat) (out : List UInt8) (h : 0 < u) : decOn u out = decOn (u / 10) (UInt8.ofNat (48 + u % 10) :: out) := by
  unfold decOn
  rw [if_neg (by omega)]
  by_cases h10 : u < 10
  · rw [if_pos (by omega), Lib.decDigits_one h10, Nat.mod_eq_of_lt h10]
    rfl
  · rw [if_neg (by omega), Lib.decDigits, dif_neg h10]
    simp

theorem digit_cut (d : Nat) (h : d < 10) : (⟨#[48, 49, 50, 51, 52, 53, 54, 55, 56, 57]⟩ : ByteArray).extract d (d + 1) = ⟨#[UInt8.ofNat (48 + d)]⟩ := by
  have : ∀ d : Fin 10, (⟨#[48, 49, 50, 51, 52, 53, 54, 55, 56, 57]⟩ : ByteArray).extract d.val (d.val + 1) = ⟨#[UInt8.ofNat (48 + d.val)]⟩ := by decide
  exact this ⟨d, h⟩

theorem ba_cons0 (x : UInt8) (out : List UInt8) : (⟨#[x]⟩ : ByteArray) ++ ⟨out.toArray⟩ = ⟨(x :: out).toArray⟩ := by
  apply ByteArray.ext
  simp [ByteArray.data_append]

theorem decOn_len (u n : Nat) (out : List UInt8) (h : decOn u out = Lib.decDigits n) (hn : n < 18446744073709551616) : out.length ≤ 20 := by
  have h1 := congrArg List.length h
  rw [Lib.decDigits_length] at h1
  have h2 := Lib.nDigits_le20 n hn
  unfold decOn at h1
  split at h1
  · omega
  · rw [List.length_append] at h1; omega

set_option maxHeartbeats 1000000 in
theorem specDecPos (n : Nat) (w : World) (h0 : 0 < n) (h1 : (n : Int) ≤ 9223372036854775807) :
    Calls Tryd.prog 57 #[.int .i64 (n : Int)] w fun e w' => e = .returned (.string ⟨(Lib.decDigits n).toArray⟩) ∧ w = w' := by
  have hz : ((n : Int) == 0) = false := by simp; omega
  go_enter Tryd.func57, Tryd.ntmps57
  go_wp2
  go_loop [3, 4, 5] (fun o m _ => ∃ (u : Nat) (out : List UInt8), m = .int .i64 (u : Int) ∧ o = .string ⟨out.toArray⟩ ∧ u ≤ n ∧ Hid (decOn u out = Lib.decDigits n)) (fun _ m _ => (intOf m).toNat)
  case atStart => exact ⟨n, [], rfl, rfl, Nat.le_refl _, by unfold Hid decOn; rw [if_neg (by omega)]; simp⟩
  case round =>
    obtain ⟨u, out, rfl, rfl, hu, hd⟩ := hrel
    have hlen := decOn_len u n out hd.out (by omega)
    by_cases hp : 0 < u
    · have H := Lib.hid ((decOn_step u out hp).symm.trans hd.out)
      have hne : ((u : Int) != 0) = true := by rw [bne_iff_ne]; omega
      have Hc := Lib.hid (digit_cut (u % 10) (by omega))
      go_wp2
      go_round
      case rel => exact ⟨u / 10, UInt8.ofNat (48 + u % 10) :: out, by simp, by rw [Hc.out, ba_cons0], by omega, H⟩
      case measure => simp [intOf]; omega
    · obtain rfl : u = 0 := by omega
      have hd' := hd.out
      unfold decOn at hd'
      rw [if_pos rfl] at hd'
      have H := Lib.hid hd'
      clear hd hd'
      go_wp2
      go_ret
      exact ⟨by rw [← H.out]; rfl, rfl⟩

set_option maxHeartbeats 1000000 in
theorem specDecNeg (n : Nat) (w : World) (h0 : 0 < n) (h1 : (n : Int) ≤ 9223372036854775808) :
    Calls Tryd.prog 57 #[.int .i64 (-(n : Int))] w fun e w' => e = .returned (.string ⟨(45 :: Lib.decDigits n).toArray⟩) ∧ w = w' := by
  have hz : (-(n : Int) == 0) = false := by simp; omega
  go_enter Tryd.func57, Tryd.ntmps57
  go_wp2
  go_loop [3, 4, 5] (fun o m _ => ∃ (u : Nat) (out : List UInt8), m = .int .i64 (-(u : Int)) ∧ o = .string ⟨out.toArray⟩ ∧ u ≤ n ∧ Hid (decOn u out = Lib.decDigits n)) (fun _ m _ => (-(intOf m)).toNat)
  case atStart => exact ⟨n, [], rfl, rfl, Nat.le_refl _, by unfold Hid decOn; rw [if_neg (by omega)]; simp⟩
  case round =>
    obtain ⟨u, out, rfl, rfl, hu, hd⟩ := hrel
    have hlen := decOn_len u n out hd.out (by omega)
    by_cases hp : 0 < u
    · have H := Lib.hid ((decOn_step u out hp).symm.trans hd.out)
      have hne : (-(u : Int) != 0) = true := by rw [bne_iff_ne]; omega
      have Hc := Lib.hid (digit_cut (u % 10) (by omega))
      have hm : (-(u : Int)).tmod 10 = -((u % 10 : Nat) : Int) := by rw [Int.neg_tmod]; congr 1
      have hq : (-(u : Int)).tdiv 10 = -((u / 10 : Nat) : Int) := by rw [Int.neg_tdiv]; congr 1
      by_cases h10 : u % 10 = 0
      · have Hc' : Hid ((⟨#[48, 49, 50, 51, 52, 53, 54, 55, 56, 57]⟩ : ByteArray).extract 0 1 = ⟨#[UInt8.ofNat (48 + u % 10)]⟩) := by
          have := Hc.out
          rw [h10] at this
          unfold Hid
          rw [h10]
          exact this
        go_wp2
        go_round
        case rel => exact ⟨u / 10, UInt8.ofNat (48 + u % 10) :: out, by simp, by rw [Hc'.out, ba_cons0], by omega, H⟩
        case measure => simp [intOf]; omega
      · go_wp2
        go_round
        case rel => exact ⟨u / 10, UInt8.ofNat (48 + u % 10) :: out, by simp, by rw [Hc.out, ba_cons0], by omega, H⟩
        case measure => simp [intOf]; omega
    · have hz0 : (-(u : Int) != 0) = false := by simp; omega
      have hd' := hd.out
      unfold decOn at hd'
      rw [if_pos (by omega)] at hd'
      have H := Lib.hid hd'
      clear hd hd'
      go_wp2
      go_ret
      exact ⟨by rw [← H.out, ← ba_cons0]; rfl, rfl⟩

theorem specDecText (n : Int) (w : World) (h0 : -9223372036854775808 ≤ n) (h1 : n ≤ 9223372036854775807) :
    Calls Tryd.prog 57 #[.int .i64 n] w fun e w' => e = .returned (.string (dec n)) ∧ w = w' := by
  unfold dec Lib.itoa
  rcases Int.lt_trichotomy n 0 with h | h | h
  · obtain ⟨u, hu⟩ := Int.eq_ofNat_of_zero_le (show 0 ≤ -n by omega)
    have hn : n = -(u : Int) := by omega
    subst hn
    rw [if_pos (by omega), show (-(u : Int)).natAbs = u by omega]
    exact specDecNeg u w (by omega) (by omega)
  · subst h
    rw [if_neg (by omega), Lib.decDigits_one (by decide)]
    go_enter Tryd.func57, Tryd.ntmps57
    go_wp2
    go_ret
    exact ⟨rfl, rfl⟩
  · obtain ⟨u, rfl⟩ := Int.eq_ofNat_of_zero_le (show 0 ≤ n by omega)
    rw [if_neg (by omega), Int.toNat_natCast]
    exact specDecPos u w (by omega) (by omega)

end Go.Proofs.YtnepfnbmmdcgpaaDoor
