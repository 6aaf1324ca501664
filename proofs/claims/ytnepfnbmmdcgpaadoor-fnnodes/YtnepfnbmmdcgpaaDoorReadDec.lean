/- spec.ReadDec answers the number that a text spells, or -1. -/
import Derived.Test.YtnepfnbmmdcgpaaDoorDecText
import Derived.Test.YtnepfnbmmdcgpaaDoorLexM
import Derived.Lib.Atoi
import Derived.Lib.AtoiErr
namespace Go.Proofs.YtnepfnbmmdcgpaaDoor
open Go.RowKit

theorem decFrom_stop : ∀ (l : List UInt8) (k acc n : Nat) (b : UInt8), Lib.decFrom acc (l.take k) = some n → l[k]? = some b → Lib.digitVal b = none → Lib.decFrom acc l = none
  | [], k, _, _, _, _, hb, _ => by simp at hb
  | x :: r, 0, acc, n, b, _, hb, hd => by
    simp at hb
    subst hb
    simp [Lib.decFrom, hd]
  | x :: r, k + 1, acc, n, b, h, hb, hd => by
    rw [List.take_succ_cons, Lib.decFrom] at h
    rw [Lib.decFrom]
    cases hv : Lib.digitVal x with
    | none => rfl
    | some d =>
      rw [hv] at h
      exact decFrom_stop r k _ n b h (by simpa using hb) hd

theorem readD_stop {l : List UInt8} {k n : Nat} {b : UInt8} (h : Lib.decFrom 0 (l.take k) = some n) (hb : l[k]? = some b) (hd : Lib.digitVal b = none) : readD l = -1 := by
  unfold readD
  split
  · rfl
  · have h0 := decFrom_stop l k 0 n b h hb hd
    have : Lib.decNat l = none := by
      unfold Lib.decNat
      split
      · rfl
      · exact h0
    rw [this]

theorem readD_end {l : List UInt8} {n : Nat} (h9 : l.length ≤ 9) (h0 : l ≠ []) (h : Lib.decFrom 0 l = some n) : readD l = if Lib.itoa (n : Int) = l then (n : Int) else -1 := by
  have : Lib.decNat l = some n := by
    unfold Lib.decNat
    rw [if_neg (by simpa using h0), h]
  unfold readD
  rw [if_neg (by omega), this]

theorem specDigit (b : UInt8) (w : World) : Calls Tryd.prog 77 #[.int .u8 (b.toNat : Int)] w fun e w' => e = .returned (.bool (Lib.digitVal b).isSome) ∧ w = w' := by
  have hb : (b.toNat : Int) ≤ 255 := by have := UInt8.toNat_lt b; omega
  by_cases h1 : 48 ≤ b.toNat
  · by_cases h2 : b.toNat ≤ 57
    · have H : Hid ((Lib.digitVal b).isSome = true) := by unfold Hid Lib.digitVal; rw [if_pos ⟨h1, h2⟩]; rfl
      have ht : decide ((b.toNat : Int) ≤ 57) = true := by simp; omega
      go_enter Tryd.func77, Tryd.ntmps77
      go_wp2
      go_ret
      exact ⟨by rw [H.out]; rfl, rfl⟩
    · have H : Hid ((Lib.digitVal b).isSome = false) := by unfold Hid Lib.digitVal; rw [if_neg (by omega)]; rfl
      have ht : decide ((b.toNat : Int) ≤ 57) = false := by simp; omega
      go_enter Tryd.func77, Tryd.ntmps77
      go_wp2
      go_ret
      exact ⟨by rw [H.out]; rfl, rfl⟩
  · have H : Hid ((Lib.digitVal b).isSome = false) := by unfold Hid Lib.digitVal; rw [if_neg (by omega)]; rfl
    have ht : decide ((48 : Int) ≤ (b.toNat : Int)) = false := by simp; omega
    go_enter Tryd.func77, Tryd.ntmps77
    go_wp2
    go_ret
    exact ⟨by rw [H.out]; rfl, rfl⟩

theorem specDigitIs (b : UInt8) (w : World) (v : Bool) (h : (Lib.digitVal b).isSome = v) : Calls Tryd.prog 77 #[.int .u8 (b.toNat : Int)] w fun e w' => e = .returned (.bool v) ∧ w = w' := h ▸ specDigit b w

theorem pow9 {n k : Nat} (h : n < (0 + 1) * 10 ^ k) (hk : k ≤ 9) : n < 1000000000 := by
  have : 10 ^ k ≤ 10 ^ 9 := Nat.pow_le_pow_right (by omega) hk
  omega

set_option maxHeartbeats 1000000 in
theorem specReadDec (s : ByteArray) (w : World) (hs : s.size ≤ 1048576) :
    Calls Tryd.prog 86 #[.string s] w fun e w' => e = .returned (.int .i64 (readD s.data.toList)) ∧ w = w' := by
  have hll : s.data.toList.length = s.size := by simp
  go_enter Tryd.func86, Tryd.ntmps86
  go_wp2_with fail
  go_loop [3, 4] (fun q i => ∃ k n : Nat, k ≤ s.size ∧ (k ≤ 9) ∧ (0 < k → s.size ≤ 9) ∧ i = .int .i64 k ∧ q = .int .i64 n ∧ n < 1000000000 ∧ Hid (Lib.decFrom 0 (s.data.toList.take k) = some n)) (fun _ i => s.size - (intOf i).toNat)
  case atStart => exact ⟨0, 0, Nat.zero_le _, by omega, by omega, rfl, rfl, by omega, rfl⟩
  case round =>
    obtain ⟨k, n, hk, hk9, hs9, rfl, rfl, hn, hd⟩ := hrel
    by_cases hlt : k < s.size
    · have hgl : s.data.toList[k]? = some s[k] := by
        rw [List.getElem?_eq_getElem (by omega)]; rfl
      have hby : (s[k].toNat : Int) ≤ 255 := by have := UInt8.toNat_lt s[k]; omega
      cases hv : Lib.digitVal s[k] with
      | none =>
        have HR := Lib.hid (readD_stop hd.out hgl hv)
        have Hv : Hid ((Lib.digitVal s[k]).isSome = false) := by unfold Hid; rw [hv]; rfl
        clear hv hgl hll
        go_wp2_with (go_at_call 77; refine (specDigitIs _ _ false Hv.out).mono ?_; rintro e w' ⟨rfl, rfl⟩)
        go_ret
        exact ⟨by rw [HR.out]; rfl, rfl⟩
      | some d =>
        have Hv : Hid ((Lib.digitVal s[k]).isSome = true) := by unfold Hid; rw [hv]; rfl
        have hdv : 48 ≤ s[k].toNat ∧ s[k].toNat = 48 + d ∧ d ≤ 9 := by
          unfold Lib.digitVal at hv
          split at hv
          · cases hv; omega
          · cases hv
        by_cases h9 : s.size ≤ 9
        · have HD := Lib.hid (Lib.decFrom_take s.data.toList k 0 n s[k] d hd.out hgl hv)
          have hlt1 : n * 10 + d < 1000000000 := by
            have := Lib.decFrom_lt _ _ _ HD.out
            rw [List.length_take_of_le (by omega)] at this
            exact pow9 this (by omega)
          have hd1 : (s[k].toNat : Int) = 48 + (d : Int) := by omega
          have Hd1 := Lib.hid hd1
          have hd48 : (48 : Int) ≤ (s[k].toNat : Int) := by omega
          have hd57 : (s[k].toNat : Int) ≤ 57 := by omega
          clear hv hgl hll hd1 hdv
          go_wp2_with (go_at_call 77; refine (specDigitIs _ _ true Hv.out).mono ?_; rintro e w' ⟨rfl, rfl⟩)
          go_round
          case rel => exact ⟨k + 1, n * 10 + d, by omega, by omega, fun _ => h9, by go_num, by rw [Hd1.out]; go_num, hlt1, HD⟩
          case measure => simp [intOf]; omega
        · have HR : Hid (readD s.data.toList = -1) := by unfold Hid readD; rw [if_pos (by omega)]
          clear hv hgl hll hdv
          go_wp2_with (go_at_call 77; refine (specDigitIs _ _ true Hv.out).mono ?_; rintro e w' ⟨rfl, rfl⟩)
          go_ret
          exact ⟨by rw [HR.out]; rfl, rfl⟩
    · obtain rfl : k = s.size := by omega
      rw [List.take_of_length_le (by omega)] at hd
      have hb0 : -9223372036854775808 ≤ (n : Int) := by omega
      have hb1 : (n : Int) ≤ 9223372036854775807 := by omega
      by_cases h0 : s.size = 0
      · have hnil : s.data.toList = [] := List.eq_nil_of_length_eq_zero (by omega)
        have hsn : s.toList.isEmpty = true := by rw [Lib.toList_data, hnil]; rfl
        have hse : s.toList = [] := by rw [Lib.toList_data, hnil]
        have HR : Hid (readD s.data.toList = -1) := by unfold Hid; rw [hnil]; rfl
        clear hll hnil hse
        go_wp2_with fail
        go_ret
        exact ⟨by rw [HR.out]; rfl, rfl⟩
      · have hne : s.data.toList ≠ [] := fun e => by rw [e] at hll; simp at hll; omega
        have hsn : s.toList.isEmpty = false := by rw [Lib.toList_data]; simpa using hne
        have HR := Lib.hid (readD_end (by omega) hne hd.out)
        clear hll hne
        by_cases he : Lib.itoa (n : Int) = s.data.toList
        · have ht : (!((dec (n : Int)).toList == s.toList)) = false := by simp [Lib.toList_data, dec, he]
          have HE := Lib.hid he
          clear he
          go_wp2_with (go_at_call 57; refine (specDecText (n : Int) _ hb0 hb1).mono ?_; rintro e w' ⟨rfl, rfl⟩)
          go_ret
          exact ⟨by rw [HR.out, if_pos HE.out]; rfl, rfl⟩
        · have ht : (!((dec (n : Int)).toList == s.toList)) = true := by simp [Lib.toList_data, dec, he]
          have HE := Lib.hid he
          clear he
          go_wp2_with (go_at_call 57; refine (specDecText (n : Int) _ hb0 hb1).mono ?_; rintro e w' ⟨rfl, rfl⟩)
          go_ret
          exact ⟨by rw [HR.out, if_neg HE.out]; rfl, rfl⟩

end Go.Proofs.YtnepfnbmmdcgpaaDoor
