/- The model's small words over bytes: letters, digits, gaps, names. -/
import Derived.Test.YtnepfnbmmdcgpaaDoorBytes1
import Derived.Test.YtnepfnbmmdcgpaaDoorLexM
import Derived.Test.YtnepfnbmmdcgpaaDoorReadDec
namespace Go.Proofs.YtnepfnbmmdcgpaaDoor
open Go.RowKit

def inI (x lo hi : Int) : Bool := decide (lo ≤ x) && decide (x ≤ hi)

theorem specIn (x lo hi : Int) (w : World) : Calls Tryd.prog 54 #[.int .i64 x, .int .i64 lo, .int .i64 hi] w fun e w' => e = .returned (.bool (inI x lo hi)) ∧ w = w' := by
  by_cases h1 : lo ≤ x
  · have H : Hid (inI x lo hi = decide (x ≤ hi)) := by unfold Hid inI; simp [h1]
    go_enter Tryd.func54, Tryd.ntmps54
    go_wp2
    go_ret
    exact ⟨by rw [H.out]; rfl, rfl⟩
  · have H : Hid (inI x lo hi = false) := by unfold Hid inI; simp [h1]
    have ht : decide (lo ≤ x) = false := by simp; omega
    go_enter Tryd.func54, Tryd.ntmps54
    go_wp2
    go_ret
    exact ⟨by rw [H.out]; rfl, rfl⟩

theorem specInIs (x lo hi : Int) (w : World) (v : Bool) (h : inI x lo hi = v) : Calls Tryd.prog 54 #[.int .i64 x, .int .i64 lo, .int .i64 hi] w fun e w' => e = .returned (.bool v) ∧ w = w' := h ▸ specIn x lo hi w

theorem digit_eq (b : UInt8) : (Lib.digitVal b).isSome = digitB b := by
  unfold Lib.digitVal digitB
  split
  · rename_i h; simp [h.1, h.2]
  · rename_i h
    symm
    simp only [Option.isSome_none, Bool.and_eq_false_iff, decide_eq_false_iff_not]
    omega

theorem specDigitB (b : UInt8) (w : World) (v : Bool) (h : digitB b = v) : Calls Tryd.prog 77 #[.int .u8 (b.toNat : Int)] w fun e w' => e = .returned (.bool v) ∧ w = w' :=
  specDigitIs b w v ((digit_eq b).trans h)

theorem letter_eq (b : UInt8) : letterB b = (inI (b.toNat : Int) 65 90 || inI (b.toNat : Int) 97 122 || ((b.toNat : Int) == 95)) := by
  rw [Bool.eq_iff_iff]
  simp only [letterB, inI, Bool.or_eq_true, Bool.and_eq_true, decide_eq_true_eq, beq_iff_eq]
  omega

theorem specLetter (b : UInt8) (w : World) : Calls Tryd.prog 93 #[.int .u8 (b.toNat : Int)] w fun e w' => e = .returned (.bool (letterB b)) ∧ w = w' := by
  have hby := byte_le b
  have HL := Lib.hid (letter_eq b)
  cases h1 : inI (b.toNat : Int) 65 90 with
  | true =>
    have H : Hid (letterB b = true) := by unfold Hid; rw [HL.out, h1]; rfl
    have H1 := Lib.hid h1
    clear h1
    go_enter Tryd.func93, Tryd.ntmps93
    go_wp2_with (go_at_call 54; refine (specInIs _ 65 90 _ true H1.out).mono ?_; rintro e w' ⟨rfl, rfl⟩)
    go_ret
    exact ⟨by rw [H.out]; rfl, rfl⟩
  | false =>
    have H1 := Lib.hid h1
    cases h2 : inI (b.toNat : Int) 97 122 with
    | true =>
      have H : Hid (letterB b = true) := by unfold Hid; rw [HL.out, h1, h2]; rfl
      have H2 := Lib.hid h2
      clear h1 h2
      go_enter Tryd.func93, Tryd.ntmps93
      go_wp2_with fail
      refine (specInIs _ 65 90 _ false H1.out).mono ?_
      rintro e w' ⟨rfl, rfl⟩
      go_wp2_with fail
      refine (specInIs _ 97 122 _ true H2.out).mono ?_
      rintro e w' ⟨rfl, rfl⟩
      go_wp2_with fail
      go_ret
      exact ⟨by rw [H.out]; rfl, rfl⟩
    | false =>
      have H : Hid (letterB b = ((b.toNat : Int) == 95)) := by unfold Hid; rw [HL.out, h1, h2]; rfl
      have H2 := Lib.hid h2
      clear h1 h2
      go_enter Tryd.func93, Tryd.ntmps93
      go_wp2_with fail
      refine (specInIs _ 65 90 _ false H1.out).mono ?_
      rintro e w' ⟨rfl, rfl⟩
      go_wp2_with fail
      refine (specInIs _ 97 122 _ false H2.out).mono ?_
      rintro e w' ⟨rfl, rfl⟩
      go_wp2_with fail
      go_ret
      exact ⟨by rw [H.out]; rfl, rfl⟩

theorem specLetterIs (b : UInt8) (w : World) (v : Bool) (h : letterB b = v) : Calls Tryd.prog 93 #[.int .u8 (b.toNat : Int)] w fun e w' => e = .returned (.bool v) ∧ w = w' := h ▸ specLetter b w

theorem specMore (b : UInt8) (w : World) (v : Bool) (hv : moreB b = v) : Calls Tryd.prog 80 #[.int .u8 (b.toNat : Int)] w fun e w' => e = .returned (.bool v) ∧ w = w' := by
  subst hv
  have hby := byte_le b
  cases h1 : letterB b with
  | true =>
    have H : Hid (moreB b = true) := by unfold Hid moreB; rw [h1]; rfl
    have H1 := Lib.hid h1
    clear h1
    go_enter Tryd.func80, Tryd.ntmps80
    go_wp2_with (go_at_call 93; refine (specLetterIs b _ true H1.out).mono ?_; rintro e w' ⟨rfl, rfl⟩)
    go_ret
    exact ⟨by rw [H.out]; rfl, rfl⟩
  | false =>
    have H : Hid (moreB b = digitB b) := by unfold Hid moreB; rw [h1]; rfl
    have H1 := Lib.hid h1
    clear h1
    go_enter Tryd.func80, Tryd.ntmps80
    go_wp2_with (first
      | (go_at_call 93; refine (specLetterIs b _ false H1.out).mono ?_; rintro e w' ⟨rfl, rfl⟩)
      | (go_at_call 77; refine (specDigitB b _ _ rfl).mono ?_; rintro e w' ⟨rfl, rfl⟩))
    go_ret
    exact ⟨by rw [H.out]; rfl, rfl⟩

end Go.Proofs.YtnepfnbmmdcgpaaDoor
