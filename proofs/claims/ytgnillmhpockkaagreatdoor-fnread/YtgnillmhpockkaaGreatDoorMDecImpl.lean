/- impl.DecText answers the decimal numeral, where strconv's table stands as the text lays it. -/
/- impl.ReadDec answers the number that a text spells, or -1. -/
/- The model's small words over bytes: letters, digits, gaps, names. -/
/- The model's gaps. -/
/- The model's texts in small letters, quoted texts, names, signs. -/
/- The program's classes of bytes. -/
import Derived.Test.YtgnillmhpockkaaGreatDoorMBytes1
import Derived.Test.YtgnillmhpockkaaGreatDoorMShelf
import Derived.Below
import Derived.Lib.LaidTab
import Derived.Stop.LaidErr
import Derived.Test.YtgnillmhpockkaaGreatDoorMMem
import Derived.Deep.MidRow
import Derived.Deep.Cut
namespace Go.Proofs.YtgnillmhpockkaaGreatDoor
open Go.RowKit

theorem gPow : Tryz.prog.globalNamed "internal/strconv.uint64pow10" = some 7 := by kernel_rfl
theorem gPowType : (Tryz.prog.globals[7]?).map (·.type) = some 182 := by kernel_rfl
theorem cellsPow : Tryz.prog.cellsOf 182 = 20 := by kernel_rfl
theorem cellsU64 : Tryz.prog.cellsOf 162 = 1 := by kernel_rfl

theorem powTab_of {W : World} {rest : List (String × DataW Unit)} (h : laidMet Tryz.prog (("internal/strconv.uint64pow10", Rows.laid_internal_strconv_uint64pow10) :: rest) W) :
    Lib.TabIs Tryz.prog W "internal/strconv.uint64pow10" .u64 Lib.pow10Tab :=
  Lib.tabIs_of_head (rest := rest) gPow gPowType Tryz.underlying182 Tryz.underlying162 cellsU64 cellsPow h

theorem implDecText (n : Int) (w : World) (h0 : -9223372036854775808 ≤ n) (h1 : n ≤ 9223372036854775807) (ht : Lib.TabIs Tryz.prog w "internal/strconv.uint64pow10" .u64 Lib.pow10Tab) :
    Calls Tryz.prog 81 #[.int .i64 n] w fun e w' => e = .returned (.string (dec n)) ∧ Below w.heap.size w w' := by
  have HT := Lib.hid ht
  clear ht
  go_enter Tryz.func81, Tryz.ntmps81
  go_wp2_with (go_at_call 109; refine (Tryz.strconv_Itoa n h0 h1 w HT.out).mono ?_; rintro e w' ⟨rfl, k, os, rfl⟩)
  go_ret
  refine ⟨rfl, rfl, rfl, rfl, by simp [Go.Sort.grow], fun i hi => ?_⟩
  show (w.heap ++ os)[i]? = w.heap[i]?
  rw [Array.getElem?_append_left hi]

end Go.Proofs.YtgnillmhpockkaaGreatDoor

namespace Go.Proofs.YtgnillmhpockkaaGreatDoor
open Go.RowKit

theorem decDigits_first (u : Nat) : ∃ b r, Lib.decDigits u = b :: r ∧ 48 ≤ b.toNat ∧ b.toNat ≤ 57 := by
  rw [Lib.decDigits_eq]
  have hp := Lib.nDigits_pos u
  obtain ⟨k, hk⟩ : ∃ k, Lib.nDigits u = k + 1 := ⟨Lib.nDigits u - 1, by omega⟩
  rw [hk, List.range_succ_eq_map, List.map_cons]
  refine ⟨_, _, rfl, ?_⟩
  unfold Lib.dg
  have h1 : u / 10 ^ (k + 1 - 1 - 0) % 10 < 10 := Nat.mod_lt _ (by omega)
  have h2 : (UInt8.ofNat (48 + u / 10 ^ (k + 1 - 1 - 0) % 10)).toNat = 48 + u / 10 ^ (k + 1 - 1 - 0) % 10 := by
    rw [UInt8.toNat_ofNat']
    omega
  omega

theorem itoa_nat (m : Nat) : Lib.itoa (m : Int) = Lib.decDigits m := by
  unfold Lib.itoa
  rw [if_neg (by omega), Int.toNat_natCast]

theorem atoi_of_dec {l : List UInt8} {m : Nat} (h : Lib.decNat l = some m) : Lib.atoi l = some (m : Int) := by
  obtain ⟨h0, h1⟩ := Lib.decNat_some h
  cases l with
  | nil => exact absurd rfl h0
  | cons b r =>
    have hb : ∃ d, Lib.digitVal b = some d := by
      rw [Lib.decFrom] at h1
      cases hv : Lib.digitVal b with
      | none => rw [hv] at h1; cases h1
      | some d => exact ⟨d, rfl⟩
    obtain ⟨d, hd⟩ := hb
    have hr : 48 ≤ b.toNat := by
      unfold Lib.digitVal at hd
      split at hd
      · omega
      · cases hd
    have n45 : (b == 45) = false := by
      rw [beq_eq_false_iff_ne]; intro e; subst e; simp at hr
    have n43 : (b == 43) = false := by
      rw [beq_eq_false_iff_ne]; intro e; subst e; simp at hr
    rw [Lib.atoi]
    simp only [n45, n43, Bool.false_eq_true, if_false, h, Option.map_some]

theorem readD_none {l : List UInt8} (h : Lib.atoi l = none) : readD l = -1 := by
  unfold readD
  split
  · rfl
  · cases hd : Lib.decNat l with
    | none => rfl
    | some m => rw [atoi_of_dec hd] at h; cases h

theorem readD_some {l : List UInt8} {n : Int} (h9 : l.length ≤ 9) (h : Lib.atoi l = some n) : readD l = if n < 0 then -1 else if Lib.itoa n = l then n else -1 := by
  unfold readD
  rw [if_neg (by omega)]
  cases hd : Lib.decNat l with
  | some m =>
    have := atoi_of_dec hd
    rw [h] at this
    cases this
    rw [if_neg (by omega)]
  | none =>
    by_cases hn : n < 0
    · rw [if_pos hn]
    · rw [if_neg hn, if_neg]
      intro he
      obtain ⟨m, rfl⟩ := Int.eq_ofNat_of_zero_le (show 0 ≤ n by omega)
      rw [itoa_nat] at he
      obtain ⟨b, r, hbr, hb1, hb2⟩ := decDigits_first m
      rw [hbr] at he
      subst he
      have n45 : (b == 45) = false := by
        rw [beq_eq_false_iff_ne]; intro e; subst e; simp at hb1
      have n43 : (b == 43) = false := by
        rw [beq_eq_false_iff_ne]; intro e; subst e; simp at hb1
      rw [Lib.atoi] at h
      simp only [n45, n43, Bool.false_eq_true, if_false, hd] at h
      cases h

theorem belowBytes (w : World) (t : ByteArray) : Below w.heap.size w (Lib.bytesWorld w 5 t) :=
  ⟨rfl, rfl, rfl, by rw [Lib.bytesWorld_size]; omega, fun k hk => Lib.bytesWorld_at_old _ _ _ k hk⟩

theorem atoi_bound {l : List UInt8} {n : Int} (h9 : l.length ≤ 9) (h : Lib.atoi l = some n) : -1000000000000000000 ≤ n ∧ n ≤ 1000000000000000000 := by
  have key : ∀ (r : List UInt8) (m : Nat), Lib.decNat r = some m → r.length ≤ 18 → m < 1000000000000000000 := fun r m hm hr => Lib.decFrom_lt18 (Lib.decNat_some hm).2 hr
  cases l with
  | nil => cases h
  | cons b r =>
    have hr : r.length ≤ 18 := by simp at h9; omega
    rw [Lib.atoi] at h
    split at h
    · cases hd : Lib.decNat r with
      | none => rw [hd] at h; cases h
      | some m => rw [hd] at h; cases h; have := key r m hd hr; dsimp only; omega
    · split at h
      · cases hd : Lib.decNat r with
        | none => rw [hd] at h; cases h
        | some m => rw [hd] at h; cases h; have := key r m hd hr; dsimp only; omega
      · cases hd : Lib.decNat (b :: r) with
        | none => rw [hd] at h; cases h
        | some m => rw [hd] at h; cases h; have := key (b :: r) m hd (by simp at h9 ⊢; omega); dsimp only; omega

set_option maxHeartbeats 1000000 in
theorem implReadDec (s : ByteArray) (w : World) (ht : Lib.TabIs Tryz.prog w "internal/strconv.uint64pow10" .u64 Lib.pow10Tab) (tp : TypeId) (p : Value) (hv : w.var? Tryz.prog "strconv.ErrSyntax" = some #[.iface tp p]) :
    Calls Tryz.prog 75 #[.string s] w fun e w' => e = .returned (.int .i64 (readD s.data.toList)) ∧ Below w.heap.size w w' := by
  have hll : s.data.toList.length = s.size := by simp
  have HT := Lib.hid ht
  have HV := Lib.hid hv
  clear ht hv
  by_cases h9 : s.size ≤ 9
  · cases ha : Lib.atoi s.data.toList with
    | none =>
      have HR := Lib.hid (readD_none ha)
      have HA := Lib.hid ha
      clear ha hll
      go_enter Tryz.func75, Tryz.ntmps75
      go_wp2_with (go_at_call 104; refine (Tryz.strconv_Atoi_err_var s (by omega) HA.out tp p w HV.out).mono ?_; rintro e w' ⟨N, rfl, hN, hcell, hb⟩)
      go_ret
      exact ⟨by rw [HR.out]; rfl, hb⟩
    | some n =>
      have HR := Lib.hid (readD_some (by omega) ha)
      obtain ⟨hb0, hb1⟩ := atoi_bound (by omega) ha
      have HA := Lib.hid ha
      clear ha hll
      by_cases hneg : n < 0
      · go_enter Tryz.func75, Tryz.ntmps75
        go_wp2_with (go_at_call 104; refine (Tryz.strconv_Atoi s n (by omega) HA.out w).mono ?_; rintro e w' ⟨rfl, t, rfl⟩)
        go_ret
        exact ⟨by rw [HR.out, if_pos hneg]; rfl, belowBytes _ _⟩
      · have HT' : ∀ t, Lib.TabIs Tryz.prog (Lib.bytesWorld w 5 t) "internal/strconv.uint64pow10" .u64 Lib.pow10Tab := fun t => Lib.bytesWorld_var _ _ _ HT.out
        have HTs := Lib.hid HT'
        clear HT'
        by_cases he : Lib.itoa n = s.data.toList
        · have ht : (!((dec n).toList == s.toList)) = false := by simp [Lib.toList_data, dec, he]
          have HE := Lib.hid he
          clear he
          go_enter Tryz.func75, Tryz.ntmps75
          go_wp2_with (first
            | (go_at_call 104; refine (Tryz.strconv_Atoi s n (by omega) HA.out w).mono ?_; rintro e w' ⟨rfl, t, rfl⟩)
            | (go_at_call 81; refine (implDecText n _ (by omega) (by omega) (HTs.out _)).mono ?_; rintro e w2 ⟨rfl, hb2⟩))
          go_ret
          exact ⟨by rw [HR.out, if_neg (by omega), if_pos HE.out]; rfl, (belowBytes _ _).trans (hb2.mono (belowBytes _ _).size)⟩
        · have ht : (!((dec n).toList == s.toList)) = true := by simp [Lib.toList_data, dec, he]
          have HE := Lib.hid he
          clear he
          go_enter Tryz.func75, Tryz.ntmps75
          go_wp2_with (first
            | (go_at_call 104; refine (Tryz.strconv_Atoi s n (by omega) HA.out w).mono ?_; rintro e w' ⟨rfl, t, rfl⟩)
            | (go_at_call 81; refine (implDecText n _ (by omega) (by omega) (HTs.out _)).mono ?_; rintro e w2 ⟨rfl, hb2⟩))
          go_ret
          exact ⟨by rw [HR.out, if_neg (by omega), if_neg HE.out]; rfl, (belowBytes _ _).trans (hb2.mono (belowBytes _ _).size)⟩
  · have HR : Hid (readD s.data.toList = -1) := by unfold Hid readD; rw [if_pos (by omega)]
    clear hll
    go_enter Tryz.func75, Tryz.ntmps75
    go_wp2_with fail
    go_ret
    exact ⟨by rw [HR.out]; rfl, Below.refl _ _⟩

end Go.Proofs.YtgnillmhpockkaaGreatDoor

namespace Go.Proofs.YtgnillmhpockkaaGreatDoor
open Go.RowKit

def inI (x lo hi : Int) : Bool := decide (lo ≤ x) && decide (x ≤ hi)

theorem specIn (x lo hi : Int) (w : World) : Calls Tryz.prog 38 #[.int .i64 x, .int .i64 lo, .int .i64 hi] w fun e w' => e = .returned (.bool (inI x lo hi)) ∧ w = w' := by
  by_cases h1 : lo ≤ x
  · have H : Hid (inI x lo hi = decide (x ≤ hi)) := by unfold Hid inI; simp [h1]
    go_enter Tryz.func38, Tryz.ntmps38
    go_wp2
    go_ret
    exact ⟨by rw [H.out]; rfl, rfl⟩
  · have H : Hid (inI x lo hi = false) := by unfold Hid inI; simp [h1]
    have ht : decide (lo ≤ x) = false := by simp; omega
    go_enter Tryz.func38, Tryz.ntmps38
    go_wp2
    go_ret
    exact ⟨by rw [H.out]; rfl, rfl⟩

theorem specInIs (x lo hi : Int) (w : World) (v : Bool) (h : inI x lo hi = v) : Calls Tryz.prog 38 #[.int .i64 x, .int .i64 lo, .int .i64 hi] w fun e w' => e = .returned (.bool v) ∧ w = w' := h ▸ specIn x lo hi w

theorem digit_eq (b : UInt8) : (Lib.digitVal b).isSome = digitB b := by
  unfold Lib.digitVal digitB
  split
  · rename_i h; simp [h.1, h.2]
  · rename_i h
    symm
    simp only [Option.isSome_none, Bool.and_eq_false_iff, decide_eq_false_iff_not]
    omega

theorem specDigitB (b : UInt8) (w : World) (v : Bool) (h : digitB b = v) : Calls Tryz.prog 34 #[.int .u8 (b.toNat : Int)] w fun e w' => e = .returned (.bool v) ∧ w = w' :=
  specDigitIs b w v ((digit_eq b).trans h)

theorem letter_eq (b : UInt8) : letterB b = (inI (b.toNat : Int) 65 90 || inI (b.toNat : Int) 97 122 || ((b.toNat : Int) == 95)) := by
  rw [Bool.eq_iff_iff]
  simp only [letterB, inI, Bool.or_eq_true, Bool.and_eq_true, decide_eq_true_eq, beq_iff_eq]
  omega

theorem specLetter (b : UInt8) (w : World) : Calls Tryz.prog 67 #[.int .u8 (b.toNat : Int)] w fun e w' => e = .returned (.bool (letterB b)) ∧ w = w' := by
  have hby := byte_le b
  have HL := Lib.hid (letter_eq b)
  cases h1 : inI (b.toNat : Int) 65 90 with
  | true =>
    have H : Hid (letterB b = true) := by unfold Hid; rw [HL.out, h1]; rfl
    have H1 := Lib.hid h1
    clear h1
    go_enter Tryz.func67, Tryz.ntmps67
    go_wp2_with (go_at_call 38; refine (specInIs _ 65 90 _ true H1.out).mono ?_; rintro e w' ⟨rfl, rfl⟩)
    go_ret
    exact ⟨by rw [H.out]; rfl, rfl⟩
  | false =>
    have H1 := Lib.hid h1
    cases h2 : inI (b.toNat : Int) 97 122 with
    | true =>
      have H : Hid (letterB b = true) := by unfold Hid; rw [HL.out, h1, h2]; rfl
      have H2 := Lib.hid h2
      clear h1 h2
      go_enter Tryz.func67, Tryz.ntmps67
      go_wp2_with fail
      refine (specInIs _ 65 90 _ false H1.out).mono ?_
      rintro e w' ⟨rfl, rfl⟩
      go_wp2_with fail
      refine (specInIs _ 97 122 _ true H2.out).mono ?_
      rintro e w' ⟨rfl, rfl⟩
      go_wp2_with fail
      go_ret
      exact ⟨by rw [H.out]; rfl, rfl⟩
    | false =>
      have H : Hid (letterB b = ((b.toNat : Int) == 95)) := by unfold Hid; rw [HL.out, h1, h2]; rfl
      have H2 := Lib.hid h2
      clear h1 h2
      go_enter Tryz.func67, Tryz.ntmps67
      go_wp2_with fail
      refine (specInIs _ 65 90 _ false H1.out).mono ?_
      rintro e w' ⟨rfl, rfl⟩
      go_wp2_with fail
      refine (specInIs _ 97 122 _ false H2.out).mono ?_
      rintro e w' ⟨rfl, rfl⟩
      go_wp2_with fail
      go_ret
      exact ⟨by rw [H.out]; rfl, rfl⟩

theorem specLetterIs (b : UInt8) (w : World) (v : Bool) (h : letterB b = v) : Calls Tryz.prog 67 #[.int .u8 (b.toNat : Int)] w fun e w' => e = .returned (.bool v) ∧ w = w' := h ▸ specLetter b w

theorem specMore (b : UInt8) (w : World) (v : Bool) (hv : moreB b = v) : Calls Tryz.prog 37 #[.int .u8 (b.toNat : Int)] w fun e w' => e = .returned (.bool v) ∧ w = w' := by
  subst hv
  have hby := byte_le b
  cases h1 : letterB b with
  | true =>
    have H : Hid (moreB b = true) := by unfold Hid moreB; rw [h1]; rfl
    have H1 := Lib.hid h1
    clear h1
    go_enter Tryz.func37, Tryz.ntmps37
    go_wp2_with (go_at_call 67; refine (specLetterIs b _ true H1.out).mono ?_; rintro e w' ⟨rfl, rfl⟩)
    go_ret
    exact ⟨by rw [H.out]; rfl, rfl⟩
  | false =>
    have H : Hid (moreB b = digitB b) := by unfold Hid moreB; rw [h1]; rfl
    have H1 := Lib.hid h1
    clear h1
    go_enter Tryz.func37, Tryz.ntmps37
    go_wp2_with (first
      | (go_at_call 67; refine (specLetterIs b _ false H1.out).mono ?_; rintro e w' ⟨rfl, rfl⟩)
      | (go_at_call 34; refine (specDigitB b _ _ rfl).mono ?_; rintro e w' ⟨rfl, rfl⟩))
    go_ret
    exact ⟨by rw [H.out]; rfl, rfl⟩

end Go.Proofs.YtgnillmhpockkaaGreatDoor

namespace Go.Proofs.YtgnillmhpockkaaGreatDoor
open Go.RowKit

theorem drop_at (s : ByteArray) (k : Nat) (h : k < s.size) : s.data.toList.drop k = s[k] :: s.data.toList.drop (k + 1) := by
  rw [List.drop_eq_getElem_cons (by simpa using h)]; rfl

theorem gap_blank_at (s : ByteArray) (k : Nat) (h : k < s.size) (hb : blankB s[k] = true) : gap false (s.data.toList.drop k) = 1 + gap false (s.data.toList.drop (k + 1)) := by
  rw [drop_at s k h, gap, if_pos hb]

theorem gap_note_at (s : ByteArray) (k : Nat) (h : k < s.size) (hb : s[k].toNat = 45) (h1 : k + 1 < s.size) (hc : s[k + 1].toNat = 45) : gap false (s.data.toList.drop k) = gap true (s.data.toList.drop k) := by
  have hn : blankB s[k] = false := by simp [blankB, hb]
  have hh : (List.head? (s.data.toList.drop (k + 1))).map (·.toNat) = some 45 := by rw [drop_at s (k + 1) h1]; simp [hc]
  have e1 : gap false (s[k] :: s.data.toList.drop (k + 1)) = 1 + gap true (s.data.toList.drop (k + 1)) := by
    rw [gap, if_neg (by simp [hn]), if_pos (by rw [hh, hb]; rfl)]
  have e2 : gap true (s[k] :: s.data.toList.drop (k + 1)) = 1 + gap true (s.data.toList.drop (k + 1)) := by
    have : (s[k].toNat != 10) = true := by simp [hb]
    rw [gap, this]
  rw [drop_at s k h, e1, e2]

theorem gap_stop_at (s : ByteArray) (k : Nat) (h : k < s.size) (hb : blankB s[k] = false) (hs : s[k].toNat ≠ 45 ∨ s.size = k + 1 ∨ ∃ h1 : k + 1 < s.size, s[k + 1].toNat ≠ 45) : gap false (s.data.toList.drop k) = 0 := by
  rw [drop_at s k h, gap, if_neg (by simp [hb])]
  rw [if_neg]
  intro hc
  simp only [Bool.and_eq_true, beq_iff_eq] at hc
  rcases hs with h1 | h1 | ⟨h1, h2⟩
  · exact h1 hc.1
  · have : s.data.toList.drop (k + 1) = [] := List.drop_eq_nil_iff.2 (by simp; omega)
    rw [this] at hc
    simp at hc
  · rw [drop_at s (k + 1) h1] at hc
    simp at hc
    exact h2 hc.2

theorem gap_in_at (s : ByteArray) (k : Nat) (h : k < s.size) (hb : s[k].toNat ≠ 10) : gap true (s.data.toList.drop k) = 1 + gap true (s.data.toList.drop (k + 1)) := by
  rw [drop_at s k h, gap]
  have : (s[k].toNat != 10) = true := by simpa using hb
  rw [this]

theorem gap_out_at (s : ByteArray) (k : Nat) (h : k < s.size) (hb : s[k].toNat = 10) : gap true (s.data.toList.drop k) = gap false (s.data.toList.drop k) := by
  have e1 : gap false (s[k] :: s.data.toList.drop (k + 1)) = 1 + gap false (s.data.toList.drop (k + 1)) := by
    rw [gap, if_pos (by simp [blankB, hb])]
  have e2 : gap true (s[k] :: s.data.toList.drop (k + 1)) = 1 + gap false (s.data.toList.drop (k + 1)) := by
    have : (s[k].toNat != 10) = false := by simp [hb]
    rw [gap, this]
  rw [drop_at s k h, e1, e2]

theorem gap_end_at (s : ByteArray) (c : Bool) : gap c (s.data.toList.drop s.size) = 0 := by
  rw [List.drop_of_length_le (by simp)]
  cases c <;> rfl

theorem blankCases (b : UInt8) :
    (((b.toNat : Int) == 32) = true ∧ blankB b = true) ∨ (((b.toNat : Int) == 32) = false ∧ ((b.toNat : Int) == 9) = true ∧ blankB b = true) ∨
    (((b.toNat : Int) == 32) = false ∧ ((b.toNat : Int) == 9) = false ∧ ((b.toNat : Int) == 10) = true ∧ blankB b = true) ∨
    (((b.toNat : Int) == 32) = false ∧ ((b.toNat : Int) == 9) = false ∧ ((b.toNat : Int) == 10) = false ∧ ((b.toNat : Int) == 13) = true ∧ blankB b = true) ∨
    (((b.toNat : Int) == 32) = false ∧ ((b.toNat : Int) == 9) = false ∧ ((b.toNat : Int) == 10) = false ∧ ((b.toNat : Int) == 13) = false ∧ blankB b = false) := by
  have e : ∀ n : Nat, ((b.toNat : Int) == (n : Int)) = (b.toNat == n) := fun n => by
    rw [Bool.eq_iff_iff]; simp only [beq_iff_eq]; omega
  have e32 := e 32
  have e9 := e 9
  have e10 := e 10
  have e13 := e 13
  simp only [Int.cast_ofNat_Int] at e32 e9 e10 e13
  rw [e32, e9, e10, e13]
  unfold blankB
  cases b.toNat == 32 <;> cases b.toNat == 9 <;> cases b.toNat == 10 <;> cases b.toNat == 13 <;> simp

theorem bneF {b : UInt8} {n : Int} (h : (b.toNat : Int) = n) : (((b.toNat : Int)) != n) = false := by simp [h]
theorem bneT {b : UInt8} {n : Int} (h : (b.toNat : Int) ≠ n) : (((b.toNat : Int)) != n) = true := by rw [bne_iff_ne]; exact h
theorem beqF {b : UInt8} {n : Int} (h : (b.toNat : Int) ≠ n) : (((b.toNat : Int)) == n) = false := by rw [beq_eq_false_iff_ne]; exact h
theorem beqT {b : UInt8} {n : Int} (h : (b.toNat : Int) = n) : (((b.toNat : Int)) == n) = true := by simp [h]

theorem step_gap {a n b c : Nat} (h : a = n + b) (h1 : b = 1 + c) : Hid (a = (n + 1) + c) := by unfold Hid; omega

set_option maxHeartbeats 2000000 in
theorem specGap (s : ByteArray) (i : Nat) (w : World) (hi : i ≤ s.size) (hs : s.size ≤ 1048576) :
    Calls Tryz.prog 89 #[.string s, .int .i64 (i : Int)] w fun e w' => e = .returned (.int .i64 (gap false (s.data.toList.drop i) : Nat)) ∧ w = w' := by
  go_enter Tryz.func89, Tryz.ntmps89
  go_wp2_with fail
  go_loop [5] (fun v => ∃ n : Nat, v = .int .i64 n ∧ i + n ≤ s.size ∧ Hid (gap false (s.data.toList.drop i) = n + gap false (s.data.toList.drop (i + n)))) (fun v => s.size - (intOf v).toNat)
  case atStart => exact ⟨0, rfl, by omega, by unfold Hid; simp⟩
  case round =>
    obtain ⟨n, rfl, hn, hg⟩ := hrel
    by_cases hlt : i + n < s.size
    · have hby := byte_le s[i + n]
      rcases blankCases s[i + n] with ⟨t0, hb⟩ | ⟨t0, t1, hb⟩ | ⟨t0, t1, t2, hb⟩ | ⟨t0, t1, t2, t3, hb⟩ | ⟨t0, t1, t2, t3, hb⟩
      · have HG := Lib.hid (gap_blank_at s (i + n) hlt hb)
        clear hb
        go_wp2_with fail
        exact ⟨⟨n + 1, by go_num, by omega, step_gap hg.out HG.out⟩, by simp [intOf]; omega⟩
      · have HG := Lib.hid (gap_blank_at s (i + n) hlt hb)
        clear hb
        go_wp2_with fail
        exact ⟨⟨n + 1, by go_num, by omega, step_gap hg.out HG.out⟩, by simp [intOf]; omega⟩
      · have HG := Lib.hid (gap_blank_at s (i + n) hlt hb)
        clear hb
        go_wp2_with fail
        exact ⟨⟨n + 1, by go_num, by omega, step_gap hg.out HG.out⟩, by simp [intOf]; omega⟩
      · have HG := Lib.hid (gap_blank_at s (i + n) hlt hb)
        clear hb
        go_wp2_with fail
        exact ⟨⟨n + 1, by go_num, by omega, step_gap hg.out HG.out⟩, by simp [intOf]; omega⟩
      · by_cases h45 : s[i + n].toNat = 45
        · by_cases h1 : i + n + 1 < s.size
          · have hby1 := byte_le s[i + n + 1]
            by_cases h46 : s[i + n + 1].toNat = 45
            · have HN := Lib.hid (gap_note_at s (i + n) hlt h45 h1 h46)
              have T1 := bneF (b := s[i + n]) (n := 45) (by omega)
              have T2 := bneF (b := s[i + n + 1]) (n := 45) (by omega)
              have T3 : (((i : Int) + (n : Int) + 1) == (s.size : Int)) = false := by rw [beq_eq_false_iff_ne]; omega
              have h10 : s[i + n].toNat ≠ 10 := by omega
              have H10 := Lib.hid h10
              clear hb h45 h46 h10
              go_wp2_with fail
              go_loop [5] (fun v => ∃ m : Nat, v = .int .i64 m ∧ n ≤ m ∧ i + m ≤ s.size ∧ Hid (gap false (s.data.toList.drop i) = m + gap true (s.data.toList.drop (i + m)))) (fun v => s.size - (intOf v).toNat)
              case atStart => exact ⟨n, rfl, Nat.le_refl _, by omega, by unfold Hid; rw [hg.out, HN.out]⟩
              case round =>
                obtain ⟨m, rfl, hnm, hm, hgm⟩ := hrel
                by_cases hltm : i + m < s.size
                · have hbym := byte_le s[i + m]
                  by_cases hten : s[i + m].toNat = 10
                  · have HO := Lib.hid (gap_out_at s (i + m) hltm hten)
                    have T4 := bneF (b := s[i + m]) (n := 10) (by omega)
                    have hnm' : n < m := by
                      rcases Nat.lt_or_ge n m with h | h
                      · exact h
                      · have : m = n := by omega
                        subst this
                        exact absurd hten H10.out
                    clear hten
                    go_wp2_with fail
                    exact ⟨⟨m, rfl, by omega, by unfold Hid; rw [hgm.out, HO.out]⟩, by simp [intOf]; omega⟩
                  · have HI := Lib.hid (gap_in_at s (i + m) hltm hten)
                    have T4 := bneT (b := s[i + m]) (n := 10) (by omega)
                    clear hten
                    go_wp2_with fail
                    exact ⟨⟨m + 1, by go_num, by omega, by omega, step_gap hgm.out HI.out⟩, by simp [intOf]; omega⟩
                · have hme : i + m = s.size := by omega
                  have HE : Hid (gap true (s.data.toList.drop (i + m)) = gap false (s.data.toList.drop (i + m))) := by unfold Hid; rw [hme, gap_end_at, gap_end_at]
                  clear hme
                  go_wp2_with fail
                  exact ⟨⟨m, rfl, by omega, by unfold Hid; rw [hgm.out, HE.out]⟩, by simp [intOf]; omega⟩
            · have HS := Lib.hid (gap_stop_at s (i + n) hlt hb (.inr (.inr ⟨h1, h46⟩)))
              have T1 := bneF (b := s[i + n]) (n := 45) (by omega)
              have T2 := bneT (b := s[i + n + 1]) (n := 45) (by omega)
              have T3 : (((i : Int) + (n : Int) + 1) == (s.size : Int)) = false := by rw [beq_eq_false_iff_ne]; omega
              clear hb h45 h46
              go_wp2_with fail
              go_ret
              exact ⟨by rw [hg.out, HS.out]; rfl, rfl⟩
          · have HS := Lib.hid (gap_stop_at s (i + n) hlt hb (.inr (.inl (by omega))))
            have T1 := bneF (b := s[i + n]) (n := 45) (by omega)
            have T3 : (((i : Int) + (n : Int) + 1) == (s.size : Int)) = true := by rw [beq_iff_eq]; omega
            clear hb h45
            go_wp2_with fail
            go_ret
            exact ⟨by rw [hg.out, HS.out]; rfl, rfl⟩
        · have HS := Lib.hid (gap_stop_at s (i + n) hlt hb (.inl h45))
          have T1 := bneT (b := s[i + n]) (n := 45) (by omega)
          clear hb h45
          go_wp2_with fail
          go_ret
          exact ⟨by rw [hg.out, HS.out]; rfl, rfl⟩
    · have hne : i + n = s.size := by omega
      have HE : Hid (gap false (s.data.toList.drop (i + n)) = 0) := by unfold Hid; rw [hne]; exact gap_end_at s false
      clear hne
      go_wp2_with fail
      go_ret
      exact ⟨by rw [hg.out, HE.out]; rfl, rfl⟩

end Go.Proofs.YtgnillmhpockkaaGreatDoor

namespace Go.Proofs.YtgnillmhpockkaaGreatDoor
open Go.RowKit

/-- Block R holds the bytes l ahead of what is frozen. -/
def RowB (w : World) (R : Nat) (l : List UInt8) : Prop :=
  ∃ cs fz, w.heap[R]? = some (.cells cs 5 fz) ∧ l.length ≤ fz.1 ∧ ∀ (j : Nat) (h : j < l.length), cs[j]? = some (.int .u8 (l[j].toNat : Int))

theorem RowB.lt {w : World} {R : Nat} {l : List UInt8} (h : RowB w R l) : R < w.heap.size := by
  obtain ⟨cs, fz, hg, _⟩ := h
  rcases Nat.lt_or_ge R w.heap.size with hlt | hge
  · exact hlt
  · rw [Array.getElem?_eq_none hge] at hg; cases hg

theorem RowB.cell {w : World} {R : Nat} {l : List UInt8} (h : RowB w R l) {j : Nat} (hj : j < l.length) : w.cell? ⟨R, j, none⟩ = some (.int .u8 (l[j].toNat : Int)) := by
  obtain ⟨cs, fz, hg, _, hc⟩ := h
  rw [cell_of_row _ _ _ _ _ _ hg]
  exact hc j hj

theorem RowB.frozen {w : World} {R : Nat} {l : List UInt8} (h : RowB w R l) {j : Nat} (hj : j < l.length) : w.frozen? ⟨R, j, none⟩ = false := by
  obtain ⟨cs, fz, hg, hf, _⟩ := h
  simp [World.frozen?, hg]
  omega

theorem RowB.set {w : World} {R : Nat} {l : List UInt8} (h : RowB w R l) {j : Nat} (hj : j < l.length) (y : UInt8) : RowB (w.setCell ⟨R, j, none⟩ (.int .u8 (y.toNat : Int))) R (l.set j y) := by
  obtain ⟨cs, fz, hg, hf, hc⟩ := h
  have hjc : j < cs.size := by
    have := hc j hj
    rcases Nat.lt_or_ge j cs.size with hlt | hge
    · exact hlt
    · rw [Array.getElem?_eq_none hge] at this; cases this
  refine ⟨cs.setIfInBounds j (.int .u8 (y.toNat : Int)), fz, ?_, by simpa using hf, fun i hi => ?_⟩
  · simp [World.setCell, Array.getElem?_modify, hg]
  · simp at hi
    by_cases e : i = j
    · subst e
      rw [Array.getElem?_setIfInBounds_self, if_pos hjc]
      simp
    · rw [Array.getElem?_setIfInBounds_ne (by omega), hc i hi, List.getElem_set_ne (by omega)]

theorem RowB.below {w w' : World} {R : Nat} {l : List UInt8} (h : RowB w R l) (hb : Below w.heap.size w w') : RowB w' R l := by
  have hlt := h.lt
  obtain ⟨cs, fz, hg, r⟩ := h
  exact ⟨cs, fz, (hb.block R hlt).trans hg, r⟩

theorem convRow {W : World} {R : Nat} {l : List UInt8} {c : Nat} (h : RowB W R l) :
    (convert 22 9 (.slice (some ⟨R, 0, none⟩) l.length c)).run Tryz.prog W = .ok (.string ⟨l.toArray⟩) W := by
  rw [run_convert_bytes_string W _ _ _ _ _ _ Tryz.underlying22 Tryz.underlying5 Tryz.underlying9]
  rw [run_bytesToString W ⟨R, 0, none⟩ l.length c (l.map fun b => (b.toNat : Int))]
  · rw [foldl_push]; rfl
  · have hl : l.length = (bcells l).length := by simp [bcells]
    rw [hl, run_loadCells_list (P := Tryz.prog) W ⟨R, 0, none⟩ (bcells l) ?_]
    · simp [bcells]
    · intro j u hu
      have hj : j < l.length := by
        rcases Nat.lt_or_ge j l.length with h1 | h1
        · exact h1
        · rw [List.getElem?_eq_none (by simpa [bcells] using h1)] at hu; cases hu
      have hadd : (⟨R, 0, none⟩ : Addr).add j = ⟨R, j, none⟩ := by unfold Addr.add; by_cases h0 : j = 0 <;> simp [h0]
      rw [hadd, h.cell hj]
      unfold bcells at hu
      rw [List.getElem?_map, List.getElem?_eq_getElem hj] at hu
      exact hu

theorem convTextRow (w : World) (s : ByteArray) : ∃ W cap, (convert 9 22 (.string s)).run Tryz.prog w = .ok (.slice (some ⟨w.heap.size, 0, none⟩) s.size cap) W ∧ Below w.heap.size w W ∧ RowB W w.heap.size s.data.toList ∧ s.size ≤ cap := by
  refine ⟨_, _, convText w s, belowBytesW w s, ⟨_, _, Lib.bytesWorld_at_new w 5 s, ?_, fun j hj => ?_⟩, grownCap_ge _ _ _ _⟩
  · simp [Lib.bytesCells]
  · have hj' : j < s.size := by simpa using hj
    have h2 := Lib.bytesWorld_cell w 5 s j hj'
    rw [cell_of_row _ _ _ _ _ _ (Lib.bytesWorld_at_new w 5 s)] at h2
    rw [h2, List.getD_eq_getElem?_getD, List.getElem?_eq_getElem hj]
    rfl

def lowL (l : List UInt8) (k : Nat) : List UInt8 := (l.take k).map lowB ++ l.drop k

theorem lowL_len (l : List UInt8) (k : Nat) : (lowL l k).length = l.length := by
  unfold lowL
  rw [List.length_append, List.length_map, List.length_take, List.length_drop]
  omega

theorem lowL_at (l : List UInt8) (k : Nat) (h : k < l.length) : (lowL l k)[k]'(by rw [lowL_len]; exact h) = l[k] := by
  unfold lowL
  have hl : ((l.take k).map lowB).length = k := by simp; omega
  rw [List.getElem_append_right (by omega), List.getElem_drop]
  congr 1
  omega

theorem lowL_set (l : List UInt8) (k : Nat) (h : k < l.length) : (lowL l k).set k (lowB l[k]) = lowL l (k + 1) := by
  unfold lowL
  have hl : ((l.take k).map lowB).length = k := by simp; omega
  rw [List.set_append_right _ _ (by omega), hl, Nat.sub_self, List.drop_eq_getElem_cons h, List.set_cons_zero, List.take_succ_eq_append_getElem h, List.map_append, List.append_assoc]
  rfl

theorem lowL_skip (l : List UInt8) (k : Nat) (h : k < l.length) (hb : lowB l[k] = l[k]) : lowL l k = lowL l (k + 1) := by
  unfold lowL
  rw [List.drop_eq_getElem_cons h, List.take_succ_eq_append_getElem h, List.map_append, List.append_assoc, List.map_cons, hb]
  rfl

theorem lowL_all (l : List UInt8) : lowL l l.length = l.map lowB := by simp [lowL]

theorem low_in {b : UInt8} (h : inI (b.toNat : Int) 65 90 = true) : ((lowB b).toNat : Int) = (b.toNat : Int) + 32 ∧ (b.toNat : Int) ≤ 90 := by
  simp only [inI, Bool.and_eq_true, decide_eq_true_eq] at h
  unfold lowB
  rw [if_pos (by simp; omega), UInt8.toNat_add]
  have : (32 : UInt8).toNat = 32 := rfl
  omega

theorem low_out {b : UInt8} (h : inI (b.toNat : Int) 65 90 = false) : lowB b = b := by
  simp only [inI, Bool.and_eq_false_iff, decide_eq_false_iff_not] at h
  unfold lowB
  rw [if_neg (by simp; omega)]

set_option maxHeartbeats 1000000 in
theorem specLower (s : ByteArray) (w : World) (hs : s.size ≤ 1048576) :
    Calls Tryz.prog 110 #[.string s] w fun e w' => e = .returned (.string ⟨(s.data.toList.map lowB).toArray⟩) ∧ Below w.heap.size w w' := by
  obtain ⟨W, cap, hcv, hbW, hrow, hcap⟩ := convTextRow w s
  have hll : s.data.toList.length = s.size := by simp
  have H0 : Hid (lowL s.data.toList 0 = s.data.toList) := by unfold Hid; simp [lowL]
  have HROW := Lib.hid hrow
  have HLL := Lib.hid hll
  clear hrow hll
  generalize hR : w.heap.size = R at *
  have HR := Lib.hid hR
  clear hR
  go_enter Tryz.func110, Tryz.ntmps110
  go_wp2_with fail
  go_loopw [4] (fun i wr => ∃ (k : Nat) (l : List UInt8), k ≤ s.size ∧ i = .int .i64 k ∧ Hid (l = lowL s.data.toList k) ∧ RowB wr R l ∧ Below R w wr) (fun i _ => s.size - (intOf i).toNat)
  case atStart => exact ⟨0, _, Nat.zero_le _, rfl, rfl, by rw [H0.out]; exact HROW.out, hbW⟩
  case round =>
    obtain ⟨k, l, hk, rfl, hl, hrow, hb⟩ := hrel
    have hlen : l.length = s.size := by rw [hl.out, lowL_len]; exact HLL.out
    by_cases hlt : k < s.size
    · have hkl : k < l.length := by omega
      have hkL : k < s.data.toList.length := by rw [HLL.out]; exact hlt
      have hval : l[k] = s.data.toList[k] := by
        have := lowL_at s.data.toList k hkL
        rw [← this]
        simp only [hl.out]
      have hc := hrow.cell hkl
      have hf := hrow.frozen hkl
      have hby := byte_le l[k]
      have HV := Lib.hid hval
      have HLEN := Lib.hid hlen
      have HROW2 := Lib.hid hrow
      cases h1 : inI (l[k].toNat : Int) 65 90 with
      | true =>
        obtain ⟨e1, e2⟩ := low_in h1
        have H1 := Lib.hid h1
        have HE := Lib.hid e1
        have R1 := hrow.set hkl (lowB l[k])
        rw [e1] at R1
        have HR1 := Lib.hid R1
        clear h1 e1 R1 hval hlen hrow
        go_wp2_with fail
        refine (specInIs _ 65 90 _ true H1.out).mono ?_
        rintro e w' ⟨rfl, rfl⟩
        go_wp2_with fail
        go_roundw
        case rel => exact ⟨k + 1, l.set k (lowB l[k]), by omega, by go_num, by unfold Hid; rw [HV.out, hl.out, lowL_set _ _ hkL], HR1.out, hb.setCell (p := ⟨R, k, none⟩) (Nat.le_refl _) _⟩
        case measure => simp [intOf]; omega
      | false =>
        have H1 := Lib.hid h1
        have HE := Lib.hid (low_out h1)
        clear h1 hval hlen hrow
        go_wp2_with fail
        refine (specInIs _ 65 90 _ false H1.out).mono ?_
        rintro e w' ⟨rfl, rfl⟩
        go_wp2_with fail
        go_roundw
        case rel => exact ⟨k + 1, l, by omega, by go_num, by unfold Hid; rw [hl.out]; exact lowL_skip _ _ hkL (by rw [← HV.out]; exact HE.out), HROW2.out, hb⟩
        case measure => simp [intOf]; omega
    · obtain rfl : k = s.size := by omega
      have hcv2 := convRow (c := cap) hrow
      rw [hlen] at hcv2
      have HLEN := Lib.hid hlen
      clear hlen
      go_wp2_with fail
      go_ret
      exact ⟨by rw [hl.out, ← HLL.out, lowL_all]; rfl, hb⟩

end Go.Proofs.YtgnillmhpockkaaGreatDoor

namespace Go.Proofs.YtgnillmhpockkaaGreatDoor
open Go.RowKit

/-- The array holds f. -/
def Cls (cs : Array Value) (f : Nat → Int) : Prop := cs.size = 256 ∧ ∀ i, i < 256 → cs[i]? = some (.int .i64 (f i))

def setm (f : Nat → Int) (l : List UInt8) (av : Int) (i : Nat) : Int := if i ∈ l.map (·.toNat) then av else f i

theorem Cls.set {cs : Array Value} {f : Nat → Int} (h : Cls cs f) {l : List UInt8} {b : UInt8} {av : Int} {g : Nat → Int} (hf : f = setm g l av) : Cls (cs.setIfInBounds b.toNat (.int .i64 av)) (setm g (l ++ [b]) av) := by
  obtain ⟨h1, h2⟩ := h
  refine ⟨by simpa using h1, fun i hi => ?_⟩
  have hb := UInt8.toNat_lt b
  by_cases e : i = b.toNat
  · subst e
    rw [Array.getElem?_setIfInBounds_self, if_pos (by omega)]
    simp [setm]
  · rw [Array.getElem?_setIfInBounds_ne (by omega), h2 i hi, hf]
    simp [setm, e]

theorem Cls.one {cs : Array Value} {f : Nat → Int} (h : Cls cs f) {j : Nat} (hj : j < 256) (av : Int) : Cls (cs.setIfInBounds j (.int .i64 av)) (fun i => if i = j then av else f i) := by
  obtain ⟨h1, h2⟩ := h
  refine ⟨by simpa using h1, fun i hi => ?_⟩
  by_cases e : i = j
  · subst e
    rw [Array.getElem?_setIfInBounds_self, if_pos (by omega)]
    simp
  · rw [Array.getElem?_setIfInBounds_ne (by omega), h2 i hi]
    simp [e]

theorem Cls.cell {w : World} {g : Nat} {cs : Array Value} {f : Nat → Int} {t : TypeId} (h : Cls cs f) (hg : w.heap[g]? = some (.cells cs t (0, 0))) {i : Nat} (hi : i < 256) : w.cell? ⟨g, i, none⟩ = some (.int .i64 (f i)) := by
  rw [cell_of_row _ _ _ _ _ _ hg]; exact h.2 i hi

set_option maxHeartbeats 1000000 in
theorem implMark (g : Nat) (cs : Array Value) (f : Nat → Int) (s : ByteArray) (av : Int) (w : World) (hg : w.heap[g]? = some (.cells cs 57 (0, 0))) (hc : Cls cs f) (hs : s.size ≤ 256) :
    Calls Tryz.prog 69 #[.pointer (some ⟨g, 0, none⟩), .string s, .int .i64 av] w fun e w' => e = .returned (.tuple #[]) ∧ ∃ cs', w'.heap[g]? = some (.cells cs' 57 (0, 0)) ∧ Cls cs' (setm f s.data.toList av) ∧ w.grownBy w' (some g) := by
  have hlt : g < w.heap.size := by
    rcases Nat.lt_or_ge g w.heap.size with hlt | hge
    · exact hlt
    · rw [Array.getElem?_eq_none hge] at hg; cases hg
  obtain ⟨W, cap, hcv, hbW, hrow, hcap⟩ := convTextRow w s
  have hgW : W.heap[g]? = some (.cells cs 57 (0, 0)) := (hbW.block g hlt).trans hg
  have hll : s.data.toList.length = s.size := by simp
  have HG := Lib.hid hgW
  have HC := Lib.hid hc
  have HROW := Lib.hid hrow
  have HLL := Lib.hid hll
  have hgr : w.grownBy W (some g) := ⟨hbW.os, hbW.tape, hbW.output, hbW.size, fun k hk _ => hbW.block k hk⟩
  have hltR := hrow.lt
  generalize hR : w.heap.size = R at *
  have HR := Lib.hid hR
  clear hg hc hgW hrow hll hbW hR
  go_enter Tryz.func69, Tryz.ntmps69
  go_wp2_with fail
  go_loopw [11] (fun i wr => ∃ (k : Nat) (c : Array Value), k ≤ s.size ∧ i = .int .i64 k ∧ Hid (wr.heap[g]? = some (.cells c 57 (0, 0))) ∧ Cls c (setm f (s.data.toList.take k) av) ∧ RowB wr R s.data.toList ∧ w.grownBy wr (some g)) (fun i _ => s.size - (intOf i).toNat)
  case atStart => exact ⟨0, cs, Nat.zero_le _, rfl, HG, by have e : setm f [] av = f := (by funext i; simp [setm]); rw [List.take_zero, e]; exact HC.out, HROW.out, hgr⟩
  case round =>
    obtain ⟨k, c, hk, rfl, hgk, hck, hrow, hgrk⟩ := hrel
    by_cases hlt1 : k < s.size
    · have hkL : k < s.data.toList.length := by rw [HLL.out]; exact hlt1
      have hcell := hrow.cell hkL
      have hb := byte_le s.data.toList[k]
      have hb' : s.data.toList[k].toNat < 256 := by omega
      have hcc := hck.cell hgk.out hb'
      have hff : ∀ j, wr.frozen? ⟨g, j, none⟩ = false := fun j => frozen_of_row _ _ _ _ _ hgk.out
      have hfj := hff s.data.toList[k].toNat
      have HNEW := Lib.hid (heap_setCell_same wr g s.data.toList[k].toNat _ _ (.int .i64 av) hgk.out)
      have HCS := Lib.hid (hck.set (b := s.data.toList[k]) rfl)
      have HT : Hid (s.data.toList.take (k + 1) = s.data.toList.take k ++ [s.data.toList[k]]) := List.take_succ_eq_append_getElem hkL
      have hrow2 : RowB (wr.setCell ⟨g, s.data.toList[k].toNat, none⟩ (.int .i64 av)) R s.data.toList := by
        obtain ⟨a, fz, h1, h2⟩ := hrow
        exact ⟨a, fz, (Below.heap_setCell _ _ _ _ (by show R ≠ g; omega)).trans h1, h2⟩
      have hgr2 : w.grownBy (wr.setCell ⟨g, s.data.toList[k].toNat, none⟩ (.int .i64 av)) (some g) := ⟨hgrk.os, hgrk.tape, hgrk.output, by simpa [World.setCell] using hgrk.size, fun i hi hne => (Below.heap_setCell _ _ _ _ (fun e => hne (by rw [e]))).trans (hgrk.block i hi hne)⟩
      have HROW2 := Lib.hid hrow2
      have HGR2 := Lib.hid hgr2
      clear hff hrow hck hrow2 hgr2 hgrk
      generalize s.data.toList[k] = b at *
      go_wp2_with fail
      go_roundw
      case rel => exact ⟨k + 1, _, by omega, by go_num, HNEW, by rw [HT.out]; exact HCS.out, HROW2.out, HGR2.out⟩
      case measure => simp [intOf]; omega
    · obtain rfl : k = s.size := by omega
      have HT : Hid (s.data.toList.take s.size = s.data.toList) := List.take_of_length_le (by rw [HLL.out]; exact Nat.le_refl _)
      rw [HT.out] at hck
      go_wp2_with fail
      go_end0
      exact ⟨rfl, c, hgk.out, hck, hgrk⟩

theorem zero256 : Tryz.zeroCells57 = Array.replicate 256 (.int .i64 0) := by kernel_rfl
theorem clsZero : Cls Tryz.zeroCells57 (fun _ => 0) := by
  rw [zero256]
  exact ⟨by simp, fun i hi => by simp [hi]⟩

def blankT4 : ByteArray := ⟨#[32, 9, 10, 13]⟩
def letterT : ByteArray := ⟨#[65, 66, 67, 68, 69, 70, 71, 72, 73, 74, 75, 76, 77, 78, 79, 80, 81, 82, 83, 84, 85, 86, 87, 88, 89, 90, 97, 98, 99, 100, 101, 102, 103, 104, 105, 106, 107, 108, 109, 110, 111, 112, 113, 114, 115, 116, 117, 118, 119, 120, 121, 122, 95]⟩
def digitT : ByteArray := ⟨#[48, 49, 50, 51, 52, 53, 54, 55, 56, 57]⟩
def signT : ByteArray := ⟨#[40, 41, 44, 59, 61, 60, 62, 43, 45, 42, 46]⟩

/-- The class of a byte, as the array is filled. -/
def classA (i : Nat) : Int :=
  (fun i => if i = 39 then 5 else (fun i => if i = 34 then 4 else setm (setm (setm (setm (fun _ => 0) blankT4.data.toList 1) letterT.data.toList 2) digitT.data.toList 3) signT.data.toList 6 i) i) i

/-- The class of a byte. -/
def clB (b : UInt8) : Int := if blankB b then 1 else if letterB b then 2 else if digitB b then 3 else if b.toNat = 34 then 4 else if b.toNat = 39 then 5 else if signB b then 6 else 0

theorem class_all : ((List.range 256).all fun n => classA n == clB (UInt8.ofNat n)) = true := by kernel_rfl

theorem class_eq (b : UInt8) : classA b.toNat = clB b := by
  have h := List.all_eq_true.1 class_all b.toNat (List.mem_range.2 (UInt8.toNat_lt b))
  rw [beq_iff_eq] at h
  rw [h]
  simp

theorem belowCells {B : Nat} {a w : World} (h : Below B a w) {b : Nat} (hb : B ≤ b) : ∀ (o : Nat) (vs : List Value), Below B a (w.setCells b o vs)
  | _, [] => h
  | o, v :: r => by
    rw [World.setCells]
    exact belowCells (h.setCell (p := ⟨b, o, none⟩) hb v) hb (o + 1) r

theorem heap_lt {w : World} {g : Nat} {o : Obj} (h : w.heap[g]? = some o) : g < w.heap.size := by
  rcases Nat.lt_or_ge g w.heap.size with hlt | hge
  · exact hlt
  · rw [Array.getElem?_eq_none hge] at h; cases h

set_option maxHeartbeats 2000000 in
set_option maxRecDepth 100000 in
theorem implClasses (w : World) : Calls Tryz.prog 42 #[] w fun e w' => ∃ cs, e = .returned (.agg cs) ∧ Cls cs classA ∧ Below w.heap.size w w' := by
  have b0 : Below w.heap.size w ((w.alloc (.cells Tryz.zeroCells57 57)).alloc (.cells Tryz.zeroCells57 57)) := ((Below.refl _ _).alloc (Nat.le_refl _) _).alloc (by simp) _
  have g0 : ((w.alloc (.cells Tryz.zeroCells57 57)).alloc (.cells Tryz.zeroCells57 57)).heap[w.heap.size + 1]? = some (.cells Tryz.zeroCells57 57 (0, 0)) := by
    have := heap_alloc_new (w.alloc (.cells Tryz.zeroCells57 57)) (.cells Tryz.zeroCells57 57)
    simpa using this
  have r0 : ((w.alloc (.cells Tryz.zeroCells57 57)).alloc (.cells Tryz.zeroCells57 57)).heap[w.heap.size]? = some (.cells Tryz.zeroCells57 57 (0, 0)) := by
    rw [Below.heap_alloc _ _ _ (by simp)]; exact heap_alloc_new _ _
  go_enter Tryz.func42, Tryz.ntmps42
  go_wp2_with fail
  refine (implMark (w.heap.size + 1) _ _ blankT4 1 _ g0 clsZero (by decide)).mono ?_
  rintro e w1 ⟨rfl, c1, g1, k1, G1⟩
  have b1 : Below w.heap.size w w1 := b0.grown G1 (by simp; omega) (fun k hk => by cases hk; omega)
  have r1 := (G1.block w.heap.size (by simp; omega) (fun e => by simp at e)).trans r0
  clear g0 r0 b0 G1
  have HG := Lib.hid g1
  have HR := Lib.hid r1
  clear g1 r1
  go_wp2_with fail
  refine (implMark (w.heap.size + 1) _ _ letterT 2 _ HG.out k1 (by decide)).mono ?_
  rintro e w2 ⟨rfl, c2, g2, k2, G2⟩
  have b2 : Below w.heap.size w w2 := b1.grown G2 b1.size (fun k hk => by cases hk; omega)
  have HR2 := Lib.hid ((G2.block w.heap.size (heap_lt HR.out) (fun e => by simp at e)).trans HR.out)
  have HG2 := Lib.hid g2
  clear g2 HG HR G2 b1 k1
  go_wp2_with fail
  refine (implMark (w.heap.size + 1) _ _ digitT 3 _ HG2.out k2 (by decide)).mono ?_
  rintro e w3 ⟨rfl, c3, g3, k3, G3⟩
  have b3 : Below w.heap.size w w3 := b2.grown G3 b2.size (fun k hk => by cases hk; omega)
  have HR3 := Lib.hid ((G3.block w.heap.size (heap_lt HR2.out) (fun e => by simp at e)).trans HR2.out)
  have HG3 := Lib.hid g3
  clear g3 HG2 HR2 G3 b2 k2
  go_wp2_with fail
  refine (implMark (w.heap.size + 1) _ _ signT 6 _ HG3.out k3 (by decide)).mono ?_
  rintro e w4 ⟨rfl, c4, g4, k4, G4⟩
  have b4 : Below w.heap.size w w4 := b3.grown G4 b3.size (fun k hk => by cases hk; omega)
  have HR4 := Lib.hid ((G4.block w.heap.size (heap_lt HR3.out) (fun e => by simp at e)).trans HR3.out)
  have HG4 := Lib.hid g4
  have x34 := k4.cell g4 (i := 34) (by omega)
  have x39 := k4.cell g4 (i := 39) (by omega)
  have ff : ∀ j, w4.frozen? ⟨w.heap.size + 1, j, none⟩ = false := fun j => frozen_of_row _ _ _ _ _ g4
  have f34 := ff 34
  have f39 := ff 39
  clear g4 HG3 HR3 G4 b3 k3 ff
  go_upto_region 8 with (fail)
  have g5 : ((w4.setCell ⟨w.heap.size + 1, 34, none⟩ (.int .i64 4)).setCell ⟨w.heap.size + 1, 39, none⟩ (.int .i64 5)).heap[w.heap.size + 1]? = some (.cells ((c4.setIfInBounds 34 (.int .i64 4)).setIfInBounds 39 (.int .i64 5)) 57 (0, 0)) :=
    heap_setCell_same _ _ _ _ _ _ (heap_setCell_same _ _ _ _ _ _ HG4.out)
  have k5 : Cls ((c4.setIfInBounds 34 (.int .i64 4)).setIfInBounds 39 (.int .i64 5)) classA := (k4.one (j := 34) (by omega) 4).one (j := 39) (by omega) 5
  have b5 : Below w.heap.size w ((w4.setCell ⟨w.heap.size + 1, 34, none⟩ (.int .i64 4)).setCell ⟨w.heap.size + 1, 39, none⟩ (.int .i64 5)) := (b4.setCell (p := ⟨w.heap.size + 1, 34, none⟩) (by simp) _).setCell (p := ⟨w.heap.size + 1, 39, none⟩) (by simp) _
  have r5 : ((w4.setCell ⟨w.heap.size + 1, 34, none⟩ (.int .i64 4)).setCell ⟨w.heap.size + 1, 39, none⟩ (.int .i64 5)).heap[w.heap.size]? = some (.cells Tryz.zeroCells57 57 (0, 0)) := by
    rw [Below.heap_setCell _ _ _ _ (by simp), Below.heap_setCell _ _ _ _ (by simp)]; exact HR4.out
  generalize ((w4.setCell ⟨w.heap.size + 1, 34, none⟩ (.int .i64 4)).setCell ⟨w.heap.size + 1, 39, none⟩ (.int .i64 5)) = w5 at *
  generalize ((c4.setIfInBounds 34 (.int .i64 4)).setIfInBounds 39 (.int .i64 5)) = c5 at *
  clear x34 x39 f34 f39 k4 b4 HG4 HR4
  have hsz : c5.size = 256 := k5.1
  have hrange : w5.rangeAt (w.heap.size + 1) 0 c5.toList := fun j v hv => by rw [cell_of_row _ _ _ _ _ _ g5]; simpa using hv
  have hthere : w5.there w.heap.size 0 c5.size := fun j hj => by
    rw [cell_of_row _ _ _ _ _ _ r5]
    refine ⟨?_, frozen_of_row _ _ _ _ _ r5⟩
    rw [zero256]
    have : j < 256 := by omega
    simp [this]
  have hone : c5.all (·.oneCell') = true := by
    rw [Array.all_eq_true]
    intro i hi
    have := k5.2 i (by omega)
    rw [Array.getElem?_eq_getElem hi] at this
    rw [Option.some.inj this]
    rfl
  have hinfo : (Tryz.prog.info? 57).map (·.size) = some 256 := by kernel_rfl
  go_wp2_with (first
    | (with_reducible refine wpList_load_mid rfl 57 (.tmp 1) rfl (w.heap.size + 1) 0 rfl c5.toList _ hrange Tryz.underlying57 rfl (by rw [Array.length_toList, hsz]; exact hinfo) ?_)
    | (with_reducible refine wpList_store_mid rfl 57 (.tmp 0) (.tmp 8) rfl w.heap.size 0 c5 rfl rfl hthere (by rw [hsz]; exact hinfo) hone ?_))
  have hres : (loadVar 57 ⟨w.heap.size, 0, none⟩).run Tryz.prog (w5.setCells w.heap.size 0 c5.toList) = .ok (.agg c5) (w5.setCells w.heap.size 0 c5.toList) := by
    have := run_loadVar_mid (P := Tryz.prog) (w5.setCells w.heap.size 0 c5.toList) w.heap.size 0 57 c5.toList _ (World.rangeAt_setCells_same w5 w.heap.size 0 c5.toList (by simpa using hthere)) Tryz.underlying57 rfl (by rw [Array.length_toList, hsz]; exact hinfo)
    simpa using this
  exact bodyPost_ret (v := .agg c5) (by simp [results, Tryz.results42, hres, Act.put, asAddr]) rfl ⟨c5, rfl, k5, belowCells b5 (Nat.le_refl _) _ _⟩

/-- The lexer in block g: over the text s, at k. -/
structure LexS (w : World) (g : Nat) (s : ByteArray) (k : Nat) : Prop where
  ex : ∃ cs, w.heap[g]? = some (.cells cs 60 (0, 0)) ∧ cs.size = 258 ∧ cs[0]? = some (.string s) ∧ cs[1]? = some (.int .i64 (k : Int)) ∧ ∀ b : UInt8, cs[2 + b.toNat]? = some (.int .i64 (clB b))

theorem LexS.lt {w : World} {g : Nat} {s : ByteArray} {k : Nat} (h : LexS w g s k) : g < w.heap.size := by
  obtain ⟨cs, hg, _⟩ := h.ex
  exact heap_lt hg
theorem LexS.c0 {w : World} {g : Nat} {s : ByteArray} {k : Nat} (h : LexS w g s k) : w.cell? ⟨g, 0, none⟩ = some (.string s) := by
  obtain ⟨cs, hg, _, h0, _⟩ := h.ex
  rw [cell_of_row _ _ _ _ _ _ hg]; exact h0
theorem LexS.c1 {w : World} {g : Nat} {s : ByteArray} {k : Nat} (h : LexS w g s k) : w.cell? ⟨g, 1, none⟩ = some (.int .i64 (k : Int)) := by
  obtain ⟨cs, hg, _, _, h1, _⟩ := h.ex
  rw [cell_of_row _ _ _ _ _ _ hg]; exact h1
theorem LexS.cl {w : World} {g : Nat} {s : ByteArray} {k : Nat} (h : LexS w g s k) (b : UInt8) : w.cell? ⟨g, 2 + b.toNat, none⟩ = some (.int .i64 (clB b)) := by
  obtain ⟨cs, hg, _, _, _, h2⟩ := h.ex
  rw [cell_of_row _ _ _ _ _ _ hg]; exact h2 b
theorem LexS.f1 {w : World} {g : Nat} {s : ByteArray} {k : Nat} (h : LexS w g s k) : w.frozen? ⟨g, 1, none⟩ = false := by
  obtain ⟨cs, hg, _⟩ := h.ex
  exact frozen_of_row _ _ _ _ _ hg
theorem LexS.below {w w' : World} {g : Nat} {s : ByteArray} {k : Nat} (h : LexS w g s k) {B : Nat} (hb : Below B w w') (hB : g < B) : LexS w' g s k := by
  obtain ⟨cs, hg, r⟩ := h.ex
  exact ⟨cs, (hb.block g hB).trans hg, r⟩
theorem LexS.drewN {w : World} {g : Nat} {s : ByteArray} {k : Nat} (h : LexS w g s k) (n : Nat) : LexS (w.drewN n) g s k := h.below (below_drewN (Below.refl w.heap.size w) n) h.lt
theorem LexS.set {w : World} {g : Nat} {s : ByteArray} {k : Nat} (h : LexS w g s k) (m : Nat) : LexS (w.setCell ⟨g, 1, none⟩ (.int .i64 (m : Int))) g s m := by
  obtain ⟨cs, hg, hs, h0, _, h2⟩ := h.ex
  refine ⟨_, heap_setCell_same w g 1 _ _ _ hg, by simpa using hs, ?_, ?_, fun b => ?_⟩
  · rw [Array.getElem?_setIfInBounds_ne (by omega)]; exact h0
  · rw [Array.getElem?_setIfInBounds_self, if_pos (by omega)]
  · rw [Array.getElem?_setIfInBounds_ne (by omega)]; exact h2 b
theorem setGrown (w : World) (g : Nat) (v : Value) : w.grownBy (w.setCell ⟨g, 1, none⟩ v) (some g) :=
  ⟨rfl, rfl, rfl, by simp [World.setCell], fun k _ hne => Below.heap_setCell _ _ _ _ (fun e => hne (by rw [e]))⟩

/-- The lexer moves on to m; nothing else that was there turns. -/
def Moved (w : World) (g : Nat) (s : ByteArray) (m : Nat) (w' : World) : Prop := LexS w' g s m ∧ w.grownBy w' (some g)

end Go.Proofs.YtgnillmhpockkaaGreatDoor
