/- Which names are written plainly: by bytes. -/
/- spec.DecText answers the decimal numeral. -/
/- spec.ReadDec answers the number that a text spells, or -1. -/
/- A number comes back from its numeral: plain mathematics. -/
/- Expressions: what is written is read back. -/
/- The model's small words over bytes: letters, digits, gaps, names. -/
/- The model's names: spec.NameOk. -/
import Derived.Test.YthebkfanpnbanaaDoorMPutSpec
import Derived.Test.YthebkfanpnbanaaDoorRows
import Derived.WalkKit
import Derived.WalkLawsBesides
import Derived.WalkSpells
import Derived.Deep.QuietTactic
import Derived.BigQuiet
import Derived.Outline
import Derived.Lib.Strings
import Derived.Lib.Hide
import Derived.Lib.ItoaNum
import Derived.Lib.ItoaLen
import Derived.Lib.Atoi
import Derived.Lib.AtoiErr
import Derived.Test.YthebkfanpnbanaaDoorMBytes1
namespace Go.Proofs.YthebkfanpnbanaaDoor
open Go.RowKit

def smallB (b : UInt8) : Bool := decide (b.toNat = 95) || (decide (97 ≤ b.toNat) && decide (b.toNat ≤ 122))
def okB (b : UInt8) : Bool := smallB b || digitB b
def plainB (l : List UInt8) : Bool := !l.isEmpty && (!digitB (l.headD 0) && l.all okB)
/-- How a name is written. -/
def nameT (s : ByteArray) : ByteArray := if plainB s.data.toList && !keptB s.data.toList then s else quoteT s 34

theorem head_get (s : ByteArray) (h : 0 < s.size) : s.data.toList.headD 0 = s[0] := by
  have hl : s.data.toList.length = s.size := by simp
  match hs : s.data.toList, hl with
  | [], hl => simp at hl; omega
  | b :: r, _ =>
    have : s[0] = s.data.toList[0]'(by rw [hs]; simp) := rfl
    rw [this]
    simp [hs]

theorem list_get (s : ByteArray) (k : Nat) (h : k < s.size) : s.data.toList[k]'(by simpa using h) = s[k] := rfl

theorem plain_no (s : ByteArray) (k : Nat) (h : k < s.size) (hb : okB s[k] = false ∨ (k = 0 ∧ digitB s[k] = true)) : plainB s.data.toList = false := by
  unfold plainB
  rcases hb with hb | ⟨rfl, hb⟩
  · have : s.data.toList.all okB = false := by
      rw [List.all_eq_false]
      exact ⟨s[k], by rw [← list_get s k h]; exact List.getElem_mem _, by rw [hb]; simp⟩
    rw [this]; simp
  · rw [head_get s h, hb]; simp

theorem plain_yes (s : ByteArray) (h0 : 0 < s.size) (h : ∀ (j : Nat) (hj : j < s.size), okB s[j] = true) (hd : digitB s[0] = false) : plainB s.data.toList = true := by
  have hl : s.data.toList.length = s.size := by simp
  unfold plainB
  have h1 : s.data.toList.isEmpty = false := by rw [List.isEmpty_eq_false_iff]; intro e; rw [e] at hl; simp at hl; omega
  have h2 : s.data.toList.all okB = true := by
    rw [List.all_eq_true]
    intro b hb
    obtain ⟨k, hk, rfl⟩ := List.mem_iff_getElem.1 hb
    exact h k (by omega)
  rw [h1, h2, head_get s h0, hd]
  rfl

theorem plain_empty (s : ByteArray) (h0 : s.size = 0) : plainB s.data.toList = false := by
  have hl : s.data.toList.length = s.size := by simp
  have : s.data.toList = [] := List.length_eq_zero_iff.1 (by omega)
  rw [this]; rfl

theorem ok_of_small {b : UInt8} (h : b.toNat = 95 ∨ (97 ≤ b.toNat ∧ b.toNat ≤ 122)) : okB b = true ∧ digitB b = false := by
  unfold okB smallB digitB
  rcases h with h | ⟨h1, h2⟩
  · rw [h]; decide
  · have e1 : decide (97 ≤ b.toNat) = true := by simpa using h1
    have e2 : decide (b.toNat ≤ 122) = true := by simpa using h2
    have e3 : decide (b.toNat ≤ 57) = false := by simp; omega
    rw [e1, e2, e3]; simp
theorem ok_of_digit {b : UInt8} (h : 48 ≤ b.toNat ∧ b.toNat ≤ 57) : okB b = true ∧ digitB b = true := by
  have : digitB b = true := by unfold digitB; simp [h.1, h.2]
  exact ⟨by unfold okB; rw [this]; simp, this⟩
theorem ok_no {b : UInt8} (h1 : b.toNat ≠ 95) (h2 : ¬(97 ≤ b.toNat ∧ b.toNat ≤ 122)) (h3 : ¬(48 ≤ b.toNat ∧ b.toNat ≤ 57)) : okB b = false := by
  unfold okB smallB digitB
  rw [Bool.eq_false_iff]
  simp only [ne_eq, Bool.or_eq_true, Bool.and_eq_true, decide_eq_true_eq]
  omega

end Go.Proofs.YthebkfanpnbanaaDoor

namespace Go.Proofs.YthebkfanpnbanaaDoor
open Go.RowKit

def dec (n : Int) : ByteArray := ⟨(Lib.itoa n).toArray⟩

/-- The digits of u ahead of out; none for 0. -/
def decOn (u : Nat) (out : List UInt8) : List UInt8 := if u = 0 then out else Lib.decDigits u ++ out

theorem decOn_step (u : Nat) (out : List UInt8) (h : 0 < u) : decOn u out = decOn (u / 10) (UInt8.ofNat (48 + u % 10) :: out) := by
  unfold decOn
  rw [if_neg (by omega)]
  by_cases h10 : u < 10
  · rw [if_pos (by omega), Lib.decDigits_one h10, Nat.mod_eq_of_lt h10]
    rfl
  · rw [if_neg (by omega), Lib.decDigits, dif_neg h10]
    simp

theorem digit_cut (d : Nat) (h : d < 10) : (⟨#[48, 49, 50, 51, 52, 53, 54, 55, 56, 57]⟩ : ByteArray).extract d (d + 1) = ⟨#[UInt8.ofNat (48 + d)]⟩ := by
  have : ∀ d : Fin 10, (⟨#[48, 49, 50, 51, 52, 53, 54, 55, 56, 57]⟩ : ByteArray).extract d.val (d.val + 1) = ⟨#[UInt8.ofNat (48 + d.val)]⟩ := by decide
  exact this ⟨d, h⟩

theorem ba_cons0 (x : UInt8) (out : List UInt8) : (⟨#[x]⟩ : ByteArray) ++ ⟨out.toArray⟩ = ⟨(x :: out).toArray⟩ := by
  apply ByteArray.ext
  simp [ByteArray.data_append]

theorem decOn_len (u n : Nat) (out : List UInt8) (h : decOn u out = Lib.decDigits n) (hn : n < 18446744073709551616) : out.length ≤ 20 := by
  have h1 := congrArg List.length h
  rw [Lib.decDigits_length] at h1
  have h2 := Lib.nDigits_le20 n hn
  unfold decOn at h1
  split at h1
  · omega
  · rw [List.length_append] at h1; omega

end Go.Proofs.YthebkfanpnbanaaDoor

namespace Go.Proofs.YthebkfanpnbanaaDoor
open Go.RowKit

theorem decFrom_stop : ∀ (l : List UInt8) (k acc n : Nat) (b : UInt8), Lib.decFrom acc (l.take k) = some n → l[k]? = some b → Lib.digitVal b = none → Lib.decFrom acc l = none
  | [], k, _, _, _, _, hb, _ => by simp at hb
  | x :: r, 0, acc, n, b, _, hb, hd => by
    simp at hb
    subst hb
    simp [Lib.decFrom, hd]
  | x :: r, k + 1, acc, n, b, h, hb, hd => by
    rw [List.take_succ_cons, Lib.decFrom] at h
    rw [Lib.decFrom]
    cases hv : Lib.digitVal x with
    | none => rfl
    | some d =>
      rw [hv] at h
      exact decFrom_stop r k _ n b h (by simpa using hb) hd

theorem readD_stop {l : List UInt8} {k n : Nat} {b : UInt8} (h : Lib.decFrom 0 (l.take k) = some n) (hb : l[k]? = some b) (hd : Lib.digitVal b = none) : readD l = -1 := by
  unfold readD
  split
  · rfl
  · have h0 := decFrom_stop l k 0 n b h hb hd
    have : Lib.decNat l = none := by
      unfold Lib.decNat
      split
      · rfl
      · exact h0
    rw [this]

theorem readD_end {l : List UInt8} {n : Nat} (h9 : l.length ≤ 9) (h0 : l ≠ []) (h : Lib.decFrom 0 l = some n) : readD l = if Lib.itoa (n : Int) = l then (n : Int) else -1 := by
  have : Lib.decNat l = some n := by
    unfold Lib.decNat
    rw [if_neg (by simpa using h0), h]
  unfold readD
  rw [if_neg (by omega), this]

theorem pow9 {n k : Nat} (h : n < (0 + 1) * 10 ^ k) (hk : k ≤ 9) : n < 1000000000 := by
  have : 10 ^ k ≤ 10 ^ 9 := Nat.pow_le_pow_right (by omega) hk
  omega

end Go.Proofs.YthebkfanpnbanaaDoor

namespace Go.Proofs.YthebkfanpnbanaaDoor

theorem decFrom_snocB : ∀ (l : List UInt8) (acc n : Nat) (b : UInt8) (d : Nat), Lib.decFrom acc l = some n → Lib.digitVal b = some d → Lib.decFrom acc (l ++ [b]) = some (n * 10 + d)
  | [], acc, n, b, d, h, hd => by
    cases h
    simp [Lib.decFrom, hd]
  | x :: r, acc, n, b, d, h, hd => by
    rw [Lib.decFrom] at h
    rw [List.cons_append, Lib.decFrom]
    cases hv : Lib.digitVal x with
    | none => rw [hv] at h; cases h
    | some e => rw [hv] at h; exact decFrom_snocB r _ n b d h hd

theorem digit_ofB (d : Nat) (h : d < 10) : Lib.digitVal (UInt8.ofNat (48 + d)) = some d := by
  have h2 : (UInt8.ofNat (48 + d)).toNat = 48 + d := by rw [UInt8.toNat_ofNat']; omega
  unfold Lib.digitVal
  rw [h2, if_pos (by omega)]
  congr 1
  omega

theorem decFrom_digitsB (u : Nat) : Lib.decFrom 0 (Lib.decDigits u) = some u := by
  induction u using Nat.strongRecOn with
  | ind u ih =>
    by_cases h : u < 10
    · rw [Lib.decDigits_one h, Lib.decFrom, digit_ofB u h]
      simp [Lib.decFrom]
    · rw [Lib.decDigits, dif_neg h, decFrom_snocB _ _ _ _ _ (ih (u / 10) (by omega)) (digit_ofB (u % 10) (by omega))]
      congr 1
      omega

theorem decDigits_neB (u : Nat) : Lib.decDigits u ≠ [] := by
  intro h
  have h1 := Lib.decDigits_length u
  have h2 := Lib.nDigits_pos u
  rw [h] at h1
  simp at h1
  omega

theorem itoa_natB (m : Nat) : Lib.itoa (m : Int) = Lib.decDigits m := by
  unfold Lib.itoa
  rw [if_neg (by omega), Int.toNat_natCast]

theorem nDigits_leB : ∀ (k u : Nat), 1 ≤ k → u < 10 ^ k → Lib.nDigits u ≤ k
  | 0, _, h, _ => by omega
  | k + 1, u, _, h => by
    by_cases hu : u < 10
    · rw [Lib.nDigits_small hu]; omega
    · rw [Lib.nDigits_big hu]
      rcases Nat.eq_zero_or_pos k with rfl | hk
      · simp at h; omega
      · have : u / 10 < 10 ^ k := by
          rw [Nat.pow_succ] at h
          exact Nat.div_lt_of_lt_mul (by rw [Nat.mul_comm]; exact h)
        have := nDigits_leB k (u / 10) hk this
        omega

theorem readD_inB (n : Int) (h0 : 0 ≤ n) (h1 : n ≤ 999999999) : readD (Lib.itoa n) = n := by
  obtain ⟨m, rfl⟩ := Int.eq_ofNat_of_zero_le h0
  have hl : (Lib.decDigits m).length ≤ 9 := by
    rw [Lib.decDigits_length]
    exact nDigits_leB 9 m (by omega) (by omega)
  rw [itoa_natB, readD_end hl (decDigits_neB m) (decFrom_digitsB m), itoa_natB, if_pos rfl]

end Go.Proofs.YthebkfanpnbanaaDoor

namespace Go.Proofs.YthebkfanpnbanaaDoor

def kidsK (k : Int) : Int := if k < 0 ∨ 18 < k then -1 else if k ≤ 5 then 0 else if k ≤ 7 then 1 else 2

/-- What one node asks for, but for its kids' own shape. -/
def node1 (k : Int) (t : ByteArray) (n : Int) (m : Nat) : Bool :=
  decide ((m : Int) = kidsK k) && (if k = 0 then nameB t.data.toList else if k = 2 then decide (t.size ≤ 100) else t.toList.isEmpty) && (if k = 1 then decide (0 ≤ n ∧ n ≤ 999999999) else decide (n = 0))

mutual
def shapeE : Ex → Bool
  | .mk k t n kids => node1 k t n kids.length && shapeL kids
def shapeL : List Ex → Bool
  | [] => true
  | e :: r => shapeE e && shapeL r
end

def leafW (k : Int) (t : ByteArray) (n : Int) : W :=
  if k = 0 then (if plainB t.data.toList && !keptB t.data.toList then (0, t.data.toList) else (1, t.data.toList))
  else if k = 1 then (2, Lib.itoa n) else if k = 2 then (3, t.data.toList) else if k = 3 then (0, wTrue) else if k = 4 then (0, wFalse) else (0, wNull)

def firstK (k : Int) : Nat := if bindsK k = 4 then 5 else bindsK k
def signW (k : Int) : W := (if k = 8 ∨ k = 9 then 0 else 4, signK k)

def wordsE : Ex → Nat → List W
  | .mk k t n [], least => if bindsK k < least then (4, [40]) :: (leafW k t n :: [(4, [41])]) else [leafW k t n]
  | .mk k _ _ [a], least =>
    if k = 6 then (if bindsK k < least then (4, [40]) :: ((0, wNot) :: wordsE a 3 ++ [(4, [41])]) else (0, wNot) :: wordsE a 3)
    else (if bindsK k < least then (4, [40]) :: (wordsE a 5 ++ [(0, wIs), (0, wNull)] ++ [(4, [41])]) else wordsE a 5 ++ [(0, wIs), (0, wNull)])
  | .mk k _ _ (a :: b :: _), least =>
    if bindsK k < least then (4, [40]) :: (wordsE a (firstK k) ++ signW k :: wordsE b (bindsK k + 1) ++ [(4, [41])]) else wordsE a (firstK k) ++ signW k :: wordsE b (bindsK k + 1)

theorem words_pos (e : Ex) (L : Nat) : 0 < (wordsE e L).length := by
  obtain ⟨k, t, n, kids⟩ := e
  match kids with
  | [] => rw [wordsE]; split <;> simp
  | [a] => rw [wordsE]; split <;> split <;> simp
  | a :: b :: r => rw [wordsE]; split <;> (simp; try omega)

/-- The brackets that are wanted. -/
theorem words_in {e : Ex} {L : Nat} (h : bindsK e.kind < L) : wordsE e L = (4, [40]) :: (wordsE e 1 ++ [(4, [41])]) := by
  obtain ⟨k, t, n, kids⟩ := e
  have h1 : ¬ bindsK k < 1 := by unfold bindsK; (repeat' split) <;> omega
  have h2 : bindsK k < L := h
  match kids with
  | [] => rw [wordsE, wordsE, if_pos h2, if_neg h1]; rfl
  | [a] =>
    rw [wordsE, wordsE]
    by_cases hk : k = 6
    · rw [if_pos hk, if_pos hk, if_pos h2, if_neg h1]
    · rw [if_neg hk, if_neg hk, if_pos h2, if_neg h1]
  | a :: b :: r => rw [wordsE, wordsE, if_pos h2, if_neg h1]

theorem words_out {e : Ex} {L L' : Nat} (h : ¬ bindsK e.kind < L) (h' : ¬ bindsK e.kind < L') : wordsE e L = wordsE e L' := by
  obtain ⟨k, t, n, kids⟩ := e
  have h1 : ¬ bindsK k < L := h
  have h2 : ¬ bindsK k < L' := h'
  match kids with
  | [] => rw [wordsE, wordsE, if_neg h1, if_neg h2]
  | [a] =>
    rw [wordsE, wordsE]
    by_cases hk : k = 6
    · rw [if_pos hk, if_pos hk, if_neg h1, if_neg h2]
    · rw [if_neg hk, if_neg hk, if_neg h1, if_neg h2]
  | a :: b :: r => rw [wordsE, wordsE, if_neg h1, if_neg h2]

/-- Nothing of strength L or more goes on here. -/
def Stop (L : Nat) (rest : List W) : Prop := ∀ x r, rest = x :: r → (∀ b, L ≤ b → b ≤ 6 → nextK x b = none) ∧ (L ≤ 4 → isW x wIs = false)

theorem Stop.mono {L L' : Nat} {rest : List W} (h : Stop L rest) (hl : L ≤ L') : Stop L' rest := fun x r e =>
  ⟨fun b hb hb' => (h x r e).1 b (by omega) hb', fun h4 => (h x r e).2 (by omega)⟩
theorem stop_nil (L : Nat) : Stop L [] := fun _ _ e => by cases e

theorem loop_stop {f L : Nat} {e : Ex} {rest : List W} (h : Stop L rest) (hL : L ≤ 6) : loopP f L e rest = (e, rest) := by
  cases f with
  | zero => rw [loopP]
  | succ f =>
    cases rest with
    | nil => rw [loopP]
    | cons x r =>
      obtain ⟨h1, h2⟩ := h x r rfl
      rw [loopP]
      rw [if_neg (by rintro ⟨rfl, h3, _⟩; rw [h2 (by omega)] at h3; cases h3), h1 L (Nat.le_refl _) hL]

def RTat (e : Ex) (L : Nat) : Prop := ∀ rest f, enough f L (wordsE e L ++ rest) → Stop L rest → anyP f L (wordsE e L ++ rest) = some (e, rest)
def Aat (e : Ex) (L : Nat) : Prop := ∀ rest f, enough f L (wordsE e L ++ rest) → Stop (L + 1) rest → ∃ f', enoughL f' L rest ∧ anyP f L (wordsE e L ++ rest) = some (loopP f' L e rest)

/-- One level down, where e is no sum of that level itself. -/
theorem step_down {e : Ex} {L : Nat} (hL : L ≤ 6) (hw : wordsE e L = wordsE e (L + 1)) (hn : L = 3 → ∀ rest, hdW (wordsE e L ++ rest) wNot = false) (h : RTat e (L + 1)) : Aat e L := by
  intro rest f hf hs
  have hp := words_pos e L
  unfold enough at hf
  rw [List.length_append] at hf
  obtain ⟨f, rfl⟩ : ∃ g, f = g + 1 := ⟨f - 1, by omega⟩
  refine ⟨f, by unfold enoughL; omega, ?_⟩
  rw [anyP, if_neg (by omega), if_neg (by rintro ⟨h3, h4⟩; rw [hn h3 rest] at h4; cases h4), hw]
  have := h rest f (by unfold enough; rw [← hw, List.length_append]; omega) hs
  rw [this]

theorem rt_of_a {e : Ex} {L : Nat} (hL : L ≤ 6) (h : Aat e L) : RTat e L := by
  intro rest f hf hs
  obtain ⟨f', _, h2⟩ := h rest f hf (hs.mono (by omega))
  rw [h2, loop_stop hs hL]

end Go.Proofs.YthebkfanpnbanaaDoor

namespace Go.Proofs.YthebkfanpnbanaaDoor
open Go.RowKit

def inI (x lo hi : Int) : Bool := decide (lo ≤ x) && decide (x ≤ hi)

theorem specIn (x lo hi : Int) (w : World) : Calls Tryd.prog 66 #[.int .i64 x, .int .i64 lo, .int .i64 hi] w fun e w' => e = .returned (.bool (inI x lo hi)) ∧ w = w' := by
  by_cases h1 : lo ≤ x
  · have H : Hid (inI x lo hi = decide (x ≤ hi)) := by unfold Hid inI; simp [h1]
    go_enter Tryd.func66, Tryd.ntmps66
    go_wp2
    go_ret
    exact ⟨by rw [H.out]; rfl, rfl⟩
  · have H : Hid (inI x lo hi = false) := by unfold Hid inI; simp [h1]
    have ht : decide (lo ≤ x) = false := by simp; omega
    go_enter Tryd.func66, Tryd.ntmps66
    go_wp2
    go_ret
    exact ⟨by rw [H.out]; rfl, rfl⟩

theorem specInIs (x lo hi : Int) (w : World) (v : Bool) (h : inI x lo hi = v) : Calls Tryd.prog 66 #[.int .i64 x, .int .i64 lo, .int .i64 hi] w fun e w' => e = .returned (.bool v) ∧ w = w' := h ▸ specIn x lo hi w

theorem digit_eq (b : UInt8) : (Lib.digitVal b).isSome = digitB b := by
  unfold Lib.digitVal digitB
  split
  · rename_i h; simp [h.1, h.2]
  · rename_i h
    symm
    simp only [Option.isSome_none, Bool.and_eq_false_iff, decide_eq_false_iff_not]
    omega

theorem letter_eq (b : UInt8) : letterB b = (inI (b.toNat : Int) 65 90 || inI (b.toNat : Int) 97 122 || ((b.toNat : Int) == 95)) := by
  rw [Bool.eq_iff_iff]
  simp only [letterB, inI, Bool.or_eq_true, Bool.and_eq_true, decide_eq_true_eq, beq_iff_eq]
  omega

end Go.Proofs.YthebkfanpnbanaaDoor

namespace Go.Proofs.YthebkfanpnbanaaDoor
open Go.RowKit

theorem beqF {b : UInt8} {n : Int} (h : (b.toNat : Int) ≠ n) : (((b.toNat : Int)) == n) = false := by rw [beq_eq_false_iff_ne]; exact h
theorem beqT {b : UInt8} {n : Int} (h : (b.toNat : Int) = n) : (((b.toNat : Int)) == n) = true := by simp [h]

theorem name_zero (s : ByteArray) (k : Nat) (h : k < s.size) (hb : s[k].toNat = 0) : nameB s.data.toList = false := by
  have hm : s.data.toList.contains 0 = true := by
    rw [List.contains_iff_mem, List.mem_iff_getElem]
    exact ⟨k, by simpa using h, UInt8.toNat_inj.1 hb⟩
  unfold nameB; rw [hm]; simp

theorem name_noZero (s : ByteArray) (h : ∀ (k : Nat) (hk : k < s.size), s[k].toNat ≠ 0) : nameB s.data.toList = inI (s.size : Int) 1 40 := by
  have hm : s.data.toList.contains 0 = false := by
    rw [Bool.eq_false_iff]
    intro hc
    rw [List.contains_iff_mem, List.mem_iff_getElem] at hc
    obtain ⟨k, hk, e⟩ := hc
    have hk' : k < s.size := by simpa using hk
    exact h k hk' (by have : s[k] = 0 := e; rw [this]; rfl)
  have hl : s.data.toList.length = s.size := by simp
  unfold nameB inI
  rw [hm, hl, Bool.eq_iff_iff]
  simp only [Bool.and_eq_true, decide_eq_true_eq, Bool.not_false, and_true]
  omega

set_option maxHeartbeats 1000000 in
theorem specName (s : ByteArray) (w : World) (hs : s.size ≤ 1048576) :
    Calls Tryd.prog 86 #[.string s] w fun e w' => e = .returned (.bool (nameB s.data.toList)) ∧ w = w' := by
  go_enter Tryd.func86, Tryd.ntmps86
  go_wp2_with fail
  go_loop [3] (fun i => ∃ k : Nat, k ≤ s.size ∧ i = .int .i64 k ∧ Hid (∀ (j : Nat) (hj : j < s.size), j < k → s[j].toNat ≠ 0)) (fun i => s.size - (intOf i).toNat)
  case atStart => exact ⟨0, Nat.zero_le _, rfl, fun j _ h => by omega⟩
  case round =>
    obtain ⟨k, hk, rfl, hall⟩ := hrel
    by_cases hlt : k < s.size
    · have hby := byte_le s[k]
      by_cases h0 : s[k].toNat = 0
      · have HN := Lib.hid (name_zero s k hlt h0)
        have T := beqT (b := s[k]) (n := 0) (by omega)
        clear h0
        go_wp2_with fail
        go_ret
        exact ⟨by rw [HN.out]; rfl, rfl⟩
      · have HA : Hid (∀ (j : Nat) (hj : j < s.size), j < k + 1 → s[j].toNat ≠ 0) := fun j hj hjk => by
          by_cases e : j = k
          · subst e; exact h0
          · exact hall.out j hj (by omega)
        have T := beqF (b := s[k]) (n := 0) (by omega)
        clear h0
        go_wp2_with fail
        exact ⟨⟨k + 1, by omega, by go_num, HA⟩, by simp [intOf]; omega⟩
    · have HN : Hid (nameB s.data.toList = inI (s.size : Int) 1 40) := name_noZero s (fun j hj => hall.out j hj (by omega))
      go_wp2_with fail
      refine (specIn _ 1 40 _).mono ?_
      rintro e w' ⟨rfl, rfl⟩
      go_wp2_with fail
      go_ret
      exact ⟨by rw [HN.out]; rfl, rfl⟩

theorem specNameOk (s : ByteArray) (w : World) (hs : s.size ≤ 1048576) (v : Bool) (hv : nameB s.data.toList = v) :
    Calls Tryd.prog 75 #[.string s] w fun e w' => e = .returned (.bool v) ∧ w = w' := by
  subst hv
  go_enter Tryd.func75, Tryd.ntmps75
  go_wp2_with fail
  refine (specName s _ hs).mono ?_
  rintro e w' ⟨rfl, rfl⟩
  go_wp2_with fail
  go_ret
  exact ⟨rfl, rfl⟩

end Go.Proofs.YthebkfanpnbanaaDoor
