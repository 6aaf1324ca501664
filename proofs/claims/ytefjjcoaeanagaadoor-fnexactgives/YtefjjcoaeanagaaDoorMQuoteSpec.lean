/- spec.Quote answers the text between quotes, each of its quotes doubled. -/
/- Which names are written plainly: by bytes. -/
import Derived.Test.YtefjjcoaeanagaaDoorMBytes
import Derived.Test.YtefjjcoaeanagaaDoorMLexM
namespace Go.Proofs.YtefjjcoaeanagaaDoor
open Go.RowKit

def dbl (q : UInt8) (t : List UInt8) : List UInt8 := t.flatMap fun b => if b = q then [q, b] else [b]
def quoteT (s : ByteArray) (q : UInt8) : ByteArray := ⟨(quoteL q s.data.toList).toArray⟩

theorem dbl_eq (q : UInt8) (s : ByteArray) (k : Nat) (h : k < s.size) (he : s[k] = q) : dbl q (s.data.toList.take (k + 1)) = dbl q (s.data.toList.take k) ++ [q] ++ [s[k]] := by
  unfold dbl
  rw [take_snoc s k h, List.flatMap_append]
  simp [he]
theorem dbl_ne (q : UInt8) (s : ByteArray) (k : Nat) (h : k < s.size) (he : s[k] ≠ q) : dbl q (s.data.toList.take (k + 1)) = dbl q (s.data.toList.take k) ++ [s[k]] := by
  unfold dbl
  rw [take_snoc s k h, List.flatMap_append]
  simp [he]
theorem dbl_len (q : UInt8) (t : List UInt8) : (dbl q t).length ≤ 2 * t.length := by
  unfold dbl
  induction t with
  | nil => simp
  | cons b r ih =>
    rw [List.flatMap_cons, List.length_append, List.length_cons]
    split
    · simp only [List.length_cons, List.length_nil]; omega
    · simp only [List.length_cons, List.length_nil]; omega

end Go.Proofs.YtefjjcoaeanagaaDoor

namespace Go.Proofs.YtefjjcoaeanagaaDoor
open Go.RowKit

def smallB (b : UInt8) : Bool := decide (b.toNat = 95) || (decide (97 ≤ b.toNat) && decide (b.toNat ≤ 122))
def okB (b : UInt8) : Bool := smallB b || digitB b
def plainB (l : List UInt8) : Bool := !l.isEmpty && (!digitB (l.headD 0) && l.all okB)
/-- How a name is written. -/
def nameT (s : ByteArray) : ByteArray := if plainB s.data.toList && !keptB s.data.toList then s else quoteT s 34

theorem head_get (s : ByteArray) (h : 0 < s.size) : s.data.toList.headD 0 = s[0] := by
  have hl : s.data.toList.length = s.size := by simp
  match hs : s.data.toList, hl with
  | [], hl => simp at hl; omega
  | b :: r, _ =>
    have : s[0] = s.data.toList[0]'(by rw [hs]; simp) := rfl
    rw [this]
    simp [hs]

theorem list_get (s : ByteArray) (k : Nat) (h : k < s.size) : s.data.toList[k]'(by simpa using h) = s[k] := rfl

theorem plain_no (s : ByteArray) (k : Nat) (h : k < s.size) (hb : okB s[k] = false ∨ (k = 0 ∧ digitB s[k] = true)) : plainB s.data.toList = false := by
  unfold plainB
  rcases hb with hb | ⟨rfl, hb⟩
  · have : s.data.toList.all okB = false := by
      rw [List.all_eq_false]
      exact ⟨s[k], by rw [← list_get s k h]; exact List.getElem_mem _, by rw [hb]; simp⟩
    rw [this]; simp
  · rw [head_get s h, hb]; simp

theorem plain_yes (s : ByteArray) (h0 : 0 < s.size) (h : ∀ (j : Nat) (hj : j < s.size), okB s[j] = true) (hd : digitB s[0] = false) : plainB s.data.toList = true := by
  have hl : s.data.toList.length = s.size := by simp
  unfold plainB
  have h1 : s.data.toList.isEmpty = false := by rw [List.isEmpty_eq_false_iff]; intro e; rw [e] at hl; simp at hl; omega
  have h2 : s.data.toList.all okB = true := by
    rw [List.all_eq_true]
    intro b hb
    obtain ⟨k, hk, rfl⟩ := List.mem_iff_getElem.1 hb
    exact h k (by omega)
  rw [h1, h2, head_get s h0, hd]
  rfl

theorem plain_empty (s : ByteArray) (h0 : s.size = 0) : plainB s.data.toList = false := by
  have hl : s.data.toList.length = s.size := by simp
  have : s.data.toList = [] := List.length_eq_zero_iff.1 (by omega)
  rw [this]; rfl

theorem ok_of_small {b : UInt8} (h : b.toNat = 95 ∨ (97 ≤ b.toNat ∧ b.toNat ≤ 122)) : okB b = true ∧ digitB b = false := by
  unfold okB smallB digitB
  rcases h with h | ⟨h1, h2⟩
  · rw [h]; decide
  · have e1 : decide (97 ≤ b.toNat) = true := by simpa using h1
    have e2 : decide (b.toNat ≤ 122) = true := by simpa using h2
    have e3 : decide (b.toNat ≤ 57) = false := by simp; omega
    rw [e1, e2, e3]; simp
theorem ok_of_digit {b : UInt8} (h : 48 ≤ b.toNat ∧ b.toNat ≤ 57) : okB b = true ∧ digitB b = true := by
  have : digitB b = true := by unfold digitB; simp [h.1, h.2]
  exact ⟨by unfold okB; rw [this]; simp, this⟩
theorem ok_no {b : UInt8} (h1 : b.toNat ≠ 95) (h2 : ¬(97 ≤ b.toNat ∧ b.toNat ≤ 122)) (h3 : ¬(48 ≤ b.toNat ∧ b.toNat ≤ 57)) : okB b = false := by
  unfold okB smallB digitB
  rw [Bool.eq_false_iff]
  simp only [ne_eq, Bool.or_eq_true, Bool.and_eq_true, decide_eq_true_eq]
  omega

end Go.Proofs.YtefjjcoaeanagaaDoor
