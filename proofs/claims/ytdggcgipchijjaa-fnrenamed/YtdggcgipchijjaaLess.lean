/- The order of texts by their bytes. -/
import Derived.WalkKit
import Derived.Lib.Strings
namespace Go.Proofs.Ytdggcgipchijjaa
open Go.RowKit

theorem less_trans : ∀ (a b c : List UInt8), Op.bytesLess a b = true → Op.bytesLess b c = true → Op.bytesLess a c = true
  | _, _, [], _, h => by simp [Op.bytesLess] at h
  | [], _, _ :: _, _, _ => by simp [Op.bytesLess]
  | _ :: _, [], _ :: _, h, _ => by simp [Op.bytesLess] at h
  | x :: a, y :: b, z :: c, h1, h2 => by
    simp only [Op.bytesLess, Bool.or_eq_true, Bool.and_eq_true, decide_eq_true_eq, beq_iff_eq] at h1 h2 ⊢
    rcases h1 with h1 | ⟨rfl, h1⟩
    · rcases h2 with h2 | ⟨rfl, h2⟩
      · exact .inl (UInt8.lt_trans h1 h2)
      · exact .inl h1
    · rcases h2 with h2 | ⟨rfl, h2⟩
      · exact .inl h2
      · exact .inr ⟨rfl, less_trans a b c h1 h2⟩

theorem less_total : ∀ (a b : List UInt8), Op.bytesLess a b = false → (a == b) = false → Op.bytesLess b a = true
  | a, [], _, h => by cases a <;> simp [Op.bytesLess] at h ⊢
  | [], _ :: _, h, _ => by simp [Op.bytesLess] at h
  | x :: a, y :: b, h1, h2 => by
    simp only [Op.bytesLess, Bool.or_eq_false_iff, decide_eq_false_iff_not] at h1
    simp only [Op.bytesLess, Bool.or_eq_true, Bool.and_eq_true, decide_eq_true_eq, beq_iff_eq]
    obtain ⟨hn, hr⟩ := h1
    by_cases hxy : x = y
    · subst hxy
      refine .inr ⟨rfl, less_total a b (by simpa using hr) ?_⟩
      rw [beq_eq_false_iff_ne] at h2 ⊢
      intro e
      exact h2 (by rw [e])
    · refine .inl ?_
      rw [UInt8.lt_iff_toNat_lt] at hn ⊢
      have : x.toNat ≠ y.toNat := fun e => hxy (UInt8.toNat_inj.1 e)
      omega

theorem less_irrefl (a : List UInt8) : Op.bytesLess a a = false := by
  induction a with
  | nil => rfl
  | cons x a ih => simp [Op.bytesLess, ih]

theorem less_asym (a b : List UInt8) (h : Op.bytesLess a b = true) : Op.bytesLess b a = false ∧ (a == b) = false := by
  constructor
  · cases h2 : Op.bytesLess b a with
    | false => rfl
    | true =>
      have := less_trans a b a h h2
      rw [less_irrefl] at this
      cases this
  · rw [beq_eq_false_iff_ne]
    rintro rfl
    rw [less_irrefl] at h
    cases h

/-- Of two texts one is ahead, or they are one. -/
theorem less_three (a b : List UInt8) : (Op.bytesLess a b = true ∧ Op.bytesLess b a = false ∧ (a == b) = false) ∨ (Op.bytesLess a b = false ∧ Op.bytesLess b a = true ∧ (a == b) = false) ∨ (Op.bytesLess a b = false ∧ Op.bytesLess b a = false ∧ (a == b) = true) := by
  cases h1 : Op.bytesLess a b with
  | true => exact .inl ⟨rfl, less_asym a b h1⟩
  | false =>
    cases h2 : (a == b) with
    | true =>
      have e : a = b := by simpa using h2
      subst e
      exact .inr (.inr ⟨rfl, h1, rfl⟩)
    | false => exact .inr (.inl ⟨rfl, less_total a b h1 h2, rfl⟩)

end Go.Proofs.Ytdggcgipchijjaa
