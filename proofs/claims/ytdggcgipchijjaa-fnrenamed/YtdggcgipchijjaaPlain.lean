/- Plain facts on lists of bytes and of strings; nothing of the program. -/
import Derived.WalkKit
import Derived.Lib.Hide
namespace Go.Proofs.Ytdggcgipchijjaa.Plain

theorem less_drop : ∀ (k : Nat) (a b : List UInt8), k ≤ a.length → k ≤ b.length → a.take k = b.take k →
    Op.bytesLess a b = Op.bytesLess (a.drop k) (b.drop k)
  | 0, _, _, _, _, _ => rfl
  | k + 1, [], _, h, _, _ => absurd h (by simp)
  | k + 1, _ :: _, [], _, h, _ => absurd h (by simp)
  | k + 1, x :: a, y :: b, ha, hb, h => by
    simp only [List.take_succ_cons, List.cons.injEq] at h
    obtain ⟨rfl, h⟩ := h
    have ih := less_drop k a b (by simpa using ha) (by simpa using hb) h
    simp only [List.drop_succ_cons, ← ih]
    simp [Op.bytesLess]

theorem less_at (k : Nat) (a b : List UInt8) (ha : k < a.length) (hb : k < b.length) (h : a.take k = b.take k) (hne : a[k] ≠ b[k]) :
    Op.bytesLess a b = decide (a[k] < b[k]) := by
  rw [less_drop k a b (by omega) (by omega) h, List.drop_eq_getElem_cons ha, List.drop_eq_getElem_cons hb]
  simp [Op.bytesLess, hne]

theorem less_end (k : Nat) (a b : List UInt8) (ha : k ≤ a.length) (hb : k ≤ b.length) (h : a.take k = b.take k) (he : k = a.length ∨ k = b.length) :
    Op.bytesLess a b = decide (a.length < b.length) := by
  rw [less_drop k a b ha hb h]
  rcases he with he | he
  · subst he
    rw [List.drop_length]
    rcases hd : b.drop a.length with _ | ⟨y, r⟩
    · have := congrArg List.length hd
      simp at this
      simp [Op.bytesLess]; omega
    · have := congrArg List.length hd
      simp at this
      simp [Op.bytesLess]; omega
  · subst he
    rw [List.drop_length]
    rcases hd : a.drop b.length with _ | ⟨y, r⟩ <;> simp [Op.bytesLess] <;> omega

theorem take_more (k : Nat) (a b : List UInt8) (ha : k < a.length) (hb : k < b.length) (h : a.take k = b.take k) (he : a[k] = b[k]) :
    a.take (k + 1) = b.take (k + 1) := by
  rw [List.take_succ_eq_append_getElem ha, List.take_succ_eq_append_getElem hb, h, he]

end Go.Proofs.Ytdggcgipchijjaa.Plain
