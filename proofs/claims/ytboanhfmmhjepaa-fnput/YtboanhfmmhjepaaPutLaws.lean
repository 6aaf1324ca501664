/- Plain facts on putting in and leaving out. -/
import Derived.Test.YtboanhfmmhjepaaRising3
import Derived.Test.YtboanhfmmhjepaaWithout
import Derived.Test.YtboanhfmmhjepaaHas
namespace Go.Proofs.Ytboanhfmmhjepaa
open Go.RowKit

theorem less_trans : ∀ (a b c : List UInt8), Op.bytesLess a b = true → Op.bytesLess b c = true → Op.bytesLess a c = true
  | _, _, [], _, h => by simp [Op.bytesLess] at h
  | [], _, _ :: _, _, _ => by simp [Op.bytesLess]
  | _ :: _, [], _ :: _, h, _ => by simp [Op.bytesLess] at h
  | x :: a, y :: b, z :: c, h1, h2 => by
    simp only [Op.bytesLess, Bool.or_eq_true, Bool.and_eq_true, decide_eq_true_eq, beq_iff_eq] at h1 h2 ⊢
    rcases h1 with h1 | ⟨rfl, h1⟩
    · rcases h2 with h2 | ⟨rfl, h2⟩
      · exact .inl (UInt8.lt_trans h1 h2)
      · exact .inl h1
    · rcases h2 with h2 | ⟨rfl, h2⟩
      · exact .inl h2
      · exact .inr ⟨rfl, less_trans a b c h1 h2⟩

theorem less_total : ∀ (a b : List UInt8), Op.bytesLess a b = false → (a == b) = false → Op.bytesLess b a = true
  | a, [], _, h => by cases a <;> simp [Op.bytesLess] at h ⊢
  | [], _ :: _, h, _ => by simp [Op.bytesLess] at h
  | x :: a, y :: b, h1, h2 => by
    simp only [Op.bytesLess, Bool.or_eq_false_iff, decide_eq_false_iff_not] at h1
    simp only [Op.bytesLess, Bool.or_eq_true, Bool.and_eq_true, decide_eq_true_eq, beq_iff_eq]
    obtain ⟨hn, hr⟩ := h1
    by_cases hxy : x = y
    · subst hxy
      refine .inr ⟨rfl, less_total a b (by simpa using hr) ?_⟩
      rw [beq_eq_false_iff_ne] at h2 ⊢
      intro e
      exact h2 (by rw [e])
    · refine .inl ?_
      rw [UInt8.lt_iff_toNat_lt] at hn ⊢
      have : x.toNat ≠ y.toNat := fun e => hxy (UInt8.toNat_inj.1 e)
      omega

theorem less_irrefl (a : List UInt8) : Op.bytesLess a a = false := by
  induction a with
  | nil => rfl
  | cons x a ih => simp [Op.bytesLess, ih]

theorem lessB_trans {a b c : ByteArray} (h1 : lessB a b = true) (h2 : lessB b c = true) : lessB a c = true := less_trans _ _ _ h1 h2

def rising (xs : List ByteArray) : Prop := xs.Pairwise fun a b => lessB a b = true

theorem risingB_iff (xs : List ByteArray) : risingB xs = true ↔ rising xs := by
  unfold risingB rising prs
  rw [List.all_eq_true, List.pairwise_iff_getElem]
  constructor
  · intro h
    have step : ∀ (d i : Nat) (hj : i + d + 1 < xs.length), lessB (xs[i]'(by omega)) xs[i + d + 1] = true := by
      intro d
      induction d with
      | zero =>
        intro i hj
        have := h (pairAt xs i) (List.mem_map.2 ⟨i, List.mem_range.2 (by omega), rfl⟩)
        rw [pairAt_eq xs i (by omega)] at this
        exact this
      | succ d ih =>
        intro i hj
        have h1 := ih i (by omega)
        have h2 := h (pairAt xs (i + d + 1)) (List.mem_map.2 ⟨i + d + 1, List.mem_range.2 (by omega), rfl⟩)
        rw [pairAt_eq xs (i + d + 1) (by omega)] at h2
        exact lessB_trans h1 h2
    intro i j hi hj hij
    have := step (j - i - 1) i (by omega)
    simpa [show i + (j - i - 1) + 1 = j by omega] using this
  · intro h x hx
    obtain ⟨j, hj, rfl⟩ := List.mem_map.1 hx
    have hj' := List.mem_range.1 hj
    rw [pairAt_eq xs j (by omega)]
    exact h j (j + 1) (by omega) (by omega) (by omega)

theorem hasB_iff (xs : List ByteArray) (s : ByteArray) : hasB xs s = true ↔ s ∈ xs := by
  unfold hasB
  rw [List.any_eq_true]
  constructor
  · rintro ⟨x, hx, he⟩
    rw [← ba_eq he]
    exact hx
  · intro h
    exact ⟨s, h, by simp⟩

theorem putL_has (xs : List ByteArray) (s : ByteArray) : hasB (putL xs s) s = true := by
  rw [hasB_iff]
  induction xs with
  | nil => simp [putL]
  | cons x r ih => rw [putL]; split <;> (try split) <;> simp [ih]

theorem woutL_hasnt (xs : List ByteArray) (s : ByteArray) : hasB (woutL xs s) s = false := by
  rw [Bool.eq_false_iff]
  intro h
  have := (List.mem_filter.1 ((hasB_iff _ _).1 h)).2
  simp at this

theorem putL_twice (xs : List ByteArray) (s : ByteArray) : putL (putL xs s) s = putL xs s := by
  induction xs with
  | nil => simp [putL, lessB, less_irrefl]
  | cons x r ih =>
    rw [putL]
    split
    · rename_i h; rw [putL, if_pos h, ih]
    · split
      · rw [putL, if_neg (by simp [lessB, less_irrefl]), if_pos (by simp)]
      · rw [putL, if_neg (by simp [lessB, less_irrefl]), if_pos (by simp)]

theorem woutL_putL (xs : List ByteArray) (s : ByteArray) : woutL (putL xs s) s = woutL xs s := by
  induction xs with
  | nil => simp [putL, woutL]
  | cons x r ih =>
    rw [putL]
    split
    · unfold woutL at ih ⊢
      rw [List.filter_cons, List.filter_cons, ih]
    · split
      · rename_i _ h; unfold woutL; rw [List.filter_cons_of_neg (by simp), List.filter_cons_of_neg (by simpa using h)]
      · unfold woutL; rw [List.filter_cons_of_neg (by simp)]

theorem putL_rising (xs : List ByteArray) (s : ByteArray) (h : rising xs) : rising (putL xs s) := by
  induction xs with
  | nil => simp [putL, rising]
  | cons x r ih =>
    obtain ⟨h1, h2⟩ := List.pairwise_cons.1 h
    rw [putL]
    split
    · rename_i hl
      refine List.pairwise_cons.2 ⟨fun y hy => ?_, ih h2⟩
      rcases putL_mem hy with rfl | hy
      · exact hl
      · exact h1 y hy
    · split
      · rename_i _ he
        have : x = s := ba_eq he
        subst this
        exact h
      · rename_i hl he
        have hsx : lessB s x = true := less_total _ _ (by simpa [lessB] using hl) (by simpa using he)
        refine List.pairwise_cons.2 ⟨fun y hy => ?_, h⟩
        rcases List.mem_cons.1 hy with rfl | hy
        · exact hsx
        · exact lessB_trans hsx (h1 y hy)

theorem woutL_rising (xs : List ByteArray) (s : ByteArray) (h : rising xs) : rising (woutL xs s) := List.Pairwise.filter _ h

end Go.Proofs.Ytboanhfmmhjepaa
