/- spec.Spell and impl.Spell both answer the spelt words with blanks between them. -/
import Derived.Test.YtgnillmhpockkaaGreatDoorMSpcB
import Derived.Test.YtgnillmhpockkaaGreatDoorMOkW
namespace Go.Proofs.YtgnillmhpockkaaGreatDoor
open Go.RowKit

def sword (x : Tk) : Option ByteArray :=
  if x.kind = 0 ∨ x.kind = 2 ∨ x.kind = 4 then some x.text else if x.kind = 1 then some (quoteT x.text 34) else if x.kind = 3 then some (quoteT x.text 39) else none
def swords (xs : List Tk) : List ByteArray := xs.filterMap sword
def blankT : ByteArray := ⟨#[32]⟩
def spellT (xs : List Tk) : ByteArray := joinT (swords xs) blankT

theorem swords_some (xs : List Tk) (k : Nat) (h : k < xs.length) {t : ByteArray} (e : sword xs[k] = some t) : swords (xs.take (k + 1)) = swords (xs.take k) ++ [t] := by
  unfold swords
  rw [List.take_succ_eq_append_getElem h, List.filterMap_append]
  simp [e]
theorem swords_none (xs : List Tk) (k : Nat) (h : k < xs.length) (e : sword xs[k] = none) : swords (xs.take (k + 1)) = swords (xs.take k) := by
  unfold swords
  rw [List.take_succ_eq_append_getElem h, List.filterMap_append]
  simp [e]

theorem quoteT_size (s : ByteArray) (q : UInt8) : (quoteT s q).size ≤ 2 * s.size + 2 := by
  have h := dbl_len q s.data.toList
  have e : (quoteT s q).size = (quoteL q s.data.toList).length := by simp [quoteT, ByteArray.size]
  have e2 : (quoteL q s.data.toList).length = (dbl q s.data.toList).length + 2 := by simp [quoteL, dbl]
  have e3 : s.data.toList.length = s.size := by simp
  omega

theorem sword_size {x : Tk} {t : ByteArray} (h : sword x = some t) : t.size ≤ 2 * x.text.size + 2 := by
  unfold sword at h
  have h1 := quoteT_size x.text 34
  have h2 := quoteT_size x.text 39
  split at h
  · cases h; omega
  · split at h
    · cases h; omega
    · split at h
      · cases h; omega
      · cases h

theorem swords_len (xs : List Tk) (k : Nat) : (swords (xs.take k)).length ≤ k := by
  unfold swords
  exact Nat.le_trans (List.length_filterMap_le _ _) (List.length_take_le _ _)

theorem lets_append (xs ys : List ByteArray) : lets (xs ++ ys) = lets xs + lets ys := by simp [lets]

theorem swords_lets (xs : List Tk) : ∀ k, k ≤ xs.length → lets (swords (xs.take k)) ≤ 2 * tlets (xs.take k) + 2 * k
  | 0, _ => by simp [swords, lets]
  | k + 1, h => by
    have ih := swords_lets xs k (by omega)
    rw [tlets_take xs k (by omega)]
    cases e : sword xs[k] with
    | none => rw [swords_none xs k (by omega) e]; omega
    | some t =>
      have := sword_size e
      rw [swords_some xs k (by omega) e, lets_append]
      have e1 : lets [t] = t.size := by simp [lets]
      omega

theorem swords_fit (xs : List Tk) (h : xs.length + tlets xs ≤ 1048576) : ∀ s ∈ swords xs, s.size ≤ maxLen := by
  intro s hs
  have h1 := swords_lets xs xs.length (Nat.le_refl _)
  rw [List.take_length] at h1
  have h2 := lets_mem hs
  unfold maxLen
  omega

theorem fitTake (xs : List Tk) (h : xs.length + tlets xs ≤ 1048576) (k : Nat) : ∀ s ∈ swords (xs.take k), s.size ≤ maxLen := by
  refine swords_fit _ ?_
  have h1 := tlets_le xs k
  have h2 : (xs.take k).length ≤ xs.length := by rw [List.length_take]; omega
  omega

/-- The kinds of a word, as the tests see them. -/
theorem kindCases (n : Int) :
    ((n == 0) = true ∧ n = 0) ∨ ((n == 0) = false ∧ (n == 2) = true ∧ n = 2) ∨ ((n == 0) = false ∧ (n == 2) = false ∧ (n == 4) = true ∧ n = 4) ∨
    ((n == 0) = false ∧ (n == 2) = false ∧ (n == 4) = false ∧ (n == 1) = true ∧ n = 1) ∨ ((n == 0) = false ∧ (n == 2) = false ∧ (n == 4) = false ∧ (n == 1) = false ∧ (n == 3) = true ∧ n = 3) ∨
    ((n == 0) = false ∧ (n == 2) = false ∧ (n == 4) = false ∧ (n == 1) = false ∧ (n == 3) = false) := by
  by_cases h0 : n = 0
  · left; subst h0; simp
  by_cases h2 : n = 2
  · right; left; subst h2; simp
  by_cases h4 : n = 4
  · right; right; left; subst h4; simp
  by_cases h1 : n = 1
  · right; right; right; left; subst h1; simp
  by_cases h3 : n = 3
  · right; right; right; right; left; subst h3; simp
  · right; right; right; right; right; simp [h0, h1, h2, h3, h4]

theorem size_alloc (w : World) (o : Obj) : (w.alloc o).heap.size = w.heap.size + 1 := by simp

theorem joinFits (xs : List Tk) (h : xs.length + tlets xs ≤ 1048576) : lets (swords xs) + (swords xs).length * blankT.size ≤ 70368744177664 := by
  have h1 := swords_lets xs xs.length (Nat.le_refl _)
  have h2 := swords_len xs xs.length
  rw [List.take_length] at h1 h2
  have e : blankT.size = 1 := rfl
  rw [e]
  omega

end Go.Proofs.YtgnillmhpockkaaGreatDoor
