/- Expressions: what is written is read back. -/
import Derived.Test.YtefjjcoaeanagaaDoorMLexM
import Derived.Test.YtefjjcoaeanagaaDoorMQuoteSpec
import Derived.Test.YtefjjcoaeanagaaDoorMDecText
namespace Go.Proofs.YtefjjcoaeanagaaDoor

def kidsK (k : Int) : Int := if k < 0 ∨ 18 < k then -1 else if k ≤ 5 then 0 else if k ≤ 7 then 1 else 2

/-- What one node asks for, but for its kids' own shape. -/
def node1 (k : Int) (t : ByteArray) (n : Int) (m : Nat) : Bool :=
  decide ((m : Int) = kidsK k) && (if k = 0 then nameB t.data.toList else if k = 2 then decide (t.size ≤ 100) else t.toList.isEmpty) && (if k = 1 then decide (0 ≤ n ∧ n ≤ 999999999) else decide (n = 0))

mutual
def shapeE : Ex → Bool
  | .mk k t n kids => node1 k t n kids.length && shapeL kids
def shapeL : List Ex → Bool
  | [] => true
  | e :: r => shapeE e && shapeL r
end

def leafW (k : Int) (t : ByteArray) (n : Int) : W :=
  if k = 0 then (if plainB t.data.toList && !keptB t.data.toList then (0, t.data.toList) else (1, t.data.toList))
  else if k = 1 then (2, Lib.itoa n) else if k = 2 then (3, t.data.toList) else if k = 3 then (0, wTrue) else if k = 4 then (0, wFalse) else (0, wNull)

def firstK (k : Int) : Nat := if bindsK k = 4 then 5 else bindsK k
def signW (k : Int) : W := (if k = 8 ∨ k = 9 then 0 else 4, signK k)

def wordsE : Ex → Nat → List W
  | .mk k t n [], least => if bindsK k < least then (4, [40]) :: (leafW k t n :: [(4, [41])]) else [leafW k t n]
  | .mk k _ _ [a], least =>
    if k = 6 then (if bindsK k < least then (4, [40]) :: ((0, wNot) :: wordsE a 3 ++ [(4, [41])]) else (0, wNot) :: wordsE a 3)
    else (if bindsK k < least then (4, [40]) :: (wordsE a 5 ++ [(0, wIs), (0, wNull)] ++ [(4, [41])]) else wordsE a 5 ++ [(0, wIs), (0, wNull)])
  | .mk k _ _ (a :: b :: _), least =>
    if bindsK k < least then (4, [40]) :: (wordsE a (firstK k) ++ signW k :: wordsE b (bindsK k + 1) ++ [(4, [41])]) else wordsE a (firstK k) ++ signW k :: wordsE b (bindsK k + 1)

theorem words_pos (e : Ex) (L : Nat) : 0 < (wordsE e L).length := by
  obtain ⟨k, t, n, kids⟩ := e
  match kids with
  | [] => rw [wordsE]; split <;> simp
  | [a] => rw [wordsE]; split <;> split <;> simp
  | a :: b :: r => rw [wordsE]; split <;> (simp; try omega)

/-- The brackets that are wanted. -/
theorem words_in {e : Ex} {L : Nat} (h : bindsK e.kind < L) : wordsE e L = (4, [40]) :: (wordsE e 1 ++ [(4, [41])]) := by
  obtain ⟨k, t, n, kids⟩ := e
  have h1 : ¬ bindsK k < 1 := by unfold bindsK; (repeat' split) <;> omega
  have h2 : bindsK k < L := h
  match kids with
  | [] => rw [wordsE, wordsE, if_pos h2, if_neg h1]; rfl
  | [a] =>
    rw [wordsE, wordsE]
    by_cases hk : k = 6
    · rw [if_pos hk, if_pos hk, if_pos h2, if_neg h1]
    · rw [if_neg hk, if_neg hk, if_pos h2, if_neg h1]
  | a :: b :: r => rw [wordsE, wordsE, if_pos h2, if_neg h1]

theorem words_out {e : Ex} {L L' : Nat} (h : ¬ bindsK e.kind < L) (h' : ¬ bindsK e.kind < L') : wordsE e L = wordsE e L' := by
  obtain ⟨k, t, n, kids⟩ := e
  have h1 : ¬ bindsK k < L := h
  have h2 : ¬ bindsK k < L' := h'
  match kids with
  | [] => rw [wordsE, wordsE, if_neg h1, if_neg h2]
  | [a] =>
    rw [wordsE, wordsE]
    by_cases hk : k = 6
    · rw [if_pos hk, if_pos hk, if_neg h1, if_neg h2]
    · rw [if_neg hk, if_neg hk, if_neg h1, if_neg h2]
  | a :: b :: r => rw [wordsE, wordsE, if_neg h1, if_neg h2]

/-- Nothing of strength L or more goes on here. -/
def Stop (L : Nat) (rest : List W) : Prop := ∀ x r, rest = x :: r → (∀ b, L ≤ b → b ≤ 6 → nextK x b = none) ∧ (L ≤ 4 → isW x wIs = false)

theorem Stop.mono {L L' : Nat} {rest : List W} (h : Stop L rest) (hl : L ≤ L') : Stop L' rest := fun x r e =>
  ⟨fun b hb hb' => (h x r e).1 b (by omega) hb', fun h4 => (h x r e).2 (by omega)⟩
theorem stop_nil (L : Nat) : Stop L [] := fun _ _ e => by cases e

theorem loop_stop {f L : Nat} {e : Ex} {rest : List W} (h : Stop L rest) (hL : L ≤ 6) : loopP f L e rest = (e, rest) := by
  cases f with
  | zero => rw [loopP]
  | succ f =>
    cases rest with
    | nil => rw [loopP]
    | cons x r =>
      obtain ⟨h1, h2⟩ := h x r rfl
      rw [loopP]
      rw [if_neg (by rintro ⟨rfl, h3, _⟩; rw [h2 (by omega)] at h3; cases h3), h1 L (Nat.le_refl _) hL]

def RTat (e : Ex) (L : Nat) : Prop := ∀ rest f, enough f L (wordsE e L ++ rest) → Stop L rest → anyP f L (wordsE e L ++ rest) = some (e, rest)
def Aat (e : Ex) (L : Nat) : Prop := ∀ rest f, enough f L (wordsE e L ++ rest) → Stop (L + 1) rest → ∃ f', enoughL f' L rest ∧ anyP f L (wordsE e L ++ rest) = some (loopP f' L e rest)

/-- One level down, where e is no sum of that level itself. -/
theorem step_down {e : Ex} {L : Nat} (hL : L ≤ 6) (hw : wordsE e L = wordsE e (L + 1)) (hn : L = 3 → ∀ rest, hdW (wordsE e L ++ rest) wNot = false) (h : RTat e (L + 1)) : Aat e L := by
  intro rest f hf hs
  have hp := words_pos e L
  unfold enough at hf
  rw [List.length_append] at hf
  obtain ⟨f, rfl⟩ : ∃ g, f = g + 1 := ⟨f - 1, by omega⟩
  refine ⟨f, by unfold enoughL; omega, ?_⟩
  rw [anyP, if_neg (by omega), if_neg (by rintro ⟨h3, h4⟩; rw [hn h3 rest] at h4; cases h4), hw]
  have := h rest f (by unfold enough; rw [← hw, List.length_append]; omega) hs
  rw [this]

theorem rt_of_a {e : Ex} {L : Nat} (hL : L ≤ 6) (h : Aat e L) : RTat e L := by
  intro rest f hf hs
  obtain ⟨f', _, h2⟩ := h rest f hf (hs.mono (by omega))
  rw [h2, loop_stop hs hL]

end Go.Proofs.YtefjjcoaeanagaaDoor
