/- A right expression between two pairs of brackets. -/
import Derived.Test.YtgnillmhpockkaaGreatDoorMLexImplA
namespace Go.Proofs.YtgnillmhpockkaaGreatDoor
open Go.RowKit

theorem join_shut {ws : List (Nat × List UInt8)} (h : ws ≠ []) : joinW ((4, [40]) :: (ws ++ [(4, [41])])) = 40 :: (joinW ws ++ [41]) := by
  rw [join_cons (4, [40]) (ws ++ [(4, [41])]) (by simp) (.inl rfl), join_append_shut ws h]
  rfl

/-- Its words: two brackets more at both ends. -/
def twiceW (e : Ex) : List W := (4, [40]) :: (((4, [40]) :: (wordsE e 1 ++ [(4, [41])])) ++ [(4, [41])])

theorem twice_map (e : Ex) : (twiceW e).map wn = (4, [40]) :: (((4, [40]) :: ((wordsE e 1).map wn ++ [(4, [41])])) ++ [(4, [41])]) := by
  unfold twiceW
  simp only [List.map_cons, List.map_append, List.map_nil]
  rfl

theorem twice_reads {e : Ex} (hs : shapeE e = true) (hn : e.nodes ≤ 40) : ∃ ts, lexB (40 :: 40 :: (textE e 1 ++ [41, 41])) = .ok ts ∧ kt ts = (twiceW e).map wn := by
  have hne : (wordsE e 1).map wn ≠ [] := by
    intro h
    have := congrArg List.length h
    have hp := words_pos e 1
    simp at this
    rw [this] at hp
    simp at hp
  have hr : ∀ x ∈ (twiceW e).map wn, Right2 x.1 x.2 := by
    rw [twice_map]
    intro x hx
    simp only [List.cons_append, List.append_assoc, List.mem_cons, List.mem_append, List.not_mem_nil, or_false, false_or] at hx
    rcases hx with rfl | rfl | hx | rfl | rfl
    · exact sign1 (b := 40) (by decide)
    · exact sign1 (b := 40) (by decide)
    · exact words_right e.nodes e 1 (Nat.le_refl _) hs x hx
    · exact sign1 (b := 41) (by decide)
    · exact sign1 (b := 41) (by decide)
  obtain ⟨ts, h1, h2, h3⟩ := join_lex ((twiceW e).map wn) 0 hr
  have hj : joinW ((twiceW e).map wn) = 40 :: 40 :: (textE e 1 ++ [41, 41]) := by
    rw [twice_map, join_shut (by simp), join_shut hne]
    unfold textE
    simp
  have hl := text_len e.nodes e 1 (Nat.le_refl _) hs
  refine ⟨ts, ?_, h2⟩
  unfold lexB
  rw [if_neg (by simp only [List.length_cons, List.length_append, List.length_nil]; omega)]
  rw [← hj, h3, List.drop_zero, h1]

/-- It is read back from the first bracket, and from the second. -/
theorem twice_parse {e : Ex} (hs : shapeE e = true) (hn : e.nodes ≤ 40) :
    ∃ ts, lexB (40 :: 40 :: (textE e 1 ++ [41, 41])) = .ok ts ∧ 1 < (ts.map tkOf).length ∧ parseI (ts.map tkOf) 0 = some (e, (ts.map tkOf).length) ∧ parseI (ts.map tkOf) 1 = some (e, (ts.map tkOf).length - 1) := by
  obtain ⟨ts, h1, h2⟩ := twice_reads hs hn
  have hlen := text_len e.nodes e 1 (Nat.le_refl _) hs
  have hnn : ∀ x ∈ twiceW e, 0 ≤ x.1 := by
    unfold twiceW
    intro x hx
    simp only [List.cons_append, List.append_assoc, List.mem_cons, List.mem_append, List.not_mem_nil, or_false, false_or] at hx
    rcases hx with rfl | rfl | hx | rfl | rfl
    · decide
    · decide
    · exact words_nonneg e.nodes e 1 (Nat.le_refl _) x hx
    · decide
    · decide
  have hw := words_of_kt h2 hnn
  have hfew := toks_few h1
  simp only [List.length_cons, List.length_append, List.length_nil] at hfew
  have hl0 : left (ts.map tkOf) 0 = twiceW e := by unfold left; rw [List.drop_zero]; exact hw
  have hl1 : left (ts.map tkOf) 1 = (4, [40]) :: (wordsE e 1 ++ (4, [41]) :: [(4, [41])]) := by
    unfold left
    rw [List.map_drop, hw]
    unfold twiceW
    simp
  have hlw : (ts.map tkOf).length = (wordsE e 1).length + 4 := by
    have h := left_len (ts.map tkOf) 0
    rw [hl0] at h
    unfold twiceW at h
    simp only [List.length_cons, List.length_append, List.length_nil] at h
    omega
  have hb := (read_back e.nodes e (Nat.le_refl _) hs).1 1 (Nat.le_refl _) (by omega)
  have hp1 := paren_back (ws := wordsE e 1) (e := e) hb 1 (Nat.le_refl _) (by omega)
  have hp2 := paren_back (ws := (4, [40]) :: (wordsE e 1 ++ [(4, [41])])) (e := e) (by
    intro rest f hf hst
    have := hp1 rest f (by unfold enough at hf ⊢; simp only [List.length_cons, List.length_append, List.length_nil] at hf ⊢; omega) hst
    simpa using this) 1 (Nat.le_refl _) (by omega)
  have a0 : anyP (10 * (ts.map tkOf).length + 30) 1 (left (ts.map tkOf) 0) = some (e, []) := by
    have := hp2 [] (10 * (ts.map tkOf).length + 30) (by unfold enough; simp only [List.length_cons, List.length_append, List.length_nil]; omega) (stop_nil _)
    rw [hl0]
    unfold twiceW
    exact this
  have a1 : anyP (10 * (ts.map tkOf).length + 30) 1 (left (ts.map tkOf) 1) = some (e, [(4, [41])]) := by
    have := hp1 [(4, [41])] (10 * (ts.map tkOf).length + 30) (by unfold enough; simp only [List.length_cons, List.length_append, List.length_nil]; omega) (stop_shut _ _)
    rw [hl1]
    exact this
  have hle : (ts.map tkOf).length ≤ 20000 := by rw [List.length_map]; omega
  have q0 := parse_of (i := 0) hle (by omega) (fine_left h1 0) (Nat.le_refl _) a0 hs hn
  have q1 := parse_of (i := 1) hle (by omega) (fine_left h1 1) (Nat.le_refl _) a1 hs hn
  rw [List.length_nil, Nat.sub_zero] at q0
  exact ⟨ts, h1, by omega, q0, q1⟩

end Go.Proofs.YtgnillmhpockkaaGreatDoor
