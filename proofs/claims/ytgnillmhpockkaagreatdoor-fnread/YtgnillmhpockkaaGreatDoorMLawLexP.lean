/- What FnLex asks of the words: their spelling, and how long they are together. -/
import Derived.Test.YtgnillmhpockkaaGreatDoorMLexImplA
import Derived.Test.YtgnillmhpockkaaGreatDoorMSpell
namespace Go.Proofs.YtgnillmhpockkaaGreatDoor
open Go.RowKit

theorem gap_le (c : Bool) (l : List UInt8) : gap c l ≤ l.length := by
  rcases gap_tail l c with h | h
  · exact Nat.le_of_lt h.1
  · exact Nat.le_of_eq h.1

theorem lexAt_sum : ∀ (m : Nat) (p : Nat) (l : List UInt8) (ts : List Tok), l.length ≤ m → lexAt p l = .ok ts → (ts.map fun x => x.text.length).sum ≤ l.length
  | 0, p, l, ts, hm, h => by
    obtain rfl : l = [] := List.eq_nil_of_length_eq_zero (by omega)
    rw [lexAt_nil] at h
    cases h
    exact Nat.le_refl _
  | m + 1, p, l, ts, hm, h => by
    by_cases h0 : l = []
    · subst h0
      rw [lexAt_nil] at h
      cases h
      exact Nat.le_refl _
    · cases h1 : one l with
      | none => rw [lexAt_bad h0 h1] at h; cases h
      | some y =>
        obtain ⟨k, t, n⟩ := y
        rw [lexAt_one h1] at h
        cases h2 : lexAt (p + n + gap false (l.drop n)) ((l.drop n).drop (gap false (l.drop n))) with
        | error e => rw [h2] at h; cases h
        | ok us =>
          rw [h2] at h
          cases h
          have hpos := one_pos h1
          have hle := one_le h1
          have ih := lexAt_sum m _ _ us (by simp only [List.length_drop]; omega) h2
          simp only [List.length_drop] at ih
          simp only [List.map_append, List.map_cons, List.map_nil, List.sum_append, List.sum_cons, List.sum_nil]
          omega

theorem lexB_sum {l : List UInt8} {ts : List Tok} (h : lexB l = .ok ts) : (ts.map fun x => x.text.length).sum ≤ l.length := by
  unfold lexB at h
  split at h
  · cases h
  · have := lexAt_sum _ _ _ ts (Nat.le_refl _) h
    simp only [List.length_drop] at this
    omega

theorem lexAt_error : ∀ (m : Nat) (p : Nat) (l : List UInt8) (e : Nat), l.length ≤ m → lexAt p l = .error e → e ≤ p + l.length
  | 0, p, l, e, hm, h => by
    obtain rfl : l = [] := List.eq_nil_of_length_eq_zero (by omega)
    rw [lexAt_nil] at h
    cases h
  | m + 1, p, l, e, hm, h => by
    by_cases h0 : l = []
    · subst h0
      rw [lexAt_nil] at h
      cases h
    · cases h1 : one l with
      | none => rw [lexAt_bad h0 h1] at h; cases h; omega
      | some y =>
        obtain ⟨k, t, n⟩ := y
        rw [lexAt_one h1] at h
        cases h2 : lexAt (p + n + gap false (l.drop n)) ((l.drop n).drop (gap false (l.drop n))) with
        | ok us => rw [h2] at h; cases h
        | error e' =>
          rw [h2] at h
          cases h
          have hpos := one_pos h1
          have hle := one_le h1
          have hg := gap_le false (l.drop n)
          have ih := lexAt_error m _ _ e (by simp only [List.length_drop]; omega) h2
          simp only [List.length_drop] at ih hg
          omega

theorem lexB_error {l : List UInt8} {e : Nat} (h : lexB l = .error e) : e ≤ l.length := by
  unfold lexB at h
  split at h
  · cases h; omega
  · have := lexAt_error _ _ _ e (Nat.le_refl _) h
    have hg := gap_le false l
    simp only [List.length_drop] at this
    omega

theorem lexB_short {l : List UInt8} {ts : List Tok} (h : lexB l = .ok ts) : l.length ≤ 20000 := by
  unfold lexB at h
  split at h
  · cases h
  · omega

theorem tlets_toks (ts : List Tok) : tlets (ts.map tkOf) = (ts.map fun x => x.text.length).sum := by
  unfold tlets
  rw [List.map_map]
  refine congrArg List.sum (List.map_congr_left fun x _ => ?_)
  exact List.size_toArray

theorem toks_bd {s : ByteArray} {ts : List Tok} (h : lexB s.data.toList = .ok ts) : (ts.map tkOf).length + tlets (ts.map tkOf) ≤ 1048576 := by
  have h1 := lexB_sum h
  have h2 := lexB_short h
  rw [tlets_toks, List.length_map]
  rcases placed_count (lexB_placed h) with rfl | h3
  · simp
  · omega

/-- The spelling of a word. -/
theorem sword_sp {x : Tok} (h : x.kind ≤ 4) : sword (tkOf x) = some ⟨(sp x.kind x.text).toArray⟩ := by
  obtain ⟨k, t, p⟩ := x
  simp only at h
  have : k = 0 ∨ k = 1 ∨ k = 2 ∨ k = 3 ∨ k = 4 := by omega
  rcases this with rfl | rfl | rfl | rfl | rfl <;> simp [sword, tkOf, sp, quoteT]

theorem swords_sp {ts : List Tok} (h : ∀ x ∈ ts, x.kind ≤ 4) : (swords (ts.map tkOf)).map (·.data.toList) = ts.map fun x => sp x.kind x.text := by
  induction ts with
  | nil => rfl
  | cons x r ih =>
    have h1 := sword_sp (h x (List.mem_cons_self ..))
    have h2 := ih fun y hy => h y (List.mem_cons_of_mem _ hy)
    unfold swords at h2 ⊢
    rw [List.map_cons, List.filterMap_cons, h1]
    simp only [List.map_cons, h2]

theorem join_spell : ∀ (ts : List Tok), Lib.join (ts.map fun x => sp x.kind x.text) [32] = spellR (kt ts)
  | [] => rfl
  | [x] => by simp [Lib.join_one, spellR, kt]
  | x :: y :: r => by
    have ih := join_spell (y :: r)
    have e : spellR (kt (x :: y :: r)) = sp x.kind x.text ++ 32 :: spellR (kt (y :: r)) := rfl
    rw [e, ← ih, List.map_cons, List.map_cons, Lib.join_cons, Lib.join_cons]
    simp [Lib.joinTail]

theorem spellT_eq {ts : List Tok} (h : ∀ x ∈ ts, x.kind ≤ 4) : (spellT (ts.map tkOf)).data.toList = spellR (kt ts) := by
  unfold spellT joinT joinL
  rw [swords_sp h]
  exact join_spell ts

theorem spell_lex {s : ByteArray} {ts : List Tok} (h : lexB s.data.toList = .ok ts) (hz : (spellT (ts.map tkOf)).size ≤ 20000) :
    ∃ us, lexB (spellT (ts.map tkOf)).data.toList = .ok us ∧ kt us = kt ts := by
  have hr := lexB_right h
  have he := spellT_eq fun x hx => right_kind (hr x hx)
  have hl : (spellT (ts.map tkOf)).data.toList.length = (spellT (ts.map tkOf)).size := by simp
  obtain ⟨us, h1, h2, h3⟩ := spell_back (kt ts) 0 (fun x hx => by
    obtain ⟨y, hy, rfl⟩ := List.mem_map.1 hx
    exact hr y hy)
  refine ⟨us, ?_, h2⟩
  rw [he] at hl ⊢
  unfold lexB
  rw [if_neg (by omega), h3, List.drop_zero, h1]

theorem kt_same {us ts : List Tok} (h : kt us = kt ts) : us.length = ts.length ∧ ∀ (k : Nat) (h1 : k < us.length) (h2 : k < ts.length), us[k].kind = ts[k].kind ∧ us[k].text = ts[k].text := by
  have hl : us.length = ts.length := by have := congrArg List.length h; simpa [kt] using this
  refine ⟨hl, fun k h1 h2 => ?_⟩
  have := congrArg (fun l => l[k]?) h
  simp [kt, h1, h2] at this
  exact this

theorem kt_spell {us ts : List Tok} (h : kt us = kt ts) : spellT (us.map tkOf) = spellT (ts.map tkOf) ∧ (us.map tkOf).length + tlets (us.map tkOf) = (ts.map tkOf).length + tlets (ts.map tkOf) := by
  have hl := (kt_same h).1
  have e1 : ∀ l : List Tok, swords (l.map tkOf) = (kt l).filterMap fun x => sword (tkOf ⟨x.1, x.2, 0⟩) := by
    intro l
    unfold swords kt
    rw [List.filterMap_map, List.filterMap_map]
    rfl
  have e2 : ∀ l : List Tok, (l.map fun x => x.text.length).sum = ((kt l).map fun x => x.2.length).sum := by
    intro l
    unfold kt
    rw [List.map_map]
    rfl
  refine ⟨by unfold spellT; rw [e1, e1, h], ?_⟩
  rw [tlets_toks, tlets_toks, e2, e2, h, List.length_map, List.length_map, hl]

end Go.Proofs.YtgnillmhpockkaaGreatDoor
