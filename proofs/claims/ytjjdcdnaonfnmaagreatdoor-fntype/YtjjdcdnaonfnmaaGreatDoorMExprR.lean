/- Expressions: what is written is read back: the theorem. -/
/- Expressions: what is written is read back, every expression. -/
/- Expressions: their text is read as their words. -/
/- Expressions: their text. -/
/- Expressions: the text of an expression is read as its words, and those as the expression. -/
/- The model's one word at a place: the walk. -/
/- The model's one word at a place: the walk. -/
/- One word put behind a row of words that the call itself has made. -/
/- The model's words of a text. -/
/- Types: the text of a right type is read as its words. -/
import Derived.Test.YtjjdcdnaonfnmaaGreatDoorMPutNameS
import Derived.Test.YtjjdcdnaonfnmaaGreatDoorMLexImpl1
import Derived.Test.YtjjdcdnaonfnmaaGreatDoorMMem
import Derived.Maps.AppendAt
import Derived.Test.YtjjdcdnaonfnmaaGreatDoorMLexQ
namespace Go.Proofs.YtjjdcdnaonfnmaaGreatDoor

theorem binds_range (k : Int) : 1 ≤ bindsK k ∧ bindsK k ≤ 7 := by unfold bindsK; (repeat' split) <;> omega

/-- A sign of two kids, and no other. -/
theorem sign_next : ∀ k ∈ ([8, 9, 10, 11, 12, 13, 14, 15, 16, 17, 18] : List Int), ∀ b, b < 7 → nextK (signW k) b = if b = bindsK k then some k else none := by decide
theorem sign_is : ∀ k ∈ ([8, 9, 10, 11, 12, 13, 14, 15, 16, 17, 18] : List Int), isW (signW k) wIs = false := by decide
theorem shut_next : ∀ b, b < 7 → nextK (4, [41]) b = none := by decide
theorem is_next : ∀ b, b < 7 → nextK (0, wIs) b = none := by decide

theorem two_mem {k : Int} (h : kidsK k = 2) : k ∈ ([8, 9, 10, 11, 12, 13, 14, 15, 16, 17, 18] : List Int) := by
  unfold kidsK at h
  have : 8 ≤ k ∧ k ≤ 18 := by
    split at h
    · omega
    · split at h
      · omega
      · split at h <;> omega
  have hc : k = 8 ∨ k = 9 ∨ k = 10 ∨ k = 11 ∨ k = 12 ∨ k = 13 ∨ k = 14 ∨ k = 15 ∨ k = 16 ∨ k = 17 ∨ k = 18 := by omega
  rcases hc with rfl | rfl | rfl | rfl | rfl | rfl | rfl | rfl | rfl | rfl | rfl <;> decide

theorem stop_sign {k : Int} (hk : k ∈ ([8, 9, 10, 11, 12, 13, 14, 15, 16, 17, 18] : List Int)) (r : List W) : Stop (bindsK k + 1) (signW k :: r) := by
  intro x q e
  cases e
  refine ⟨fun b hb hb' => ?_, fun _ => sign_is k hk⟩
  rw [sign_next k hk b (by omega), if_neg (by omega)]

theorem stop_shut (L : Nat) (r : List W) : Stop L ((4, [41]) :: r) := by
  intro x q e
  cases e
  exact ⟨fun b _ hb' => shut_next b (by omega), fun _ => by decide⟩

theorem stop_is (r : List W) : Stop 5 ((0, wIs) :: r) := by
  intro x q e
  cases e
  exact ⟨fun b _ hb' => is_next b (by omega), fun h => by omega⟩

/-- The words of e do not begin with a not, unless e is one. -/
theorem head_not : ∀ (n : Nat) (e : Ex), e.nodes ≤ n → shapeE e = true → 4 ≤ bindsK e.kind → ∀ rest, hdW (wordsE e 1 ++ rest) wNot = false := by
  intro n
  induction n with
  | zero => intro e h; rw [Ex.nodes_eq] at h; omega
  | succ n ih =>
    intro e hn hs hb rest
    obtain ⟨k, t, m, kids⟩ := e
    rw [Ex.nodes_eq] at hn
    have hb' : 4 ≤ bindsK k := hb
    have h1 : ¬ bindsK k < 1 := by omega
    rw [shapeE, Bool.and_eq_true] at hs
    have inner : ∀ (a : Ex) (L : Nat) (q : List W), 4 ≤ L → a.nodes ≤ n → shapeE a = true → hdW (wordsE a L ++ q) wNot = false := fun a L q hL ha hsa => by
      by_cases hp : bindsK a.kind < L
      · rw [words_in hp]; rfl
      · rw [words_out hp (show ¬ bindsK a.kind < 1 by omega)]
        exact ih a ha hsa (by omega) q
    match kids, hs, hn with
    | [], hs, _ =>
      rw [wordsE, if_neg h1]
      have hn1 := hs.1
      show isW (leafW k t m) wNot = false
      unfold leafW
      split
      · rename_i hk0
        split
        · rename_i hpl
          rw [Bool.and_eq_true, Bool.not_eq_true'] at hpl
          unfold isW
          cases hq : (t.data.toList == wNot) with
          | false => simp [hq]
          | true =>
            have : t.data.toList = wNot := by simpa using hq
            rw [this] at hpl
            exact absurd hpl.2 (by decide)
        · rfl
      · split
        · rfl
        · split
          · rfl
          · split
            · rfl
            · split <;> rfl
    | [a], hs, hn =>
      have hsa : shapeE a = true := by have := hs.2; rw [shapeL, Bool.and_eq_true] at this; exact this.1
      have hna : a.nodes ≤ n := by change 1 + nodesL [a] ≤ n + 1 at hn; rw [nodesL, nodesL] at hn; omega
      rw [wordsE]
      by_cases hk : k = 6
      · subst hk; exact absurd hb' (by decide)
      · rw [if_neg hk, if_neg h1, List.append_assoc]
        exact inner a 5 _ (by omega) hna hsa
    | a :: b :: r, hs, hn =>
      have hsa : shapeE a = true := by have := hs.2; rw [shapeL, Bool.and_eq_true] at this; exact this.1
      have hna : a.nodes ≤ n := by change 1 + nodesL (a :: b :: r) ≤ n + 1 at hn; rw [nodesL] at hn; omega
      rw [wordsE, if_neg h1, List.append_assoc]
      exact inner a _ _ (by unfold firstK; split <;> omega) hna hsa

/-- From the strength of e itself to every one. -/
theorem all_levels {e : Ex} (hs : shapeE e = true) (own : RTat e (bindsK e.kind)) : ∀ L, 1 ≤ L → L ≤ 7 → RTat e L := by
  have hr := binds_range e.kind
  have notIn : ∀ L, bindsK e.kind < L → ∀ rest, hdW (wordsE e L ++ rest) wNot = false := fun L h rest => by rw [words_in h]; rfl
  have down : ∀ d L, L + d = bindsK e.kind → 1 ≤ L → RTat e L := by
    intro d
    induction d with
    | zero => intro L h _; have : L = bindsK e.kind := by omega
              rw [this]; exact own
    | succ d ih =>
      intro L h hL
      refine rt_of_a (by omega) (step_down (by omega) (words_out (by omega) (by omega)) ?_ (ih (L + 1) (by omega) (by omega)))
      intro h3 rest
      rw [words_out (L := L) (L' := 1) (by omega) (by omega)]
      exact head_not _ e (Nat.le_refl _) hs (by omega) rest
  have one : RTat e 1 := down (bindsK e.kind - 1) 1 (by omega) (Nat.le_refl _)
  have top : bindsK e.kind < 7 → RTat e 7 := by
    intro h rest f hf _
    rw [words_in h] at hf ⊢
    unfold enough at hf
    simp only [List.cons_append, List.append_assoc, List.length_cons, List.length_append, List.length_nil] at hf ⊢
    obtain ⟨f, rfl⟩ : ∃ g, f = g + 2 := ⟨f - 2, by omega⟩
    rw [anyP, if_pos rfl, atomP, if_neg (by decide), if_neg (by decide), if_neg (by decide), if_neg (by decide), if_neg (by decide), if_neg (by decide), if_pos (by decide)]
    have h2 := one ((4, [41]) :: ([] ++ rest)) f (by unfold enough; simp only [List.length_append, List.length_cons, List.nil_append]; omega) (stop_shut 1 _)
    simp only [List.nil_append] at h2 ⊢
    rw [h2]
    rfl
  have up : ∀ d L, L + d = 7 → bindsK e.kind < L → RTat e L := by
    intro d
    induction d with
    | zero => intro L h hb; have : L = 7 := by omega
              subst this; exact top hb
    | succ d ih =>
      intro L h hb
      exact rt_of_a (by omega) (step_down (by omega) (by rw [words_in hb, words_in (show bindsK e.kind < L + 1 by omega)]) (fun _ => notIn L hb) (ih (L + 1) (by omega) (by omega)))
  intro L h1 h7
  by_cases h : L ≤ bindsK e.kind
  · exact down (bindsK e.kind - L) L (by omega) h1
  · exact up (7 - L) L (by omega) (by omega)

/-- .. and ahead of more of that strength. -/
theorem all_sums {e : Ex} (hall : ∀ L, 1 ≤ L → L ≤ 7 → RTat e L) {L : Nat} (h1 : 1 ≤ L) (h6 : L ≤ 6) (h3 : L ≠ 3) (hne : L ≠ bindsK e.kind) : Aat e L := by
  refine step_down h6 ?_ (fun h => absurd h h3) (hall (L + 1) (by omega) (by omega))
  by_cases hb : bindsK e.kind < L
  · rw [words_in hb, words_in (show bindsK e.kind < L + 1 by omega)]
  · exact words_out hb (by omega)

end Go.Proofs.YtjjdcdnaonfnmaaGreatDoor

namespace Go.Proofs.YtjjdcdnaonfnmaaGreatDoor

theorem txt_data (t : ByteArray) : txt t.data.toList = t := by
  obtain ⟨⟨l⟩⟩ := t
  rfl

theorem txt_empty {t : ByteArray} (h : t.toList.isEmpty = true) : t = txt [] := by
  have : t.data.toList = [] := by rw [← Lib.toList_data]; exact List.isEmpty_iff.1 h
  rw [← txt_data t, this]

theorem zero_kids {k : Int} (h : kidsK k = 0) : k = 0 ∨ k = 1 ∨ k = 2 ∨ k = 3 ∨ k = 4 ∨ k = 5 := by
  unfold kidsK at h
  split at h
  · omega
  · split at h
    · omega
    · split at h <;> omega

theorem one_kid {k : Int} (h : kidsK k = 1) : k = 6 ∨ k = 7 := by
  unfold kidsK at h
  split at h
  · omega
  · split at h
    · omega
    · split at h <;> omega

/-- A leaf is read from its word. -/
theorem leaf_back {k : Int} {t : ByteArray} {n : Int} (h : node1 k t n 0 = true) (f : Nat) (rest : List W) : atomP (f + 1) (leafW k t n :: rest) = some (.mk k t n [], rest) := by
  unfold node1 at h
  simp only [Bool.and_eq_true] at h
  obtain ⟨⟨hk, ht⟩, hn⟩ := h
  have hk0 : kidsK k = 0 := by simpa using (of_decide_eq_true hk).symm
  rcases zero_kids hk0 with rfl | rfl | rfl | rfl | rfl | rfl
  · have hn0 : n = 0 := by simpa using hn
    subst hn0
    unfold leafW
    rw [if_pos rfl]
    split
    · rename_i hp
      rw [Bool.and_eq_true, Bool.not_eq_true'] at hp
      rw [atomP, if_neg (by simp), if_neg (by simp), if_pos (.inr ⟨rfl, hp.2⟩)]
      rw [leaf, txt_data]
    · rw [atomP, if_neg (by simp), if_neg (by simp), if_pos (.inl rfl)]
      rw [leaf, txt_data]
  · have hn0 : 0 ≤ n ∧ n ≤ 999999999 := by simpa using hn
    have ht0 : t = txt [] := txt_empty (by simpa using ht)
    subst ht0
    unfold leafW
    rw [if_neg (by decide), if_pos rfl, atomP, if_pos rfl, readD_inB n hn0.1 hn0.2]
    rfl
  · have hn0 : n = 0 := by simpa using hn
    subst hn0
    unfold leafW
    rw [if_neg (by decide), if_neg (by decide), if_pos rfl, atomP, if_neg (by simp), if_pos rfl]
    rw [leaf, txt_data]
  · have hn0 : n = 0 := by simpa using hn
    have ht0 : t = txt [] := txt_empty (by simpa using ht)
    subst hn0 ht0
    rfl
  · have hn0 : n = 0 := by simpa using hn
    have ht0 : t = txt [] := txt_empty (by simpa using ht)
    subst hn0 ht0
    rfl
  · have hn0 : n = 0 := by simpa using hn
    have ht0 : t = txt [] := txt_empty (by simpa using ht)
    subst hn0 ht0
    rfl

theorem inner_text {k : Int} {t : ByteArray} {n : Int} {m : Nat} (h : node1 k t n m = true) (hk : 6 ≤ k) : t = txt [] ∧ n = 0 := by
  unfold node1 at h
  simp only [Bool.and_eq_true] at h
  obtain ⟨⟨_, ht⟩, hn⟩ := h
  rw [if_neg (by omega), if_neg (by omega)] at ht
  rw [if_neg (by omega)] at hn
  exact ⟨txt_empty ht, of_decide_eq_true hn⟩

theorem arity {k : Int} {t : ByteArray} {n : Int} {m : Nat} (h : node1 k t n m = true) : kidsK k = m := by
  unfold node1 at h
  simp only [Bool.and_eq_true] at h
  exact (of_decide_eq_true h.1.1).symm

theorem two_binds {k : Int} (h : k ∈ ([8, 9, 10, 11, 12, 13, 14, 15, 16, 17, 18] : List Int)) : bindsK k ≤ 6 ∧ bindsK k ≠ 3 := by
  have : ∀ k ∈ ([8, 9, 10, 11, 12, 13, 14, 15, 16, 17, 18] : List Int), bindsK k ≤ 6 ∧ bindsK k ≠ 3 := by decide
  exact this k h

theorem read_back : ∀ (n : Nat) (e : Ex), e.nodes ≤ n → shapeE e = true → (∀ L, 1 ≤ L → L ≤ 7 → RTat e L) ∧ (∀ L, 1 ≤ L → L ≤ 6 → L ≠ 3 → L ≠ 4 → Aat e L) := by
  intro n
  induction n with
  | zero => intro e h; rw [Ex.nodes_eq] at h; omega
  | succ n ih =>
    intro e hn hs
    suffices H : RTat e (bindsK e.kind) ∧ (bindsK e.kind ≤ 6 → bindsK e.kind ≠ 3 → bindsK e.kind ≠ 4 → Aat e (bindsK e.kind)) by
      have hall := all_levels hs H.1
      refine ⟨hall, fun L h1 h6 h3 h4 => ?_⟩
      by_cases he : L = bindsK e.kind
      · subst he; exact H.2 h6 h3 h4
      · exact all_sums hall h1 h6 h3 he
    obtain ⟨k, t, m, kids⟩ := e
    rw [Ex.nodes_eq] at hn
    have hs0 := hs
    rw [shapeE, Bool.and_eq_true] at hs
    obtain ⟨h1, hl⟩ := hs
    match kids, h1, hl, hn, hs0 with
    | [], h1, _, _, _ =>
      have hk := zero_kids (arity h1)
      have hb : bindsK k = 7 := by rcases hk with rfl | rfl | rfl | rfl | rfl | rfl <;> rfl
      show RTat _ (bindsK k) ∧ _
      rw [hb]
      refine ⟨fun rest f hf _ => ?_, fun h => by have : bindsK k ≤ 6 := h; omega⟩
      rw [wordsE, hb, if_neg (by omega)]
      unfold enough at hf
      obtain ⟨f, rfl⟩ : ∃ g, f = g + 2 := ⟨f - 2, by simp only [List.length_append] at hf; have := words_pos (.mk k t m []) 7; omega⟩
      rw [anyP, if_pos rfl]
      exact leaf_back h1 f rest
    | [a], h1, hl, hn, _ =>
      have hsa : shapeE a = true := by rw [shapeL, Bool.and_eq_true] at hl; exact hl.1
      have hna : a.nodes ≤ n := by change 1 + nodesL [a] ≤ n + 1 at hn; rw [nodesL, nodesL] at hn; omega
      obtain ⟨ha, _⟩ := ih a hna hsa
      have hk := one_kid (arity h1)
      obtain ⟨rfl, rfl⟩ := inner_text h1 (by omega)
      rcases hk with rfl | rfl
      · show RTat _ 3 ∧ _
        refine ⟨fun rest f hf hst => ?_, fun _ h3 => absurd rfl h3⟩
        have hw : wordsE (.mk 6 (txt []) 0 [a]) 3 = (0, wNot) :: wordsE a 3 := by rw [wordsE, if_pos rfl, if_neg (by decide)]
        rw [hw] at hf ⊢
        unfold enough at hf
        simp only [List.cons_append, List.length_cons, List.length_append] at hf
        obtain ⟨f, rfl⟩ : ∃ g, f = g + 1 := ⟨f - 1, by omega⟩
        rw [List.cons_append, anyP, if_neg (by omega), if_pos ⟨rfl, rfl⟩, List.tail_cons, ha 3 (by omega) (by omega) rest f (by unfold enough; rw [List.length_append]; omega) hst]
        rfl
      · show RTat _ 4 ∧ _
        refine ⟨fun rest f hf hst => ?_, fun _ _ h4 => absurd rfl h4⟩
        have hw : wordsE (.mk 7 (txt []) 0 [a]) 4 = wordsE a 5 ++ [(0, wIs), (0, wNull)] := by rw [wordsE, if_neg (by decide), if_neg (by decide)]
        rw [hw] at hf ⊢
        unfold enough at hf
        simp only [List.append_assoc, List.cons_append, List.nil_append, List.length_cons, List.length_append] at hf ⊢
        obtain ⟨f, rfl⟩ : ∃ g, f = g + 2 := ⟨f - 2, by omega⟩
        rw [anyP, if_neg (by omega), if_neg (by omega), ha 5 (by omega) (by omega) _ (f + 1) (by unfold enough; simp only [List.length_append, List.length_cons]; omega) (stop_is _)]
        show some (loopP (f + 1) 4 a _) = _
        rw [loopP, if_pos ⟨rfl, rfl, rfl⟩]
        rfl
    | [a, b], h1, hl, hn, _ =>
      have hsa : shapeE a = true := by rw [shapeL, Bool.and_eq_true] at hl; exact hl.1
      have hsb : shapeE b = true := by rw [shapeL, shapeL, Bool.and_eq_true, Bool.and_eq_true] at hl; exact hl.2.1
      have hnn : a.nodes ≤ n ∧ b.nodes ≤ n := by
        change 1 + nodesL [a, b] ≤ n + 1 at hn
        rw [nodesL, nodesL, nodesL] at hn
        omega
      obtain ⟨ha, hA⟩ := ih a hnn.1 hsa
      obtain ⟨hb, _⟩ := ih b hnn.2 hsb
      have hk := two_mem (arity h1)
      obtain ⟨rfl, rfl⟩ := inner_text h1 (by have : ∀ k ∈ ([8, 9, 10, 11, 12, 13, 14, 15, 16, 17, 18] : List Int), 6 ≤ k := by decide
                                             exact this k hk)
      obtain ⟨hb6, hb3⟩ := two_binds hk
      have hr := binds_range k
      show RTat _ (bindsK k) ∧ (bindsK k ≤ 6 → bindsK k ≠ 3 → bindsK k ≠ 4 → Aat _ (bindsK k))
      have hw : wordsE (.mk k (txt []) 0 [a, b]) (bindsK k) = wordsE a (firstK k) ++ signW k :: wordsE b (bindsK k + 1) := by rw [wordsE, if_neg (by omega)]
      have hnx := sign_next k hk (bindsK k) (by omega)
      rw [if_pos rfl] at hnx
      have his := sign_is k hk
      by_cases h4 : bindsK k = 4
      · refine ⟨fun rest f hf hst => ?_, fun _ _ h => absurd h4 h⟩
        have hfk : firstK k = 5 := by unfold firstK; rw [if_pos h4]
        rw [hw, hfk] at hf ⊢
        rw [h4] at hf hst hnx ⊢
        unfold enough at hf
        simp only [List.append_assoc, List.cons_append, List.length_cons, List.length_append, show (4 : Nat) + 1 = 5 from rfl] at hf ⊢
        obtain ⟨f, rfl⟩ : ∃ g, f = g + 2 := ⟨f - 2, by omega⟩
        have hs5 : Stop 5 (signW k :: (wordsE b 5 ++ rest)) := by have := stop_sign hk (wordsE b 5 ++ rest); rw [h4] at this; exact this
        rw [anyP, if_neg (by omega), if_neg (by omega), ha 5 (by omega) (by omega) _ (f + 1) (by unfold enough; simp only [List.length_append, List.length_cons]; omega) hs5]
        show some (loopP (f + 1) 4 a _) = _
        rw [loopP, if_neg (by rintro ⟨_, h, _⟩; rw [his] at h; cases h), hnx]
        show some (match anyP f 5 (wordsE b 5 ++ rest) with | none => _ | some (s, r'') => _) = _
        rw [hb 5 (by omega) (by omega) rest f (by unfold enough; rw [List.length_append]; omega) (hst.mono (by omega))]
        rfl
      · have hfk : firstK k = bindsK k := by unfold firstK; rw [if_neg h4]
        have HA : Aat (.mk k (txt []) 0 [a, b]) (bindsK k) := by
          intro rest f hf hst
          rw [hw, hfk] at hf ⊢
          simp only [List.append_assoc, List.cons_append] at hf ⊢
          obtain ⟨f', hf', hp⟩ := hA (bindsK k) hr.1 hb6 hb3 h4 (signW k :: (wordsE b (bindsK k + 1) ++ rest)) f hf (stop_sign hk _)
          unfold enoughL at hf'
          simp only [List.length_cons, List.length_append] at hf'
          have hbp := words_pos b (bindsK k + 1)
          obtain ⟨f', rfl⟩ : ∃ g, f' = g + 1 := ⟨f' - 1, by omega⟩
          refine ⟨f', by unfold enoughL; omega, ?_⟩
          rw [hp, loopP, if_neg (by rintro ⟨h, _⟩; exact h4 h), hnx]
          show some (match anyP f' (bindsK k + 1) (wordsE b (bindsK k + 1) ++ rest) with | none => _ | some (s, r'') => _) = _
          rw [hb (bindsK k + 1) (by omega) (by omega) rest f' (by unfold enough; rw [List.length_append]; omega) hst]
          show some (if bindsK k = 4 then _ else _) = _
          rw [if_neg h4]
          rfl
        exact ⟨rt_of_a hb6 HA, fun _ _ _ => HA⟩
    | a :: b :: c :: r, h1, _, _, _ =>
      have := arity h1
      unfold kidsK at this
      simp only [List.length_cons] at this
      split at this
      · omega
      · split at this
        · omega
        · split at this <;> omega

end Go.Proofs.YtjjdcdnaonfnmaaGreatDoor

namespace Go.Proofs.YtjjdcdnaonfnmaaGreatDoor

/-- What stands behind a word in an expression's text. -/
def Ends2 (r : List UInt8) : Prop := ∀ b, r.head? = some b → b.toNat = 32 ∨ b.toNat = 41
theorem ends2_nil : Ends2 [] := fun _ h => by cases h
theorem ends2_blank (r : List UInt8) : Ends2 (32 :: r) := fun c hc => by cases hc; exact .inl rfl
theorem ends2_shut (r : List UInt8) : Ends2 (41 :: r) := fun c hc => by cases hc; exact .inr rfl

theorem Ends2.more {r : List UInt8} (h : Ends2 r) : runL r = [] := by
  cases r with
  | nil => rfl
  | cons b r =>
    have := h b rfl
    have hm : moreB b = false := by
      simp only [moreB, letterB, digitB, Bool.or_eq_false_iff, Bool.and_eq_false_iff, decide_eq_false_iff_not, beq_eq_false_iff_ne]; omega
    simp [runL, hm]

theorem runL_append2 {t r : List UInt8} (h : ∀ b ∈ t, moreB b = true) (hr : Ends2 r) : runL (t ++ r) = t := by
  unfold runL
  rw [List.takeWhile_append_of_pos h]
  have := hr.more
  unfold runL at this
  rw [this, List.append_nil]

/-- A word that is read as itself there. -/
def Right2 (k : Nat) (t : List UInt8) : Prop :=
  sp k t ≠ [] ∧ ∀ r, Ends2 r → one (sp k t ++ r) = some (k, t, (sp k t).length) ∧ gap false (sp k t ++ r) = 0

theorem word2 {b : UInt8} {t : List UInt8} (hb : letterB b = true) (hall : ∀ c ∈ b :: t, moreB c = true ∧ lowB c = c) : Right2 0 (b :: t) := by
  have hs : sp 0 (b :: t) = b :: t := rfl
  unfold Right2
  rw [hs]
  refine ⟨by simp, fun r hr => ⟨?_, ?_⟩⟩
  · have hrun := runL_append2 (fun c hc => (hall c hc).1) hr
    rw [List.cons_append] at hrun ⊢
    rw [one, if_pos hb, runN, hrun]
    congr 2
    congr 1
    exact (List.map_congr_left fun c hc => (hall c hc).2).trans (List.map_id _)
  · obtain ⟨h1, h2⟩ := letter_not_blank (hall b (List.mem_cons_self ..)).1
    exact gap_stop h1 h2

theorem num2 {b : UInt8} {t : List UInt8} (hb : digitB b = true) (hl : letterB b = false) (hall : ∀ c ∈ b :: t, moreB c = true) (hn : 0 ≤ readD (b :: t)) : Right2 2 (b :: t) := by
  have hs : sp 2 (b :: t) = b :: t := rfl
  unfold Right2
  rw [hs]
  refine ⟨by simp, fun r hr => ⟨?_, ?_⟩⟩
  · have hrun := runL_append2 hall hr
    rw [List.cons_append] at hrun ⊢
    rw [one, if_neg (by simp [hl]), if_pos hb, runN, hrun, if_pos hn]
  · obtain ⟨h1, h2⟩ := letter_not_blank (hall b (List.mem_cons_self ..))
    exact gap_stop h1 h2

theorem Ends2.ne {r : List UInt8} (h : Ends2 r) {q : UInt8} (hq : q.toNat = 34 ∨ q.toNat = 39) : ∀ b, r.head? = some b → b ≠ q := by
  intro b hb e
  have := h b hb
  subst e
  omega

theorem name2 {t : List UInt8} (h : nameB t = true) : Right2 1 t := by
  have hs : sp 1 t = quoteL 34 t := rfl
  unfold Right2
  rw [hs]
  refine ⟨by simp [quoteL], fun r hr => ⟨?_, ?_⟩⟩
  · unfold quoteL
    rw [List.append_assoc, List.cons_append, List.singleton_append, one]
    rw [if_neg (by decide), if_neg (by decide), if_pos (by decide), quoted_back 34 t r (hr.ne (.inl rfl)), Option.bind_some, if_pos h]
    simp [Nat.add_comm]
  · exact gap_stop (b := 34) (by decide) (by decide)

theorem text2 {t : List UInt8} (h : t.length ≤ 100) : Right2 3 t := by
  have hs : sp 3 t = quoteL 39 t := rfl
  unfold Right2
  rw [hs]
  refine ⟨by simp [quoteL], fun r hr => ⟨?_, ?_⟩⟩
  · unfold quoteL
    rw [List.append_assoc, List.cons_append, List.singleton_append, one]
    rw [if_neg (by decide), if_neg (by decide), if_neg (by decide), if_pos (by decide), quoted_back 39 t r (hr.ne (.inr rfl)), Option.bind_some, if_pos h]
    simp [Nat.add_comm]
  · exact gap_stop (b := 39) (by decide) (by decide)

theorem two_not2 {b c : UInt8} (h : c.toNat = 32 ∨ c.toNat = 41) : twoB b c = false := by
  simp only [twoB, Bool.or_eq_false_iff, Bool.and_eq_false_iff, beq_eq_false_iff_ne]; omega

theorem sign1 {b : UInt8} (hb : signB b = true) : Right2 4 [b] := by
  have hs : sp 4 [b] = [b] := rfl
  have hf := sign_facts hb
  unfold Right2
  rw [hs]
  refine ⟨by simp, fun r' hr' => ?_⟩
  have e : signN ([b] ++ r') = 1 := by
    cases r' with
    | nil => simp [signN, hb]
    | cons c r'' => simp [signN, two_not2 (hr' c rfl), hb]
  refine ⟨?_, ?_⟩
  · rw [List.singleton_append] at e ⊢
    rw [one_sign hb (by omega), e]; rfl
  · rw [List.singleton_append, gap, if_neg (by simp [hf.2.2.2.2])]
    rw [if_neg]
    intro hc
    simp only [Bool.and_eq_true, beq_iff_eq, Option.map_eq_some_iff] at hc
    obtain ⟨_, x, hx, h45⟩ := hc
    have := hr' x hx
    omega

theorem sign2 {b c : UInt8} (h2 : twoB b c = true) : Right2 4 [b, c] := by
  have hs : sp 4 [b, c] = [b, c] := rfl
  have hb := (two_sign h2).1
  have hf := sign_facts hb
  unfold Right2
  rw [hs]
  have e : ∀ r', signN (b :: c :: r') = 2 := fun r' => by simp [signN, h2]
  refine ⟨by simp, fun r' _ => ⟨?_, ?_⟩⟩
  · show one (b :: c :: r') = _
    rw [one_sign hb (by rw [e]; omega), e]; rfl
  · exact gap_stop (b := b) hf.2.2.2.2 (two_sign h2).2

/-- An open bracket is read as itself whatever comes. -/
theorem open_any (r : List UInt8) : one (40 :: r) = some (4, [40], 1) ∧ gap false (40 :: r) = 0 := by
  have hb : signB 40 = true := by decide
  have e : signN (40 :: r) = 1 := by
    cases r with
    | nil => rfl
    | cons c r'' =>
      have : twoB 40 c = false := by simp [twoB]
      simp [signN, this, hb]
  exact ⟨by rw [one_sign hb (by omega), e]; rfl, gap_stop (by decide) (by decide)⟩

/-- Words behind one another: a blank between, but none behind an open bracket or ahead of a shut one. -/
def joinW : List (Nat × List UInt8) → List UInt8
  | [] => []
  | [x] => sp x.1 x.2
  | x :: y :: r => sp x.1 x.2 ++ ((if x = (4, [40]) ∨ y = (4, [41]) then [] else [32]) ++ joinW (y :: r))

theorem join_head (y : Nat × List UInt8) (r : List (Nat × List UInt8)) : ∃ q, joinW (y :: r) = sp y.1 y.2 ++ q := by
  cases r with
  | nil => exact ⟨[], by simp [joinW]⟩
  | cons z r => exact ⟨_, rfl⟩

theorem join_lex : ∀ (xs : List (Nat × List UInt8)) (p : Nat), (∀ x ∈ xs, Right2 x.1 x.2) → ∃ ts, lexAt p (joinW xs) = .ok ts ∧ kt ts = xs ∧ gap false (joinW xs) = 0
  | [], p, _ => ⟨[], lexAt_nil p, rfl, rfl⟩
  | [x], p, h => by
    have hx := h x (List.mem_cons_self ..)
    have := hx.2 [] ends2_nil
    rw [List.append_nil] at this
    refine ⟨[⟨x.1, x.2, p⟩], ?_, rfl, this.2⟩
    rw [joinW, lexAt_one this.1, List.drop_length, gap, List.drop_nil, lexAt_nil]
    rfl
  | x :: y :: r, p, h => by
    have hx := h x (List.mem_cons_self ..)
    by_cases hc : x = (4, [40]) ∨ y = (4, [41])
    · obtain ⟨ts, h1, h2, h3⟩ := join_lex (y :: r) (p + (sp x.1 x.2).length) (fun z hz => h z (List.mem_cons_of_mem _ hz))
      have this : one (sp x.1 x.2 ++ joinW (y :: r)) = some (x.1, x.2, (sp x.1 x.2).length) ∧ gap false (sp x.1 x.2 ++ joinW (y :: r)) = 0 := by
        rcases hc with rfl | rfl
        · exact open_any _
        · refine hx.2 _ ?_
          obtain ⟨q, hq⟩ := join_head (4, [41]) r
          rw [hq]
          exact ends2_shut _
      refine ⟨⟨x.1, x.2, p⟩ :: ts, ?_, by simp only [kt, List.map_cons] at h2 ⊢; rw [h2], by rw [joinW, if_pos hc, List.nil_append]; exact this.2⟩
      rw [joinW, if_pos hc, List.nil_append, lexAt_one this.1, List.drop_left, h3, Nat.add_zero, List.drop_zero, h1]
      rfl
    · have := hx.2 (32 :: joinW (y :: r)) (ends2_blank _)
      obtain ⟨ts, h1, h2, h3⟩ := join_lex (y :: r) (p + (sp x.1 x.2).length + 1) (fun z hz => h z (List.mem_cons_of_mem _ hz))
      refine ⟨⟨x.1, x.2, p⟩ :: ts, ?_, by simp only [kt, List.map_cons] at h2 ⊢; rw [h2], by rw [joinW, if_neg hc]; exact this.2⟩
      rw [joinW, if_neg hc, List.singleton_append, lexAt_one this.1, List.drop_left, gap_blank, h3, Nat.add_zero, List.drop_succ_cons, List.drop_zero, h1]
      rfl

end Go.Proofs.YtjjdcdnaonfnmaaGreatDoor

namespace Go.Proofs.YtjjdcdnaonfnmaaGreatDoor

def wn (x : W) : Nat × List UInt8 := (x.1.toNat, x.2)
/-- The text of an expression that has to bind L. -/
def textE (e : Ex) (L : Nat) : List UInt8 := joinW ((wordsE e L).map wn)

theorem join_cons (x : Nat × List UInt8) (ys : List (Nat × List UInt8)) (hy : ys ≠ []) (h : x = (4, [40]) ∨ ys.head? = some (4, [41])) : joinW (x :: ys) = sp x.1 x.2 ++ joinW ys := by
  cases ys with
  | nil => exact absurd rfl hy
  | cons y r =>
    rw [joinW, if_pos (by rcases h with h | h; exact .inl h; right; simpa using h)]
    rfl

theorem join_blank (x : Nat × List UInt8) (ys : List (Nat × List UInt8)) (hy : ys ≠ []) (h1 : x ≠ (4, [40])) (h2 : ys.head? ≠ some (4, [41])) : joinW (x :: ys) = sp x.1 x.2 ++ 32 :: joinW ys := by
  cases ys with
  | nil => exact absurd rfl hy
  | cons y r =>
    rw [joinW, if_neg (by rintro (h | h); exact h1 h; exact h2 (by simp [h]))]
    rfl

theorem join_append_blank : ∀ (xs ys : List (Nat × List UInt8)), xs ≠ [] → ys ≠ [] → xs.getLast? ≠ some (4, [40]) → ys.head? ≠ some (4, [41]) → joinW (xs ++ ys) = joinW xs ++ 32 :: joinW ys
  | [], _, h, _, _, _ => absurd rfl h
  | [x], ys, _, hy, h1, h2 => by
    rw [List.singleton_append, join_blank x ys hy (fun e => h1 (by simp [e])) h2]
    simp [joinW]
  | x :: z :: r, ys, _, hy, h1, h2 => by
    have ih := join_append_blank (z :: r) ys (by simp) hy (by simpa using h1) h2
    rw [List.cons_append, List.cons_append, joinW, ← List.cons_append, ih, joinW]
    simp [List.append_assoc]

theorem join_append_shut : ∀ (xs : List (Nat × List UInt8)), xs ≠ [] → joinW (xs ++ [(4, [41])]) = joinW xs ++ [41]
  | [], h => absurd rfl h
  | [x], _ => by
    rw [List.singleton_append, join_cons x _ (by simp) (.inr rfl)]
    simp [joinW, sp]
  | x :: z :: r, _ => by
    have ih := join_append_shut (z :: r) (by simp)
    rw [List.cons_append, List.cons_append, joinW, ← List.cons_append, ih, joinW]
    simp [List.append_assoc]

/-- Neither a shut bracket at the head nor an open one at the end. -/
def Fair (ws : List W) : Prop := ws ≠ [] ∧ (ws.map wn).head? ≠ some (4, [41]) ∧ (ws.map wn).getLast? ≠ some (4, [40])

theorem leaf_fair (k : Int) (t : ByteArray) (n : Int) : (wn (leafW k t n)).1 ≠ 4 := by
  have h : (leafW k t n).1 = 0 ∨ (leafW k t n).1 = 1 ∨ (leafW k t n).1 = 2 ∨ (leafW k t n).1 = 3 := by
    unfold leafW
    split
    · split
      · exact .inl rfl
      · exact .inr (.inl rfl)
    · split
      · exact .inr (.inr (.inl rfl))
      · split
        · exact .inr (.inr (.inr rfl))
        · split
          · exact .inl rfl
          · split <;> exact .inl rfl
  unfold wn
  show (leafW k t n).1.toNat ≠ 4
  omega

theorem fair_in (ws : List W) : Fair ((4, [40]) :: (ws ++ [(4, [41])])) := by
  refine ⟨by simp, by simp [wn], ?_⟩
  rw [List.map_cons, List.map_append, List.getLast?_cons, List.getLast?_append]
  simp [wn]

theorem words_fair : ∀ (n : Nat) (e : Ex) (L : Nat), e.nodes ≤ n → Fair (wordsE e L) := by
  intro n
  induction n with
  | zero => intro e L h; rw [Ex.nodes_eq] at h; omega
  | succ n ih =>
    intro e L hn
    by_cases hp : bindsK e.kind < L
    · rw [words_in hp]; exact fair_in _
    · obtain ⟨k, t, m, kids⟩ := e
      have hp' : ¬ bindsK k < L := hp
      rw [Ex.nodes_eq] at hn
      match kids, hn with
      | [], _ =>
        rw [wordsE, if_neg hp']
        have := leaf_fair k t m
        refine ⟨by simp, ?_, ?_⟩
        · intro h; simp at h; rw [h] at this; exact this rfl
        · intro h; simp at h; rw [h] at this; exact this rfl
      | [a], hn =>
        have hna : a.nodes ≤ n := by change 1 + nodesL [a] ≤ n + 1 at hn; rw [nodesL, nodesL] at hn; omega
        rw [wordsE, if_neg hp', if_neg hp']
        split
        · obtain ⟨h1, h2, h3⟩ := ih a 3 hna
          refine ⟨by simp, by simp [wn], ?_⟩
          rw [List.map_cons, List.getLast?_cons]
          cases hl : ((wordsE a 3).map wn).getLast? with
          | none => simp [wn, wNot]
          | some y => rw [hl] at h3; simpa using h3
        · obtain ⟨h1, h2, h3⟩ := ih a 5 hna
          refine ⟨by simp, ?_, ?_⟩
          · rw [List.map_append, List.head?_append]
            cases hh : ((wordsE a 5).map wn).head? with
            | none => simp at hh; exact absurd hh h1
            | some y => rw [hh] at h2; simpa using h2
          · rw [List.map_append, List.getLast?_append]
            simp [wn, wIs, wNull]
      | a :: b :: r, hn =>
        have hnn : a.nodes ≤ n ∧ b.nodes ≤ n := by
          change 1 + nodesL (a :: b :: r) ≤ n + 1 at hn
          rw [nodesL, nodesL] at hn
          omega
        rw [wordsE, if_neg hp']
        obtain ⟨h1, h2, h3⟩ := ih a (firstK k) hnn.1
        obtain ⟨g1, g2, g3⟩ := ih b (bindsK k + 1) hnn.2
        refine ⟨by simp, ?_, ?_⟩
        · rw [List.map_append, List.head?_append]
          cases hh : ((wordsE a (firstK k)).map wn).head? with
          | none => simp at hh; exact absurd hh h1
          | some y => rw [hh] at h2; simpa using h2
        · rw [List.map_append, List.map_cons, List.getLast?_append, List.getLast?_cons]
          cases hl : ((wordsE b (bindsK k + 1)).map wn).getLast? with
          | none => simp at hl; exact absurd hl g1
          | some y => rw [hl] at g3; simpa using g3

theorem text_in {e : Ex} {L : Nat} (h : bindsK e.kind < L) : textE e L = 40 :: (textE e 1 ++ [41]) := by
  obtain ⟨h1, _, _⟩ := words_fair e.nodes e 1 (Nat.le_refl _)
  unfold textE
  rw [words_in h, List.map_cons, List.map_append, join_cons (wn (4, [40])) _ (by simp) (.inl rfl)]
  show 40 :: joinW (_ ++ [(4, [41])]) = _
  rw [join_append_shut _ (by simpa using h1)]

theorem text_out {e : Ex} {L L' : Nat} (h : ¬ bindsK e.kind < L) (h' : ¬ bindsK e.kind < L') : textE e L = textE e L' := by
  unfold textE; rw [words_out h h']

theorem text_leaf (k : Int) (t : ByteArray) (n : Int) : textE (.mk k t n []) 1 = sp (wn (leafW k t n)).1 (wn (leafW k t n)).2 := by
  have := (binds_range k).1
  unfold textE
  rw [wordsE, if_neg (by omega)]
  rfl

theorem text_not (t : ByteArray) (n : Int) (a : Ex) : textE (.mk 6 t n [a]) 1 = wNot ++ 32 :: textE a 3 := by
  obtain ⟨h1, h2, _⟩ := words_fair a.nodes a 3 (Nat.le_refl _)
  unfold textE
  rw [wordsE, if_pos rfl, if_neg (by decide), List.map_cons, join_blank _ _ (by simpa using h1) (by decide) h2]
  rfl

theorem text_null {k : Int} (hk : k ≠ 6) (t : ByteArray) (n : Int) (a : Ex) : textE (.mk k t n [a]) 1 = textE a 5 ++ 32 :: (wIs ++ 32 :: wNull) := by
  have := (binds_range k).1
  obtain ⟨h1, _, h3⟩ := words_fair a.nodes a 5 (Nat.le_refl _)
  unfold textE
  rw [wordsE, if_neg hk, if_neg (by omega), List.map_append, join_append_blank _ _ (by simpa using h1) (by simp) h3 (by decide)]
  rfl

theorem text_two (k : Int) (t : ByteArray) (n : Int) (a b : Ex) (r : List Ex) (hs : signK k ≠ [40] ∧ signK k ≠ [41]) : textE (.mk k t n (a :: b :: r)) 1 = textE a (firstK k) ++ 32 :: (signK k ++ 32 :: textE b (bindsK k + 1)) := by
  have := (binds_range k).1
  obtain ⟨h1, _, h3⟩ := words_fair a.nodes a (firstK k) (Nat.le_refl _)
  obtain ⟨g1, g2, _⟩ := words_fair b.nodes b (bindsK k + 1) (Nat.le_refl _)
  have hsp : sp (wn (signW k)).1 (wn (signW k)).2 = signK k := by
    unfold signW wn
    split <;> rfl
  unfold textE
  rw [wordsE, if_neg (by omega), List.map_append, List.map_cons, join_append_blank _ _ (by simpa using h1) (by simp) h3 ?_, join_blank _ _ (by simpa using g1) ?_ g2, hsp]
  · intro h
    have : (wn (signW k)).2 = [40] := by rw [h]
    exact hs.1 this
  · intro h
    simp only [List.head?_cons, Option.some.injEq] at h
    have : (wn (signW k)).2 = [41] := by rw [h]
    exact hs.2 this

end Go.Proofs.YtjjdcdnaonfnmaaGreatDoor

namespace Go.Proofs.YtjjdcdnaonfnmaaGreatDoor

theorem small_low {b : UInt8} (h : okB b = true) : moreB b = true ∧ lowB b = b := by
  simp only [okB, smallB, digitB, Bool.or_eq_true, Bool.and_eq_true, decide_eq_true_eq] at h
  constructor
  · simp only [moreB, letterB, digitB, Bool.or_eq_true, Bool.and_eq_true, decide_eq_true_eq, beq_iff_eq]; omega
  · unfold lowB
    rw [if_neg]
    simp only [Bool.and_eq_true, decide_eq_true_eq]; omega

theorem plain_right {l : List UInt8} (h : plainB l = true) : Right2 0 l := by
  unfold plainB at h
  simp only [Bool.and_eq_true, Bool.not_eq_true'] at h
  obtain ⟨h1, h2, h3⟩ := h
  cases l with
  | nil => cases h1
  | cons b t =>
    have hb := List.all_eq_true.1 h3 b (List.mem_cons_self ..)
    refine word2 ?_ (fun c hc => small_low (List.all_eq_true.1 h3 c hc))
    have hd : digitB b = false := h2
    simp only [okB, hd, Bool.or_false, smallB, Bool.or_eq_true, Bool.and_eq_true, decide_eq_true_eq] at hb
    simp only [letterB, Bool.or_eq_true, Bool.and_eq_true, decide_eq_true_eq, beq_iff_eq]; omega

theorem digits_all (u : Nat) : ∀ b ∈ Lib.decDigits u, digitB b = true := by
  induction u using Nat.strongRecOn with
  | ind u ih =>
    have hd : ∀ d, d < 10 → digitB (UInt8.ofNat (48 + d)) = true := fun d h => by
      have h2 : (UInt8.ofNat (48 + d)).toNat = 48 + d := by rw [UInt8.toNat_ofNat']; omega
      unfold digitB
      rw [h2]
      simp; omega
    by_cases h : u < 10
    · rw [Lib.decDigits_one h]
      intro b hb
      rw [List.mem_singleton] at hb
      subst hb
      exact hd u h
    · rw [Lib.decDigits, dif_neg h]
      intro b hb
      rcases List.mem_append.1 hb with hb | hb
      · exact ih (u / 10) (by omega) b hb
      · rw [List.mem_singleton] at hb
        subst hb
        exact hd _ (by omega)

theorem num_right {n : Int} (h0 : 0 ≤ n) (h1 : n ≤ 999999999) : Right2 2 (Lib.itoa n) := by
  have hr := readD_inB n h0 h1
  obtain ⟨m, rfl⟩ := Int.eq_ofNat_of_zero_le h0
  rw [itoa_natB] at hr ⊢
  have hall := digits_all m
  cases hd : Lib.decDigits m with
  | nil => exact absurd hd (decDigits_neB m)
  | cons b t =>
    rw [hd] at hall hr
    have hb := hall b (List.mem_cons_self ..)
    refine num2 hb ?_ (fun c hc => by unfold moreB; rw [hall c hc]; simp) (by rw [hr]; exact h0)
    simp only [digitB, Bool.and_eq_true, decide_eq_true_eq] at hb
    simp only [letterB, Bool.or_eq_false_iff, Bool.and_eq_false_iff, decide_eq_false_iff_not, beq_eq_false_iff_ne]; omega

theorem leaf_right {k : Int} {t : ByteArray} {n : Int} (h : node1 k t n 0 = true) : Right2 (wn (leafW k t n)).1 (wn (leafW k t n)).2 := by
  have hk := zero_kids (arity h)
  unfold node1 at h
  simp only [Bool.and_eq_true] at h
  obtain ⟨⟨_, ht⟩, hn⟩ := h
  rcases hk with rfl | rfl | rfl | rfl | rfl | rfl
  · have hname : nameB t.data.toList = true := by simpa using ht
    unfold leafW
    rw [if_pos rfl]
    split
    · rename_i hp
      rw [Bool.and_eq_true] at hp
      exact plain_right hp.1
    · exact name2 hname
  · have hn0 : 0 ≤ n ∧ n ≤ 999999999 := by simpa using hn
    exact num_right hn0.1 hn0.2
  · have hsz : t.size ≤ 100 := by simpa using ht
    exact text2 (show t.data.toList.length ≤ 100 by simpa using hsz)
  · exact word2 (b := 116) (t := [114, 117, 101]) (by decide) (by decide)
  · exact word2 (b := 102) (t := [97, 108, 115, 101]) (by decide) (by decide)
  · exact word2 (b := 110) (t := [117, 108, 108]) (by decide) (by decide)

theorem sign_right {k : Int} (h : k ∈ ([8, 9, 10, 11, 12, 13, 14, 15, 16, 17, 18] : List Int)) : Right2 (wn (signW k)).1 (wn (signW k)).2 := by
  simp only [List.mem_cons, List.not_mem_nil, or_false] at h
  rcases h with rfl | rfl | rfl | rfl | rfl | rfl | rfl | rfl | rfl | rfl | rfl
  · exact word2 (b := 97) (t := [110, 100]) (by decide) (by decide)
  · exact word2 (b := 111) (t := [114]) (by decide) (by decide)
  · exact sign1 (b := 61) (by decide)
  · exact sign2 (b := 60) (c := 62) (by decide)
  · exact sign1 (b := 60) (by decide)
  · exact sign2 (b := 60) (c := 61) (by decide)
  · exact sign1 (b := 62) (by decide)
  · exact sign2 (b := 62) (c := 61) (by decide)
  · exact sign1 (b := 43) (by decide)
  · exact sign1 (b := 45) (by decide)
  · exact sign1 (b := 42) (by decide)

theorem sign_no {k : Int} (h : k ∈ ([8, 9, 10, 11, 12, 13, 14, 15, 16, 17, 18] : List Int)) : signK k ≠ [40] ∧ signK k ≠ [41] ∧ (signK k).length ≤ 3 := by
  have : ∀ k ∈ ([8, 9, 10, 11, 12, 13, 14, 15, 16, 17, 18] : List Int), signK k ≠ [40] ∧ signK k ≠ [41] ∧ (signK k).length ≤ 3 := by decide
  exact this k h

theorem words_right : ∀ (n : Nat) (e : Ex) (L : Nat), e.nodes ≤ n → shapeE e = true → ∀ x ∈ (wordsE e L).map wn, Right2 x.1 x.2 := by
  intro n
  induction n with
  | zero => intro e L h; rw [Ex.nodes_eq] at h; omega
  | succ n ih =>
    intro e L hn hs
    suffices H : ∀ x ∈ (wordsE e 1).map wn, Right2 x.1 x.2 by
      by_cases hp : bindsK e.kind < L
      · rw [words_in hp]
        intro x hx
        simp only [List.map_cons, List.map_append, List.map_nil, List.mem_cons, List.mem_append, List.not_mem_nil, or_false] at hx
        rcases hx with rfl | hx | rfl
        · exact sign1 (b := 40) (by decide)
        · exact H x hx
        · exact sign1 (b := 41) (by decide)
      · have := (binds_range e.kind).1
        rw [words_out hp (show ¬ bindsK e.kind < 1 by omega)]
        exact H
    obtain ⟨k, t, m, kids⟩ := e
    have hb := (binds_range k).1
    have hb1 : ¬ bindsK k < 1 := by omega
    rw [Ex.nodes_eq] at hn
    rw [shapeE, Bool.and_eq_true] at hs
    obtain ⟨h1, hl⟩ := hs
    match kids, h1, hl, hn with
    | [], h1, _, _ =>
      rw [wordsE, if_neg hb1]
      intro x hx
      simp only [List.map_cons, List.map_nil, List.mem_cons, List.not_mem_nil, or_false] at hx
      subst hx
      exact leaf_right h1
    | [a], h1, hl, hn =>
      have hsa : shapeE a = true := by rw [shapeL, Bool.and_eq_true] at hl; exact hl.1
      have hna : a.nodes ≤ n := by change 1 + nodesL [a] ≤ n + 1 at hn; rw [nodesL, nodesL] at hn; omega
      rw [wordsE, if_neg hb1, if_neg hb1]
      split
      · intro x hx
        rw [List.map_cons, List.mem_cons] at hx
        rcases hx with rfl | hx
        · exact word2 (b := 110) (t := [111, 116]) (by decide) (by decide)
        · exact ih a 3 hna hsa x hx
      · intro x hx
        simp only [List.map_append, List.map_cons, List.map_nil, List.mem_append, List.mem_cons, List.not_mem_nil, or_false] at hx
        rcases hx with hx | rfl | rfl
        · exact ih a 5 hna hsa x hx
        · exact word2 (b := 105) (t := [115]) (by decide) (by decide)
        · exact word2 (b := 110) (t := [117, 108, 108]) (by decide) (by decide)
    | [a, b], h1, hl, hn =>
      have hsa : shapeE a = true := by rw [shapeL, Bool.and_eq_true] at hl; exact hl.1
      have hsb : shapeE b = true := by rw [shapeL, shapeL, Bool.and_eq_true, Bool.and_eq_true] at hl; exact hl.2.1
      have hnn : a.nodes ≤ n ∧ b.nodes ≤ n := by
        change 1 + nodesL [a, b] ≤ n + 1 at hn
        rw [nodesL, nodesL, nodesL] at hn
        omega
      rw [wordsE, if_neg hb1]
      intro x hx
      rw [List.map_append, List.map_cons, List.mem_append, List.mem_cons] at hx
      rcases hx with hx | rfl | hx
      · exact ih a _ hnn.1 hsa x hx
      · exact sign_right (two_mem (arity h1))
      · exact ih b _ hnn.2 hsb x hx
    | a :: b :: c :: r, h1, _, _ =>
      have := arity h1
      unfold kidsK at this
      simp only [List.length_cons] at this
      split at this
      · omega
      · split at this
        · omega
        · split at this <;> omega

theorem dbl_le (q : UInt8) (t : List UInt8) : (quoteL q t).length ≤ 2 * t.length + 2 := by
  have h : (t.flatMap fun b => if b = q then [q, b] else [b]).length ≤ 2 * t.length := by
    induction t with
    | nil => simp
    | cons b t ih =>
      rw [List.flatMap_cons, List.length_append, List.length_cons]
      split <;> simp only [List.length_cons, List.length_nil] <;> omega
  unfold quoteL
  simp only [List.length_append, List.length_cons, List.length_nil]
  omega

theorem leaf_len {k : Int} {t : ByteArray} {n : Int} (h : node1 k t n 0 = true) : (sp (wn (leafW k t n)).1 (wn (leafW k t n)).2).length ≤ 202 := by
  have hk := zero_kids (arity h)
  unfold node1 at h
  simp only [Bool.and_eq_true] at h
  obtain ⟨⟨_, ht⟩, hn⟩ := h
  rcases hk with rfl | rfl | rfl | rfl | rfl | rfl
  · have hname : nameB t.data.toList = true := by simpa using ht
    have hlen : t.data.toList.length ≤ 40 := by
      unfold nameB at hname
      simp only [Bool.and_eq_true, decide_eq_true_eq] at hname
      exact hname.1.2
    unfold leafW
    rw [if_pos rfl]
    split
    · show t.data.toList.length ≤ 202
      omega
    · have := dbl_le 34 t.data.toList
      show (quoteL 34 t.data.toList).length ≤ 202
      omega
  · have hn0 : 0 ≤ n ∧ n ≤ 999999999 := by simpa using hn
    obtain ⟨m, rfl⟩ := Int.eq_ofNat_of_zero_le hn0.1
    show (Lib.itoa (m : Int)).length ≤ 202
    rw [itoa_natB, Lib.decDigits_length]
    have := nDigits_leB 9 m (by omega) (by omega)
    omega
  · have hsz : t.size ≤ 100 := by simpa using ht
    have h1 : t.data.toList.length ≤ 100 := by simpa using hsz
    have := dbl_le 39 t.data.toList
    show (quoteL 39 t.data.toList).length ≤ 202
    omega
  · show (4 : Nat) ≤ 202; omega
  · show (5 : Nat) ≤ 202; omega
  · show (4 : Nat) ≤ 202; omega

theorem text_len : ∀ (n : Nat) (e : Ex) (L : Nat), e.nodes ≤ n → shapeE e = true → (textE e L).length ≤ 210 * e.nodes := by
  intro n
  induction n with
  | zero => intro e L h; rw [Ex.nodes_eq] at h; omega
  | succ n ih =>
    intro e L hn hs
    suffices H : (textE e 1).length + 2 ≤ 210 * e.nodes by
      by_cases hp : bindsK e.kind < L
      · rw [text_in hp]
        simp only [List.length_cons, List.length_append, List.length_nil]
        omega
      · have := (binds_range e.kind).1
        rw [text_out hp (show ¬ bindsK e.kind < 1 by omega)]
        omega
    obtain ⟨k, t, m, kids⟩ := e
    have he := Ex.nodes_eq (.mk k t m kids)
    rw [he] at hn ⊢
    rw [shapeE, Bool.and_eq_true] at hs
    obtain ⟨h1, hl⟩ := hs
    match kids, h1, hl, hn with
    | [], h1, _, _ =>
      rw [text_leaf]
      have := leaf_len h1
      omega
    | [a], h1, hl, hn =>
      have hsa : shapeE a = true := by rw [shapeL, Bool.and_eq_true] at hl; exact hl.1
      change 1 + nodesL [a] ≤ n + 1 at hn
      rw [nodesL, nodesL] at hn
      show _ ≤ 210 * (1 + nodesL [a])
      rw [nodesL, nodesL]
      by_cases hk : k = 6
      · subst hk
        have := ih a 3 (by omega) hsa
        rw [text_not]
        simp only [List.length_append, List.length_cons, wNot, List.length_nil]
        omega
      · have := ih a 5 (by omega) hsa
        rw [text_null hk]
        simp only [List.length_append, List.length_cons, wIs, wNull, List.length_nil]
        omega
    | [a, b], h1, hl, hn =>
      have hsa : shapeE a = true := by rw [shapeL, Bool.and_eq_true] at hl; exact hl.1
      have hsb : shapeE b = true := by rw [shapeL, shapeL, Bool.and_eq_true, Bool.and_eq_true] at hl; exact hl.2.1
      change 1 + nodesL [a, b] ≤ n + 1 at hn
      rw [nodesL, nodesL, nodesL] at hn
      show _ ≤ 210 * (1 + nodesL [a, b])
      rw [nodesL, nodesL, nodesL]
      have hsg := sign_no (two_mem (arity h1))
      have ha := ih a (firstK k) (by omega) hsa
      have hb := ih b (bindsK k + 1) (by omega) hsb
      rw [text_two k t m a b [] ⟨hsg.1, hsg.2.1⟩]
      simp only [List.length_append, List.length_cons]
      omega
    | a :: b :: c :: r, h1, _, _ =>
      have := arity h1
      unfold kidsK at this
      simp only [List.length_cons] at this
      split at this
      · omega
      · split at this
        · omega
        · split at this <;> omega

/-- The text of a right expression is read as its words. -/
theorem text_reads (e : Ex) (L : Nat) (hs : shapeE e = true) (hn : e.nodes ≤ 40) : ∃ ts, lexB (textE e L) = .ok ts ∧ kt ts = (wordsE e L).map wn := by
  obtain ⟨ts, h1, h2, h3⟩ := join_lex ((wordsE e L).map wn) 0 (words_right e.nodes e L (Nat.le_refl _) hs)
  have hl := text_len e.nodes e L (Nat.le_refl _) hs
  refine ⟨ts, ?_, h2⟩
  unfold lexB
  rw [if_neg (by omega)]
  unfold textE at hl ⊢
  rw [h3, List.drop_zero, h1]

end Go.Proofs.YtjjdcdnaonfnmaaGreatDoor

namespace Go.Proofs.YtjjdcdnaonfnmaaGreatDoor
open Go.RowKit

theorem setThree {w0 w : World} {B g : Nat} (h : Below B w0 w) (hg : B ≤ g) (u v x : Value) : Below B w0 (((w.setCell ⟨g, 0, none⟩ u).setCell ⟨g, 1, none⟩ v).setCell ⟨g, 2, none⟩ x) :=
  ((h.setCell (p := ⟨g, 0, none⟩) hg u).setCell (p := ⟨g, 1, none⟩) hg v).setCell (p := ⟨g, 2, none⟩) hg x

end Go.Proofs.YtjjdcdnaonfnmaaGreatDoor

namespace Go.Proofs.YtjjdcdnaonfnmaaGreatDoor
open Go.RowKit

end Go.Proofs.YtjjdcdnaonfnmaaGreatDoor

namespace Go.Proofs.YtjjdcdnaonfnmaaGreatDoor
open Go.RowKit

theorem wpAppendTok {w : World} {ops : Array Oper} {rest : List Oper} {o : Oper} {A : Act} {Q : Exit → Act → World → Prop} (hgd : o.guard = none) (s x : Operand)
    (ho : o.op = .call { callee := .builtin .append, args := #[s, x], argTypes := #[29, 29] })
    (i0 : TypeInfo) (hi0 : Tryz.prog.info? 56 = some i0) (hz0 : i0.zero = some (.agg #[.int .i64 0, .string ByteArray.empty, .int .i64 0])) (hz1 : i0.size = 3) (hz2 : i0.bytes = 32)
    (B : Nat) (a : Option Addr) (c : Nat) (l : List Tk) (g : Nat) (y : Tk) (hs : A.eval s = .slice a l.length c) (hown : OwnT w B a c l) (hx : A.eval x = .slice (some ⟨g, 0, none⟩) 1 1) (hc : w.heap[g]? = some (.cells #[.int .i64 y.kind, .string y.text, .int .i64 y.at_] 56 (0, 0)))
    (hn : l.length + 1 ≤ 1073741824) (hB : B ≤ w.heap.size)
    (h : ∀ a' c' w' l', Hid (l' = l ++ [y]) → OwnT w' B a' c' l' → w.grownBy w' (Value.slice a l.length c).ownBlock → ((Value.slice a' l'.length c').ownBlock = (Value.slice a l.length c).ownBlock ∨ (Value.slice a' l'.length c').ownBlock = some w.heap.size) → wpList Tryz.prog ops Q rest (A.put o.dst (.slice a' l'.length c')) w') :
    wpList Tryz.prog ops Q (o :: rest) A w := by
  refine wpList_append_own_at _ hgd s x 29 ho B 56 i0 (.agg #[.int .i64 0, .string ByteArray.empty, .int .i64 0]) 3 32 Tryz.underlying29 hi0 hz0 hz1 hz2 rfl (by decide) (.slice a l.length c) l.length (tcells l) hs hown
    ⟨g, 0, none⟩ 1 1 [.int .i64 y.kind, .string y.text, .int .i64 y.at_] hx rfl ?_ (fun u hu => by simp at hu; rcases hu with rfl | rfl | rfl <;> rfl) (by unfold maxLen; omega) (by omega) hB ?_
  · intro j u hu
    have hadd : (⟨g, 0, none⟩ : Addr).add j = ⟨g, j, none⟩ := by unfold Addr.add; by_cases h0 : j = 0 <;> simp [h0]
    rw [hadd, cell_of_row _ _ _ _ _ _ hc]
    simpa using hu
  · intro v' w' hown' hg _ hat
    have hf : ∃ a' c', v' = .slice a' (l.length + 1) c' := by
      rcases hown'.2 with ⟨_, h0⟩ | ⟨g', cap, cur, rfl, _⟩
      · omega
      · exact ⟨_, _, rfl⟩
    obtain ⟨a', c', rfl⟩ := hf
    have hb : tcells l ++ [.int .i64 y.kind, .string y.text, .int .i64 y.at_] = tcells (l ++ [y]) := by rw [tcells_append]; rfl
    rw [hb] at hown'
    have hll : (l ++ [y]).length = l.length + 1 := by simp
    have := h a' c' w' (l ++ [y]) rfl (by unfold OwnT; rw [hll]; exact hown') hg (by rw [hll]; exact hat)
    rw [hll] at this
    exact this

theorem OwnT.alloc {w : World} {B : Nat} {a : Option Addr} {c : Nat} {l : List Tk} (h : OwnT w B a c l) (o : Obj) : OwnT (w.alloc o) B a c l :=
  h.below ((Below.refl _ _).alloc (Nat.le_refl _) _)

theorem ownTEmpty (w : World) : OwnT (w.alloc (.cells #[] 56)) w.heap.size (some ⟨w.heap.size, 0, none⟩) 0 [] :=
  World.ownsRow_lit (base := w.heap.size) (e := 56) (size := 3) w #[] 0 (Nat.le_refl _) (by unfold maxLen; omega) rfl

theorem hidT_len {l l' : List Tk} {y : Tk} (h : Hid (l' = l ++ [y])) : l'.length = l.length + 1 := by rw [h.out]; simp

end Go.Proofs.YtjjdcdnaonfnmaaGreatDoor

namespace Go.Proofs.YtjjdcdnaonfnmaaGreatDoor
open Go.RowKit

def tkOf (x : Tok) : Tk := ⟨(x.kind : Int), ⟨x.text.toArray⟩, (x.at_ : Int)⟩
def toks (s : ByteArray) : List Tk := (wordsOf (lexB s.data.toList)).map tkOf

/-- How Lex answers. -/
def LexAns (s : ByteArray) (w : World) (e : Ending) (w' : World) : Prop :=
  ∃ a c, e = .returned (.tuple #[.slice a (toks s).length c, .int .i64 (placeOf (lexB s.data.toList))]) ∧ OwnT w' w.heap.size a c (toks s) ∧ Below w.heap.size w w'

theorem lexAns_mk {s : ByteArray} {w w' : World} {ys : List Tk} {p : Int} {a : Option Addr} {c : Nat} (hy : toks s = ys) (hp : placeOf (lexB s.data.toList) = p) (ho : OwnT w' w.heap.size a c ys) (hb : Below w.heap.size w w') : LexAns s w (.returned (.tuple #[.slice a ys.length c, .int .i64 p])) w' := by
  subst hy hp
  exact ⟨a, c, rfl, ho, hb⟩

theorem gap_len (c : Bool) (l : List UInt8) : gap c l ≤ l.length := by
  rcases gap_tail l c with ⟨h, _⟩ | ⟨h, _⟩ <;> omega

theorem ok_of_cat {l : List UInt8} {acc : List Tok} (h : lexB l = cat acc (.ok [])) : (wordsOf (lexB l)).map tkOf = acc.map tkOf ∧ placeOf (lexB l) = -1 := by
  rw [h]; simp [cat, wordsOf, placeOf]
theorem bad_of_cat {l : List UInt8} {acc : List Tok} {k : Nat} (h : lexB l = cat acc (.error k)) : (wordsOf (lexB l)).map tkOf = [] ∧ placeOf (lexB l) = (k : Int) := by
  rw [h]; simp [cat, wordsOf, placeOf]

theorem lexStep {l : List UInt8} {acc : List Tok} {k : Nat} {x : Nat × List UInt8 × Nat} (h : lexB l = cat acc (lexAt k (l.drop k))) (h1 : one (l.drop k) = some x) :
    lexB l = cat (acc ++ [⟨x.1, x.2.1, k⟩]) (lexAt (k + x.2.2 + gap false (l.drop (k + x.2.2))) (l.drop (k + x.2.2 + gap false (l.drop (k + x.2.2))))) := by
  rw [h, lexAt_one (k := x.1) (t := x.2.1) (n := x.2.2) h1, cat_cat, List.drop_drop, List.drop_drop]

end Go.Proofs.YtjjdcdnaonfnmaaGreatDoor

namespace Go.Proofs.YtjjdcdnaonfnmaaGreatDoor

def wInt : List UInt8 := [105, 110, 116]
def wText : List UInt8 := [116, 101, 120, 116]
def wBool : List UInt8 := [98, 111, 111, 108]
def wChar : List UInt8 := [99, 104, 97, 114]
def wEnum : List UInt8 := [101, 110, 117, 109]

/-- The words of a name. -/
def nameK (s : ByteArray) : Nat := if plainB s.data.toList && !keptB s.data.toList then 0 else 1

/-- The words of a right type. -/
def typeW (k l : Int) (s : ByteArray) : List (Nat × List UInt8) :=
  if k = 0 then [(0, wInt)] else if k = 1 then [(0, wText)] else if k = 2 then [(0, wBool)]
  else if k = 3 then [(0, wChar), (4, [40]), (2, Lib.itoa l), (4, [41])]
  else [(0, wEnum), (nameK s, s.data.toList)]

theorem name_right {s : ByteArray} (h : nameB s.data.toList = true) : Right2 (nameK s) s.data.toList ∧ (nameT s).data.toList = sp (nameK s) s.data.toList := by
  unfold nameK nameT
  by_cases hp : (plainB s.data.toList && !keptB s.data.toList) = true
  · rw [if_pos hp, if_pos hp]
    rw [Bool.and_eq_true] at hp
    exact ⟨plain_right hp.1, rfl⟩
  · rw [if_neg hp, if_neg hp]
    refine ⟨name2 h, ?_⟩
    unfold quoteT sp
    rw [if_pos rfl]

theorem one_char (r : List UInt8) (h : Ends2 r ∨ r.head? = some 40) : one (wChar ++ r) = some (0, wChar, 4) ∧ gap false (wChar ++ r) = 0 := by
  have hrun : runL (wChar ++ r) = wChar := by
    unfold runL wChar
    have hr : r.takeWhile moreB = [] := by
      rcases h with h | h
      · exact h.more
      · cases r with
        | nil => rfl
        | cons b q => cases h; rfl
    simp only [List.cons_append, List.nil_append]
    rw [List.takeWhile_cons_of_pos (by decide), List.takeWhile_cons_of_pos (by decide), List.takeWhile_cons_of_pos (by decide), List.takeWhile_cons_of_pos (by decide), hr]
  have e : wChar ++ r = 99 :: ([104, 97, 114] ++ r) := rfl
  refine ⟨?_, by rw [e]; exact gap_stop (by decide) (by decide)⟩
  rw [e, one, if_pos (by decide), runN, ← e, hrun]
  rfl

theorem lexB_of_join {t : List UInt8} {xs : List (Nat × List UInt8)} (h : t = joinW xs) (hx : ∀ x ∈ xs, Right2 x.1 x.2) (hl : t.length ≤ 20000) : ∃ ts, lexB t = .ok ts ∧ kt ts = xs := by
  obtain ⟨ts, h1, h2, h3⟩ := join_lex xs 0 hx
  refine ⟨ts, ?_, h2⟩
  subst h
  unfold lexB
  rw [if_neg (by omega), h3, List.drop_zero]
  exact h1

theorem plain_words : Right2 0 wInt ∧ Right2 0 wText ∧ Right2 0 wBool ∧ Right2 0 wChar ∧ Right2 0 wEnum :=
  ⟨plain_right (by decide), plain_right (by decide), plain_right (by decide), plain_right (by decide), plain_right (by decide)⟩

/-- What a right type is. -/
theorem type_kinds {k l : Int} {s : ByteArray} (h : typeOkB k l s = true) :
    (((k = 0 ∨ k = 1 ∨ k = 2) ∧ l = 0 ∧ s = ⟨#[]⟩) ∨ (k = 3 ∧ 1 ≤ l ∧ l ≤ 100 ∧ s = ⟨#[]⟩)) ∨ (k = 4 ∧ l = 0 ∧ nameB s.data.toList = true) := by
  have he : s.toList.isEmpty = true → s = ⟨#[]⟩ := fun h => txt_empty h
  unfold typeOkB at h
  by_cases h0 : k = 0 ∨ k = 1 ∨ k = 2
  · rw [if_pos h0, Bool.and_eq_true, beq_iff_eq] at h
    exact .inl (.inl ⟨h0, h.1, he h.2⟩)
  · rw [if_neg h0] at h
    by_cases h3 : k = 3
    · rw [if_pos h3, Bool.and_eq_true] at h
      have h1 := h.1
      unfold inI at h1
      rw [Bool.and_eq_true, decide_eq_true_eq, decide_eq_true_eq] at h1
      exact .inl (.inr ⟨h3, h1.1, h1.2, he h.2⟩)
    · rw [if_neg h3] at h
      by_cases h4 : k = 4
      · rw [if_pos h4, Bool.and_eq_true, beq_iff_eq] at h
        exact .inr ⟨h4, h.1, h.2⟩
      · rw [if_neg h4] at h
        cases h

theorem name_len {s : ByteArray} (h : nameB s.data.toList = true) : s.size ≤ 40 := by
  unfold nameB at h
  simp only [Bool.and_eq_true, decide_eq_true_eq] at h
  have : s.data.toList.length = s.size := by simp
  omega

/-- The text of a right type is read as its words. -/
theorem type_words {k l : Int} {s : ByteArray} (h : typeOkB k l s = true) :
    (typeTextT k l s).size ≤ 200 ∧ ∃ ts, lexB (typeTextT k l s).data.toList = .ok ts ∧ kt ts = typeW k l s := by
  obtain ⟨p0, p1, p2, p3, p4⟩ := plain_words
  have hlen : ∀ b : ByteArray, b.data.toList.length = b.size := fun b => by simp
  rcases type_kinds h with (⟨rfl | rfl | rfl, rfl, rfl⟩ | ⟨rfl, h1, h2, rfl⟩) | ⟨rfl, rfl, hn⟩
  · have ht : typeTextT 0 0 ⟨#[]⟩ = ⟨#[105, 110, 116]⟩ := by unfold typeTextT; rw [h]; rfl
    rw [ht]
    exact ⟨by decide, lexB_of_join (xs := [(0, wInt)]) rfl (fun x hx => by cases List.mem_singleton.1 hx; exact p0) (by decide)⟩
  · have ht : typeTextT 1 0 ⟨#[]⟩ = ⟨#[116, 101, 120, 116]⟩ := by unfold typeTextT; rw [h]; rfl
    rw [ht]
    exact ⟨by decide, lexB_of_join (xs := [(0, wText)]) rfl (fun x hx => by cases List.mem_singleton.1 hx; exact p1) (by decide)⟩
  · have ht : typeTextT 2 0 ⟨#[]⟩ = ⟨#[98, 111, 111, 108]⟩ := by unfold typeTextT; rw [h]; rfl
    rw [ht]
    exact ⟨by decide, lexB_of_join (xs := [(0, wBool)]) rfl (fun x hx => by cases List.mem_singleton.1 hx; exact p2) (by decide)⟩
  · have ht : typeTextT 3 l ⟨#[]⟩ = ⟨#[99, 104, 97, 114, 40]⟩ ++ dec l ++ ⟨#[41]⟩ := by unfold typeTextT; rw [h]; rfl
    have hd : (typeTextT 3 l ⟨#[]⟩).data.toList = wChar ++ (40 :: (Lib.itoa l ++ [41])) := by rw [ht]; simp [wChar, dec]
    have hz := dec_size l (by omega) (by omega)
    have hsz : (typeTextT 3 l ⟨#[]⟩).size ≤ 200 := by rw [ht, ByteArray.size_append, ByteArray.size_append]; show 5 + (dec l).size + 1 ≤ 200; omega
    refine ⟨hsz, ?_⟩
    have hj : 40 :: (Lib.itoa l ++ [41]) = joinW [(4, [40]), (2, Lib.itoa l), (4, [41])] := by
      simp [joinW, sp]
    obtain ⟨ts, e1, e2, e3⟩ := join_lex [(4, [40]), (2, Lib.itoa l), (4, [41])] 4 (fun x hx => by
      simp only [List.mem_cons, List.not_mem_nil, or_false] at hx
      rcases hx with rfl | rfl | rfl
      · exact sign1 (by decide)
      · exact num_right (by omega) (by omega)
      · exact sign1 (by decide))
    obtain ⟨o1, o2⟩ := one_char (40 :: (Lib.itoa l ++ [41])) (.inr rfl)
    refine ⟨⟨0, wChar, 0⟩ :: ts, ?_, ?_⟩
    · unfold lexB
      rw [if_neg (by rw [hlen]; omega), hd, o2, List.drop_zero, lexAt_one o1]
      have hdrop : (wChar ++ (40 :: (Lib.itoa l ++ [41]))).drop 4 = 40 :: (Lib.itoa l ++ [41]) := rfl
      rw [hdrop, hj, e3, List.drop_zero]
      simp only [Nat.zero_add, Nat.add_zero]
      rw [e1]
      rfl
    · show (0, wChar) :: kt ts = _
      rw [e2]
      rfl
  · have hh := name_len hn
    obtain ⟨r1, r2⟩ := name_right hn
    have ht : typeTextT 4 0 s = ⟨#[101, 110, 117, 109, 32]⟩ ++ nameT s := by unfold typeTextT; rw [h]; rfl
    have hd : (typeTextT 4 0 s).data.toList = joinW [(0, wEnum), (nameK s, s.data.toList)] := by
      have hne : ¬ (((0 : Nat), wEnum) = (4, [40]) ∨ (nameK s, s.data.toList) = (4, [41])) := by
        rintro (h | h)
        · exact absurd (congrArg Prod.fst h) (by decide)
        · have := congrArg Prod.fst h
          unfold nameK at this
          split at this <;> cases this
      rw [ht, joinW, if_neg hne, joinW, ← r2]
      first | (simp [wEnum, sp]; done) | rfl
    have hz := nameT_size s
    have hsz : (typeTextT 4 0 s).size ≤ 200 := by rw [ht, ByteArray.size_append]; show 5 + (nameT s).size ≤ 200; omega
    refine ⟨hsz, ?_⟩
    refine lexB_of_join hd (fun x hx => ?_) (by rw [hlen]; omega)
    rcases List.mem_cons.1 hx with rfl | hx
    · exact p4
    · cases List.mem_singleton.1 hx
      exact r1

end Go.Proofs.YtjjdcdnaonfnmaaGreatDoor
