/- Words come back from how they are spelt: plain mathematics. -/
import Derived.Test.YtnepfnbmmdcgpaaDoorLexM
namespace Go.Proofs.YtnepfnbmmdcgpaaDoor

theorem lowB_cases (b : UInt8) : (lowB b = b ∧ ¬ (65 ≤ b.toNat ∧ b.toNat ≤ 90)) ∨ ((lowB b).toNat = b.toNat + 32 ∧ 65 ≤ b.toNat ∧ b.toNat ≤ 90) := by
  unfold lowB
  by_cases h : 65 ≤ b.toNat ∧ b.toNat ≤ 90
  · right
    rw [if_pos (by simp [h.1, h.2])]
    refine ⟨?_, h⟩
    rw [UInt8.toNat_add]
    have : (32 : UInt8).toNat = 32 := rfl
    omega
  · left
    refine ⟨?_, h⟩
    rw [if_neg]
    intro hc
    simp only [Bool.and_eq_true, decide_eq_true_eq] at hc
    exact h hc

theorem letter_low (b : UInt8) (h : letterB b = true) : letterB (lowB b) = true := by
  rcases lowB_cases b with ⟨e, _⟩ | ⟨e, h1, h2⟩
  · rw [e]; exact h
  · simp only [letterB, e, Bool.or_eq_true, Bool.and_eq_true, decide_eq_true_eq, beq_iff_eq]; omega

theorem more_low (b : UInt8) (h : moreB b = true) : moreB (lowB b) = true := by
  rcases lowB_cases b with ⟨e, _⟩ | ⟨e, h1, h2⟩
  · rw [e]; exact h
  · simp only [moreB, letterB, digitB, e, Bool.or_eq_true, Bool.and_eq_true, decide_eq_true_eq, beq_iff_eq]; omega

theorem low_low (b : UInt8) : lowB (lowB b) = lowB b := by
  rcases lowB_cases b with ⟨e, _⟩ | ⟨e, h1, h2⟩
  · rw [e, e]
  · rcases lowB_cases (lowB b) with ⟨e', _⟩ | ⟨e', h3, h4⟩
    · exact e'
    · omega

/-- What may stand behind a spelt word. -/
def Ends (r : List UInt8) : Prop := ∀ b, r.head? = some b → b.toNat = 32 ∨ b.toNat = 10 ∨ b.toNat = 59

theorem ends_nil : Ends [] := fun _ h => by cases h
theorem ends_cons {b : UInt8} {r : List UInt8} (h : b.toNat = 32 ∨ b.toNat = 10 ∨ b.toNat = 59) : Ends (b :: r) := fun c hc => by cases hc; exact h

theorem Ends.more {r : List UInt8} (h : Ends r) : runL r = [] := by
  cases r with
  | nil => rfl
  | cons b r =>
    have := h b rfl
    have hm : moreB b = false := by
      simp only [moreB, letterB, digitB, Bool.or_eq_false_iff, Bool.and_eq_false_iff, decide_eq_false_iff_not, beq_eq_false_iff_ne]; omega
    simp [runL, hm]

theorem runL_append {t r : List UInt8} (h : ∀ b ∈ t, moreB b = true) (hr : Ends r) : runL (t ++ r) = t := by
  unfold runL
  rw [List.takeWhile_append_of_pos h]
  have := hr.more
  unfold runL at this
  rw [this, List.append_nil]

theorem runL_all (l : List UInt8) : ∀ b ∈ runL l, moreB b = true := by
  intro b hb
  unfold runL at hb
  induction l with
  | nil => cases hb
  | cons x r ih =>
    rw [List.takeWhile_cons] at hb
    split at hb
    · rcases List.mem_cons.1 hb with rfl | h
      · assumption
      · exact ih h
    · cases hb

theorem quoted_back (q : UInt8) (t r : List UInt8) (hr : ∀ b, r.head? = some b → b ≠ q) :
    quoted q ((t.flatMap fun b => if b = q then [q, b] else [b]) ++ q :: r) = some (t, (t.flatMap fun b => if b = q then [q, b] else [b]).length + 1) := by
  induction t with
  | nil =>
    cases r with
    | nil => simp [quoted]
    | cons c r => simp [quoted, hr c rfl]
  | cons b t ih =>
    rw [List.flatMap_cons]
    by_cases hb : b = q
    · subst hb
      rw [if_pos rfl, List.append_assoc, List.cons_append, List.cons_append, List.nil_append, quoted, if_pos rfl, if_pos rfl, ih]
      simp [Nat.add_comm]
      omega
    · rw [if_neg hb, List.append_assoc, List.cons_append, List.nil_append]
      cases hc : (t.flatMap fun b => if b = q then [q, b] else [b]) ++ q :: r with
      | nil => exact absurd hc (by simp)
      | cons c r' =>
        rw [quoted, if_neg hb, ← hc, ih]
        simp [Nat.add_comm]

/-- How a right word is spelt. -/
def sp (k : Nat) (t : List UInt8) : List UInt8 := if k = 1 then quoteL 34 t else if k = 3 then quoteL 39 t else t

/-- A word that is read as itself from how it is spelt. -/
def Right (k : Nat) (t : List UInt8) : Prop :=
  sp k t ≠ [] ∧ k ≤ 4 ∧ ∀ r, Ends r → one (sp k t ++ r) = some (k, t, (sp k t).length) ∧ gap false (sp k t ++ r) = 0

theorem gap_stop {b : UInt8} {r : List UInt8} (h1 : blankB b = false) (h2 : b.toNat ≠ 45) : gap false (b :: r) = 0 := by
  have : (b.toNat == 45) = false := by simpa using h2
  simp [gap, h1, this]

theorem letter_not_blank {b : UInt8} (h : moreB b = true) : blankB b = false ∧ b.toNat ≠ 45 := by
  simp only [moreB, letterB, digitB, Bool.or_eq_true, Bool.and_eq_true, decide_eq_true_eq, beq_iff_eq] at h
  constructor
  · simp only [blankB, Bool.or_eq_false_iff, beq_eq_false_iff_ne]; omega
  · omega

theorem right_run {k : Nat} {b : UInt8} {t : List UInt8} (hk : k = 0 ∨ k = 2) (hall : ∀ c ∈ b :: t, moreB c = true)
    (hone : ∀ r, runL (b :: t ++ r) = b :: t → one (b :: t ++ r) = some (k, b :: t, (b :: t).length)) : Right k (b :: t) := by
  have hs : sp k (b :: t) = b :: t := by rcases hk with rfl | rfl <;> simp [sp]
  unfold Right
  rw [hs]
  refine ⟨by simp, by omega, fun r hr => ⟨hone r (runL_append hall hr), ?_⟩⟩
  obtain ⟨h1, h2⟩ := letter_not_blank (hall b (List.mem_cons_self ..))
  exact gap_stop h1 h2

theorem right_word {b : UInt8} {t : List UInt8} (hb : letterB b = true) (hall : ∀ c ∈ b :: t, moreB c = true ∧ lowB c = c) : Right 0 (b :: t) := by
  refine right_run (.inl rfl) (fun c hc => (hall c hc).1) fun r hr => ?_
  rw [List.cons_append] at hr ⊢
  rw [one, if_pos hb, runN, hr]
  congr 2
  congr 1
  exact (List.map_congr_left fun c hc => (hall c hc).2).trans (List.map_id _)

theorem right_num {b : UInt8} {t : List UInt8} (hb : digitB b = true) (hl : letterB b = false) (hall : ∀ c ∈ b :: t, moreB c = true) (hn : 0 ≤ readD (b :: t)) : Right 2 (b :: t) := by
  refine right_run (.inr rfl) hall fun r hr => ?_
  rw [List.cons_append] at hr ⊢
  rw [one, if_neg (by simp [hl]), if_pos hb, runN, hr, if_pos hn]

theorem Ends.ne {r : List UInt8} (h : Ends r) {q : UInt8} (hq : q.toNat = 34 ∨ q.toNat = 39) : ∀ b, r.head? = some b → b ≠ q := by
  intro b hb e
  have := h b hb
  subst e
  omega

theorem right_name {t : List UInt8} (h : nameB t = true) : Right 1 t := by
  have hs : sp 1 t = quoteL 34 t := by simp [sp]
  unfold Right
  rw [hs]
  refine ⟨by simp [quoteL], by omega, fun r hr => ⟨?_, ?_⟩⟩
  · unfold quoteL
    rw [List.append_assoc, List.cons_append, List.singleton_append, one]
    rw [if_neg (by decide), if_neg (by decide), if_pos (by decide), quoted_back 34 t r (hr.ne (.inl rfl)), Option.bind_some, if_pos h]
    simp [Nat.add_comm]
  · exact gap_stop (b := 34) (by decide) (by decide)

theorem right_text {t : List UInt8} (h : t.length ≤ 100) : Right 3 t := by
  have hs : sp 3 t = quoteL 39 t := by simp [sp]
  unfold Right
  rw [hs]
  refine ⟨by simp [quoteL], by omega, fun r hr => ⟨?_, ?_⟩⟩
  · unfold quoteL
    rw [List.append_assoc, List.cons_append, List.singleton_append, one]
    rw [if_neg (by decide), if_neg (by decide), if_neg (by decide), if_pos (by decide), quoted_back 39 t r (hr.ne (.inr rfl)), Option.bind_some, if_pos h]
    simp [Nat.add_comm]
  · exact gap_stop (b := 39) (by decide) (by decide)

theorem sign_facts {b : UInt8} (h : signB b = true) : letterB b = false ∧ digitB b = false ∧ b.toNat ≠ 34 ∧ b.toNat ≠ 39 ∧ blankB b = false := by
  simp only [signB, List.contains_eq_mem, List.mem_cons, List.not_mem_nil, or_false, decide_eq_true_eq] at h
  simp only [letterB, digitB, blankB, Bool.or_eq_false_iff, Bool.and_eq_false_iff, decide_eq_false_iff_not, beq_eq_false_iff_ne]
  omega

theorem two_sign {b c : UInt8} (h : twoB b c = true) : signB b = true ∧ b.toNat ≠ 45 := by
  simp only [twoB, Bool.or_eq_true, Bool.and_eq_true, beq_iff_eq] at h
  simp only [signB, List.contains_eq_mem, List.mem_cons, List.not_mem_nil, or_false, decide_eq_true_eq]
  omega

theorem two_not {b c : UInt8} (h : c.toNat = 32 ∨ c.toNat = 10 ∨ c.toNat = 59) : twoB b c = false := by
  simp only [twoB, Bool.or_eq_false_iff, Bool.and_eq_false_iff, beq_eq_false_iff_ne]; omega

theorem signN_pos_sign {b : UInt8} {r : List UInt8} (h : signN (b :: r) ≠ 0) : signB b = true := by
  cases r with
  | nil =>
    rw [signN] at h
    split at h
    · assumption
    · exact absurd rfl h
  | cons c r =>
    rw [signN] at h
    split at h
    · rename_i h2; exact (two_sign h2).1
    · split at h
      · assumption
      · exact absurd rfl h

theorem one_sign {b : UInt8} {r : List UInt8} (h : signB b = true) (hn : signN (b :: r) ≠ 0) : one (b :: r) = some (4, (b :: r).take (signN (b :: r)), signN (b :: r)) := by
  obtain ⟨h1, h2, h3, h4, _⟩ := sign_facts h
  rw [one, if_neg (by simp [h1]), if_neg (by simp [h2]), if_neg h3, if_neg h4, if_neg hn]

theorem right_sign {l : List UInt8} (h : signN l ≠ 0) : Right 4 (l.take (signN l)) := by
  cases l with
  | nil => exact absurd rfl h
  | cons b r =>
    have hb := signN_pos_sign h
    have hf := sign_facts hb
    have hs : ∀ t, sp 4 t = t := fun t => by simp [sp]
    unfold Right
    rw [hs]
    have one1 : ∀ r', Ends r' → one ([b] ++ r') = some (4, [b], 1) ∧ gap false ([b] ++ r') = 0 := by
      intro r' hr'
      have e : signN ([b] ++ r') = 1 := by
        cases r' with
        | nil => simp [signN, hb]
        | cons c r'' => simp [signN, two_not (hr' c rfl), hb]
      refine ⟨?_, ?_⟩
      · rw [List.singleton_append] at e ⊢
        rw [one_sign hb (by omega), e]; rfl
      · rw [List.singleton_append, gap, if_neg (by simp [hf.2.2.2.2])]
        rw [if_neg]
        intro hc
        simp only [Bool.and_eq_true, beq_iff_eq, Option.map_eq_some_iff] at hc
        obtain ⟨_, x, hx, h45⟩ := hc
        have := hr' x hx
        omega
    have small : signN (b :: r) = 1 → ((b :: r).take (signN (b :: r)) ≠ [] ∧ 4 ≤ 4 ∧ ∀ r', Ends r' → one ((b :: r).take (signN (b :: r)) ++ r') = some (4, (b :: r).take (signN (b :: r)), ((b :: r).take (signN (b :: r))).length) ∧ gap false ((b :: r).take (signN (b :: r)) ++ r') = 0) := by
      intro e
      rw [e]
      exact ⟨by simp, by omega, fun r' hr' => one1 r' hr'⟩
    cases r with
    | nil => exact small (by simp [signN, hb])
    | cons c r =>
      by_cases h2 : twoB b c = true
      · have e : ∀ r', signN (b :: c :: r') = 2 := fun r' => by simp [signN, h2]
        rw [e]
        refine ⟨by simp, by omega, fun r' _ => ⟨?_, ?_⟩⟩
        · show one (b :: c :: r') = _
          rw [one_sign hb (by rw [e]; omega), e]; rfl
        · exact gap_stop (b := b) hf.2.2.2.2 (two_sign h2).2
      · exact small (by simp [signN, h2, hb])

/-- What is read is right. -/
theorem one_right {l : List UInt8} {k : Nat} {t : List UInt8} {n : Nat} (h : one l = some (k, t, n)) : Right k t := by
  cases l with
  | nil => simp [one] at h
  | cons b r =>
    rw [one] at h
    split at h
    · rename_i hb
      simp only [Option.some.injEq, Prod.mk.injEq] at h
      obtain ⟨rfl, rfl, _⟩ := h
      have hm : moreB b = true := by simp [moreB, hb]
      have e : runL (b :: r) = b :: runL r := by simp [runL, hm]
      rw [e, List.map_cons]
      refine right_word (letter_low b hb) fun c hc => ?_
      rw [← List.map_cons (f := lowB), ← e] at hc
      obtain ⟨x, hx, rfl⟩ := List.mem_map.1 hc
      exact ⟨more_low x (runL_all _ x hx), low_low x⟩
    · rename_i hnl
      split at h
      · rename_i hb
        split at h
        · rename_i hn
          simp only [Option.some.injEq, Prod.mk.injEq] at h
          obtain ⟨rfl, rfl, _⟩ := h
          have hm : moreB b = true := by simp [moreB, hb]
          have e : runL (b :: r) = b :: runL r := by simp [runL, hm]
          rw [e] at hn ⊢
          refine right_num hb (by simpa using hnl) (fun c hc => ?_) hn
          rw [← e] at hc
          exact runL_all _ c hc
        · cases h
      · split at h
        · cases hq : quoted 34 r with
          | none => rw [hq] at h; cases h
          | some x =>
            rw [hq, Option.bind_some] at h
            split at h
            · rename_i hn
              simp only [Option.some.injEq, Prod.mk.injEq] at h
              obtain ⟨rfl, rfl, _⟩ := h
              exact right_name hn
            · cases h
        · split at h
          · cases hq : quoted 39 r with
            | none => rw [hq] at h; cases h
            | some x =>
              rw [hq, Option.bind_some] at h
              split at h
              · rename_i hn
                simp only [Option.some.injEq, Prod.mk.injEq] at h
                obtain ⟨rfl, rfl, _⟩ := h
                exact right_text hn
              · cases h
          · split at h
            · cases h
            · rename_i hn
              simp only [Option.some.injEq, Prod.mk.injEq] at h
              obtain ⟨rfl, rfl, _⟩ := h
              exact right_sign hn

theorem lexAt_right : ∀ (m : Nat) (p : Nat) (l : List UInt8) (ts : List Tok), l.length ≤ m → lexAt p l = .ok ts → ∀ x ∈ ts, Right x.kind x.text
  | 0, p, l, ts, hm, h, x, hx => by
    obtain rfl : l = [] := List.eq_nil_of_length_eq_zero (by omega)
    rw [lexAt_nil] at h
    cases h
    cases hx
  | m + 1, p, l, ts, hm, h, x, hx => by
    by_cases h0 : l = []
    · subst h0
      rw [lexAt_nil] at h
      cases h
      cases hx
    · cases h1 : one l with
      | none => rw [lexAt_bad h0 h1] at h; cases h
      | some y =>
        obtain ⟨k, t, n⟩ := y
        rw [lexAt_one h1] at h
        cases h2 : lexAt (p + n + gap false (l.drop n)) ((l.drop n).drop (gap false (l.drop n))) with
        | error e => rw [h2] at h; cases h
        | ok us =>
          rw [h2] at h
          cases h
          have hpos := one_pos h1
          have hl : 0 < l.length := List.length_pos_iff.2 h0
          rcases List.mem_append.1 hx with hx | hx
          · simp only [List.mem_singleton] at hx
            subst hx
            exact one_right h1
          · exact lexAt_right m _ _ us (by simp only [List.length_drop]; omega) h2 x hx

/-- The spelt words, each behind a blank but for the first. -/
def spellR : List (Nat × List UInt8) → List UInt8
  | [] => []
  | [x] => sp x.1 x.2
  | x :: y :: r => sp x.1 x.2 ++ 32 :: spellR (y :: r)

def kt (ts : List Tok) : List (Nat × List UInt8) := ts.map fun x => (x.kind, x.text)

theorem spellR_head {x : Nat × List UInt8} {r : List (Nat × List UInt8)} : ∃ q, spellR (x :: r) = sp x.1 x.2 ++ q ∧ Ends q := by
  cases r with
  | nil => exact ⟨[], by simp [spellR], ends_nil⟩
  | cons y r => exact ⟨32 :: spellR (y :: r), rfl, ends_cons (.inl rfl)⟩

theorem gap_blank (r : List UInt8) : gap false (32 :: r) = 1 + gap false r := by
  rw [gap, if_pos (by decide)]

theorem spell_back : ∀ (xs : List (Nat × List UInt8)) (p : Nat), (∀ x ∈ xs, Right x.1 x.2) → ∃ ts, lexAt p (spellR xs) = .ok ts ∧ kt ts = xs ∧ gap false (spellR xs) = 0
  | [], p, _ => ⟨[], lexAt_nil p, rfl, rfl⟩
  | [x], p, h => by
    have hx := h x (List.mem_cons_self ..)
    have := hx.2.2 [] ends_nil
    rw [List.append_nil] at this
    refine ⟨[⟨x.1, x.2, p⟩], ?_, rfl, this.2⟩
    rw [spellR, lexAt_one this.1, List.drop_length, gap, List.drop_nil, lexAt_nil]
    rfl
  | x :: y :: r, p, h => by
    have hx := h x (List.mem_cons_self ..)
    have := hx.2.2 (32 :: spellR (y :: r)) (ends_cons (.inl rfl))
    obtain ⟨ts, h1, h2, h3⟩ := spell_back (y :: r) (p + (sp x.1 x.2).length + 1) (fun z hz => h z (List.mem_cons_of_mem _ hz))
    refine ⟨⟨x.1, x.2, p⟩ :: ts, ?_, by simp only [kt, List.map_cons] at h2 ⊢; rw [h2], this.2⟩
    rw [spellR, lexAt_one this.1, List.drop_left, gap_blank, h3, Nat.add_zero, List.drop_succ_cons, List.drop_zero, h1]
    rfl

end Go.Proofs.YtnepfnbmmdcgpaaDoor
