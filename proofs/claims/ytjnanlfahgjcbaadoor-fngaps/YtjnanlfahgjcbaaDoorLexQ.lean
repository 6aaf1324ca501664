/- Where words stand; blanks and notes around them; great letters: plain mathematics. -/
import Derived.Test.YtjnanlfahgjcbaaDoorLexP
namespace Go.Proofs.YtjnanlfahgjcbaaDoor

/-! The places of words. -/

def FitsAt (l : List UInt8) (x : Tok) : Prop :=
  ∃ b, l[x.at_]? = some b ∧ (x.kind = 1 ↔ b.toNat = 34) ∧ (x.kind = 3 ↔ b.toNat = 39) ∧ (x.kind = 2 ↔ (48 ≤ b.toNat ∧ b.toNat ≤ 57))

def placed (l : List UInt8) : Nat → List Tok → Prop
  | _, [] => True
  | p, x :: r => p ≤ x.at_ ∧ FitsAt l x ∧ placed l (x.at_ + 1) r

theorem placed_mono {l : List UInt8} : ∀ {ts : List Tok} {p q : Nat}, placed l q ts → p ≤ q → placed l p ts
  | [], _, _, _, _ => trivial
  | x :: r, p, q, h, hp => ⟨Nat.le_trans hp h.1, h.2⟩

theorem one_kind {b : UInt8} {r : List UInt8} {k : Nat} {t : List UInt8} {n : Nat} (h : one (b :: r) = some (k, t, n)) :
    (k = 1 ↔ b.toNat = 34) ∧ (k = 3 ↔ b.toNat = 39) ∧ (k = 2 ↔ (48 ≤ b.toNat ∧ b.toNat ≤ 57)) := by
  rw [one] at h
  split at h
  · rename_i hb
    simp only [Option.some.injEq, Prod.mk.injEq] at h
    simp only [letterB, Bool.or_eq_true, Bool.and_eq_true, decide_eq_true_eq, beq_iff_eq] at hb
    omega
  · split at h
    · rename_i hb
      simp only [digitB, Bool.and_eq_true, decide_eq_true_eq] at hb
      split at h
      · simp only [Option.some.injEq, Prod.mk.injEq] at h
        omega
      · cases h
    · rename_i hd
      simp only [digitB, Bool.and_eq_true, decide_eq_true_eq] at hd
      split at h
      · rename_i hb
        cases hq : quoted 34 r with
        | none => rw [hq] at h; cases h
        | some x =>
          rw [hq, Option.bind_some] at h
          split at h
          · simp only [Option.some.injEq, Prod.mk.injEq] at h; omega
          · cases h
      · split at h
        · cases hq : quoted 39 r with
          | none => rw [hq] at h; cases h
          | some x =>
            rw [hq, Option.bind_some] at h
            split at h
            · simp only [Option.some.injEq, Prod.mk.injEq] at h; omega
            · cases h
        · split at h
          · cases h
          · simp only [Option.some.injEq, Prod.mk.injEq] at h; omega

theorem lexAt_placed (l : List UInt8) : ∀ (m p : Nat) (ts : List Tok), (l.drop p).length ≤ m → lexAt p (l.drop p) = .ok ts → placed l p ts
  | 0, p, ts, hm, h => by
    rw [List.eq_nil_of_length_eq_zero (Nat.le_zero.1 hm), lexAt_nil] at h
    cases h
    trivial
  | m + 1, p, ts, hm, h => by
    by_cases h0 : l.drop p = []
    · rw [h0, lexAt_nil] at h
      cases h
      trivial
    · cases h1 : one (l.drop p) with
      | none => rw [lexAt_bad h0 h1] at h; cases h
      | some y =>
        obtain ⟨k, t, n⟩ := y
        have hpos := one_pos h1
        rw [lexAt_one h1, List.drop_drop, List.drop_drop] at h
        cases h2 : lexAt (p + n + gap false (l.drop (p + n))) (l.drop (p + n + gap false (l.drop (p + n)))) with
        | error e => rw [h2] at h; cases h
        | ok us =>
          rw [h2] at h
          cases h
          have hp : p < l.length := by
            rcases Nat.lt_or_ge p l.length with hlt | hge
            · exact hlt
            · exact absurd (List.drop_eq_nil_iff.2 hge) h0
          have hl : 0 < (l.drop p).length := List.length_pos_iff.2 h0
          have ih := lexAt_placed l m (p + n + gap false (l.drop (p + n))) us (by rw [List.length_drop] at hm hl ⊢; omega) h2
          refine ⟨Nat.le_refl _, ⟨l[p], by simp [hp], ?_⟩, placed_mono ih (by show p + 1 ≤ _; omega)⟩
          rw [List.drop_eq_getElem_cons hp] at h1
          exact one_kind h1

theorem lexB_placed {l : List UInt8} {ts : List Tok} (h : lexB l = .ok ts) : placed l 0 ts := by
  unfold lexB at h
  split at h
  · cases h
  · exact placed_mono (lexAt_placed l _ _ ts (Nat.le_refl _) h) (Nat.zero_le _)

theorem placed_at {l : List UInt8} : ∀ {ts : List Tok} {p : Nat}, placed l p ts → ∀ (i : Nat) (h : i < ts.length), p ≤ ts[i].at_ ∧ FitsAt l ts[i] ∧ (0 < i → ∃ h' : i - 1 < ts.length, ts[i - 1].at_ < ts[i].at_)
  | [], _, _, i, h => by simp at h
  | x :: r, p, hp, 0, _ => ⟨hp.1, hp.2.1, fun h => by omega⟩
  | x :: r, p, hp, i + 1, h => by
    have hi : i < r.length := by simpa using h
    obtain ⟨h1, h2, h3⟩ := placed_at hp.2.2 i hi
    have h0 := hp.1
    refine ⟨by simp only [List.getElem_cons_succ]; omega, by simpa using h2, fun _ => ⟨by simp; omega, ?_⟩⟩
    rcases Nat.eq_zero_or_pos i with rfl | hpos
    · simp only [List.getElem_cons_succ]
      show x.at_ < _
      omega
    · obtain ⟨h', hlt⟩ := h3 hpos
      simp only [List.getElem_cons_succ]
      have e : (x :: r)[i + 1 - 1]'(by simp; omega) = r[i - 1] := by
        have : i + 1 - 1 = (i - 1) + 1 := by omega
        simp only [this, List.getElem_cons_succ]
      rw [e]
      exact hlt

/-! Where a word lies elsewhere. -/

def shift (d : Nat) : Except Nat (List Tok) → Except Nat (List Tok)
  | .ok ts => .ok (ts.map fun x => ⟨x.kind, x.text, x.at_ + d⟩)
  | .error e => .error (e + d)

theorem lexAt_shift (d : Nat) : ∀ (m p : Nat) (l : List UInt8), l.length ≤ m → lexAt (p + d) l = shift d (lexAt p l)
  | 0, p, l, hm => by
    rw [List.eq_nil_of_length_eq_zero (Nat.le_zero.1 hm), lexAt_nil, lexAt_nil]; rfl
  | m + 1, p, l, hm => by
    by_cases h0 : l = []
    · subst h0; rw [lexAt_nil, lexAt_nil]; rfl
    · cases h1 : one l with
      | none => rw [lexAt_bad h0 h1, lexAt_bad h0 h1]; rfl
      | some y =>
        obtain ⟨k, t, n⟩ := y
        have hpos := one_pos h1
        have hl : 0 < l.length := List.length_pos_iff.2 h0
        have ih := lexAt_shift d m (p + n + gap false (l.drop n)) ((l.drop n).drop (gap false (l.drop n))) (by simp only [List.length_drop]; omega)
        rw [lexAt_one h1, lexAt_one h1, show p + d + n + gap false (l.drop n) = p + n + gap false (l.drop n) + d by omega, ih]
        cases lexAt (p + n + gap false (l.drop n)) ((l.drop n).drop (gap false (l.drop n))) <;> rfl

/-! What stands behind all words. -/

def tailB : List UInt8 := [10, 13, 32, 45, 45, 32, 101, 110, 100]

theorem gap_tail : ∀ (l : List UInt8) (c : Bool), (gap c l < l.length ∧ gap c (l ++ tailB) = gap c l) ∨ (gap c l = l.length ∧ gap c (l ++ tailB) = (l ++ tailB).length)
  | [], c => by cases c <;> exact .inr ⟨rfl, by decide⟩
  | b :: r, true => by
    rw [List.cons_append, gap, gap]
    rcases gap_tail r (b.toNat != 10) with ⟨h1, h2⟩ | ⟨h1, h2⟩
    · left; rw [h2]; exact ⟨by simp only [List.length_cons]; omega, rfl⟩
    · right; rw [h1, h2]; exact ⟨by simp only [List.length_cons]; omega, by simp only [List.length_cons]; omega⟩
  | b :: r, false => by
    rw [List.cons_append, gap, gap]
    by_cases hb : blankB b = true
    · rw [if_pos hb, if_pos hb]
      rcases gap_tail r false with ⟨h1, h2⟩ | ⟨h1, h2⟩
      · left; rw [h2]; exact ⟨by simp only [List.length_cons]; omega, rfl⟩
      · right; rw [h1, h2]; exact ⟨by simp only [List.length_cons]; omega, by simp only [List.length_cons]; omega⟩
    · rw [if_neg hb, if_neg hb]
      have e : (((r ++ tailB).head?.map (·.toNat)) == some 45) = ((r.head?.map (·.toNat)) == some 45) := by
        cases r with
        | nil => rfl
        | cons c r => rfl
      rw [e]
      split
      · rcases gap_tail r true with ⟨h1, h2⟩ | ⟨h1, h2⟩
        · left; rw [h2]; exact ⟨by simp only [List.length_cons]; omega, rfl⟩
        · right; rw [h1, h2]; exact ⟨by simp only [List.length_cons]; omega, by simp only [List.length_cons]; omega⟩
      · left; exact ⟨by simp only [List.length_cons]; omega, rfl⟩

theorem runL_tail (l : List UInt8) : runL (l ++ tailB) = runL l := by
  induction l with
  | nil => rfl
  | cons b r ih =>
    unfold runL at ih ⊢
    rw [List.cons_append, List.takeWhile_cons, List.takeWhile_cons, ih]

theorem quoted_tail (q : UInt8) (hq : q = 34 ∨ q = 39) : ∀ (m : Nat) (l : List UInt8), l.length ≤ m → quoted q (l ++ tailB) = quoted q l
  | _, [], _ => by rcases hq with rfl | rfl <;> rfl
  | _, [b], _ => by
    have e : quoted q ([b] ++ tailB) = if b = q then some ([], 1) else (quoted q tailB).map fun x => (b :: x.1, 1 + x.2) := by
      show quoted q (b :: 10 :: _) = _
      rw [quoted]
      have : ¬ (10 : UInt8) = q := by rcases hq with rfl | rfl <;> decide
      rw [if_neg this]
      rfl
    rw [e, quoted]
    have h0 : quoted q tailB = none := by rcases hq with rfl | rfl <;> rfl
    rw [h0]
    rfl
  | 0, b :: c :: r, h => by simp at h
  | m + 1, b :: c :: r, h => by
    have h' : r.length + 1 ≤ m := by simpa using h
    rw [List.cons_append, List.cons_append, quoted, quoted, quoted_tail q hq m r (by omega)]
    have := quoted_tail q hq m (c :: r) (by simpa using h')
    rw [List.cons_append] at this
    rw [this]

theorem signN_tail (b : UInt8) (r : List UInt8) : signN (b :: r ++ tailB) = signN (b :: r) := by
  cases r with
  | nil =>
    show signN (b :: 10 :: _) = _
    rw [signN, signN, if_neg (by simp [two_not (b := b) (c := 10) (.inr (.inl rfl))])]
  | cons c r => rfl

theorem signN_le (b : UInt8) (r : List UInt8) : signN (b :: r) ≤ (b :: r).length := by
  cases r with
  | nil => rw [signN]; split <;> simp
  | cons c r =>
    rw [signN]
    split
    · simp only [List.length_cons]; omega
    · split <;> simp

theorem one_tail {l : List UInt8} (h : l ≠ []) : one (l ++ tailB) = one l := by
  cases l with
  | nil => exact absurd rfl h
  | cons b r =>
    have e := runL_tail (b :: r)
    have s := signN_tail b r
    have sl := signN_le b r
    rw [List.cons_append] at e s ⊢
    rw [one, one, runN, runN, e, quoted_tail 34 (.inl rfl) _ r (Nat.le_refl _), quoted_tail 39 (.inr rfl) _ r (Nat.le_refl _), s]
    rw [← List.cons_append, List.take_append_of_le_length sl]

theorem quoted_len {q : UInt8} : ∀ (m : Nat) (l : List UInt8) (x : List UInt8 × Nat), l.length ≤ m → quoted q l = some x → x.2 ≤ l.length ∧ 1 ≤ x.2 ∧ x.1.length + 1 ≤ x.2
  | _, [], x, _, h => by rw [quoted] at h; cases h
  | _, [b], x, _, h => by
    rw [quoted] at h
    split at h
    · cases h; simp
    · cases h
  | 0, b :: c :: r, x, hm, _ => by simp at hm
  | m + 1, b :: c :: r, x, hm, h => by
    have h' : r.length + 1 ≤ m := by simpa using hm
    rw [quoted] at h
    split at h
    · split at h
      · cases hq : quoted q r with
        | none => rw [hq] at h; cases h
        | some y =>
          rw [hq] at h
          cases h
          have := quoted_len m r y (by omega) hq
          simp only [List.length_cons]
          omega
      · cases h; simp
    · cases hq : quoted q (c :: r) with
      | none => rw [hq] at h; cases h
      | some y =>
        rw [hq] at h
        cases h
        have := quoted_len m (c :: r) y (by simpa using h') hq
        simp only [List.length_cons] at this ⊢
        omega

theorem runN_le (l : List UInt8) : runN l ≤ l.length := by
  unfold runN runL
  exact (List.takeWhile_sublist _).length_le

theorem one_le {l : List UInt8} {k : Nat} {t : List UInt8} {n : Nat} (h : one l = some (k, t, n)) : n ≤ l.length ∧ t.length ≤ n := by
  cases l with
  | nil => simp [one] at h
  | cons b r =>
    rw [one] at h
    split at h
    · simp only [Option.some.injEq, Prod.mk.injEq] at h
      obtain ⟨_, rfl, rfl⟩ := h
      exact ⟨runN_le _, by simp [runN]⟩
    · split at h
      · split at h
        · simp only [Option.some.injEq, Prod.mk.injEq] at h
          obtain ⟨_, rfl, rfl⟩ := h
          exact ⟨runN_le _, by simp [runN]⟩
        · cases h
      · split at h
        · cases hq : quoted 34 r with
          | none => rw [hq] at h; cases h
          | some x =>
            have := quoted_len _ r x (Nat.le_refl _) hq
            rw [hq, Option.bind_some] at h
            split at h
            · simp only [Option.some.injEq, Prod.mk.injEq] at h
              obtain ⟨_, rfl, rfl⟩ := h
              simp only [List.length_cons]; omega
            · cases h
        · split at h
          · cases hq : quoted 39 r with
            | none => rw [hq] at h; cases h
            | some x =>
              have := quoted_len _ r x (Nat.le_refl _) hq
              rw [hq, Option.bind_some] at h
              split at h
              · simp only [Option.some.injEq, Prod.mk.injEq] at h
                obtain ⟨_, rfl, rfl⟩ := h
                simp only [List.length_cons]; omega
              · cases h
          · split at h
            · cases h
            · simp only [Option.some.injEq, Prod.mk.injEq] at h
              obtain ⟨_, rfl, rfl⟩ := h
              have := signN_le b r
              exact ⟨this, by rw [List.length_take]; omega⟩

theorem lexAt_tail : ∀ (m p : Nat) (l : List UInt8), l.length ≤ m → lexAt (p + gap false (l ++ tailB)) ((l ++ tailB).drop (gap false (l ++ tailB))) = lexAt (p + gap false l) (l.drop (gap false l)) := by
  intro m
  induction m with
  | zero =>
    intro p l hm
    rw [List.eq_nil_of_length_eq_zero (Nat.le_zero.1 hm)]
    rw [show gap false ([] ++ tailB) = ([] ++ tailB).length from by decide, List.drop_length, lexAt_nil]
    rw [show gap false [] = 0 from rfl, List.drop_nil, lexAt_nil]
  | succ m ih =>
    intro p l hm
    rcases gap_tail l false with ⟨h1, h2⟩ | ⟨h1, h2⟩
    · rw [h2, List.drop_append_of_le_length (by omega)]
      have h0 : l.drop (gap false l) ≠ [] := by
        intro e
        have := congrArg List.length e
        simp at this
        omega
      cases h3 : one (l.drop (gap false l)) with
      | none => rw [lexAt_bad h0 h3, lexAt_bad (by simp [h0]) (by rw [one_tail h0]; exact h3)]
      | some y =>
        obtain ⟨k, t, n⟩ := y
        have hpos := one_pos h3
        obtain ⟨hle, _⟩ := one_le h3
        rw [lexAt_one h3, lexAt_one (by rw [one_tail h0]; exact h3), List.drop_append_of_le_length hle]
        rw [ih (p + gap false l + n) ((l.drop (gap false l)).drop n) (by simp only [List.length_drop] at hle ⊢; omega)]
    · rw [h1, h2, List.drop_length, List.drop_length, lexAt_nil, lexAt_nil]

def headB : List UInt8 := [45, 45, 32, 115, 97, 105, 100, 32, 39, 120, 10, 32, 9]

theorem gap_head (l : List UInt8) : gap false (headB ++ l) = 13 + gap false l := by
  simp [headB, gap, blankB]
  omega

theorem lexB_gaps {l : List UInt8} (h : l.length ≤ 19960) : lexB (headB ++ l ++ tailB) = shift 13 (lexB l) := by
  unfold lexB
  rw [if_neg (by simp [headB, tailB]; omega), if_neg (by omega), List.append_assoc, gap_head]
  rw [show (13 + gap false (l ++ tailB)) = headB.length + gap false (l ++ tailB) from rfl, List.drop_append, List.drop_of_length_le (by simp), List.nil_append, Nat.add_sub_cancel_left, lexAt_tail _ _ l (Nat.le_refl _)]
  rw [Nat.add_comm, show headB.length = 13 from rfl]
  exact lexAt_shift 13 _ _ _ (Nat.le_refl _)

end Go.Proofs.YtjnanlfahgjcbaaDoor
