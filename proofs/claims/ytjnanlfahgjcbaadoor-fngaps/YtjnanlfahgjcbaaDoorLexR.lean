/- Words mean the same in great letters: plain mathematics. -/
import Derived.Test.YtjnanlfahgjcbaaDoorLexQ
namespace Go.Proofs.YtjnanlfahgjcbaaDoor

def upB (b : UInt8) : UInt8 := if decide (97 ≤ b.toNat) && decide (b.toNat ≤ 122) then b - 32 else b

theorem upB_cases (b : UInt8) : (upB b = b ∧ ¬ (97 ≤ b.toNat ∧ b.toNat ≤ 122)) ∨ ((upB b).toNat = b.toNat - 32 ∧ 97 ≤ b.toNat ∧ b.toNat ≤ 122) := by
  unfold upB
  by_cases h : 97 ≤ b.toNat ∧ b.toNat ≤ 122
  · right
    rw [if_pos (by simp [h.1, h.2])]
    refine ⟨?_, h⟩
    have : (32 : UInt8).toNat = 32 := rfl
    rw [UInt8.toNat_sub_of_le _ _ (by rw [UInt8.le_iff_toNat_le]; omega), this]
  · left
    refine ⟨?_, h⟩
    rw [if_neg]
    intro hc
    simp only [Bool.and_eq_true, decide_eq_true_eq] at hc
    exact h hc

theorem up_up (b : UInt8) : upB (upB b) = upB b := by
  rcases upB_cases b with ⟨e, _⟩ | ⟨e, h1, h2⟩
  · rw [e, e]
  · rcases upB_cases (upB b) with ⟨e', _⟩ | ⟨e', h3, h4⟩
    · exact e'
    · omega

theorem more_up (b : UInt8) : moreB (upB b) = moreB b := by
  rcases upB_cases b with ⟨e, _⟩ | ⟨e, h1, h2⟩
  · rw [e]
  · rw [Bool.eq_iff_iff]
    simp only [moreB, letterB, digitB, e, Bool.or_eq_true, Bool.and_eq_true, decide_eq_true_eq, beq_iff_eq]; omega

theorem letter_up (b : UInt8) : letterB (upB b) = letterB b := by
  rcases upB_cases b with ⟨e, _⟩ | ⟨e, h1, h2⟩
  · rw [e]
  · rw [Bool.eq_iff_iff]
    simp only [letterB, e, Bool.or_eq_true, Bool.and_eq_true, decide_eq_true_eq, beq_iff_eq]; omega

theorem low_up (b : UInt8) : lowB (upB b) = lowB b := by
  rcases upB_cases b with ⟨e, _⟩ | ⟨e, h1, h2⟩
  · rw [e]
  · rcases lowB_cases (upB b) with ⟨e1, h3⟩ | ⟨e1, h3, h4⟩
    · omega
    · rcases lowB_cases b with ⟨e2, h5⟩ | ⟨e2, h5, h6⟩
      · rw [e2]; exact UInt8.toNat_inj.1 (by omega)
      · omega

/-- A byte that no letter is stays what it is. -/
theorem up_iff (b : UInt8) (n : Nat) (h : ¬ (97 ≤ n ∧ n ≤ 122)) (h' : ¬ (65 ≤ n ∧ n ≤ 90)) : (upB b).toNat = n ↔ b.toNat = n := by
  rcases upB_cases b with ⟨e, _⟩ | ⟨e, h1, h2⟩
  · rw [e]
  · omega

theorem blank_up (b : UInt8) : blankB (upB b) = blankB b := by
  rw [Bool.eq_iff_iff]
  simp only [blankB, Bool.or_eq_true, beq_iff_eq]
  rw [up_iff b 32 (by omega) (by omega), up_iff b 9 (by omega) (by omega), up_iff b 10 (by omega) (by omega), up_iff b 13 (by omega) (by omega)]

def weak : List UInt8 → List UInt8 → Prop
  | [], [] => True
  | b :: r, c :: s => (c = b ∨ c = upB b) ∧ weak r s
  | _, _ => False

theorem weak_refl : ∀ l, weak l l
  | [] => trivial
  | _ :: r => ⟨.inl rfl, weak_refl r⟩

theorem weak_len : ∀ {l u : List UInt8}, weak l u → u.length = l.length
  | [], [], _ => rfl
  | [], _ :: _, h => h.elim
  | _ :: _, [], h => h.elim
  | b :: r, c :: s, h => by simp [weak_len h.2]

theorem weak_drop : ∀ {l u : List UInt8} (n : Nat), weak l u → weak (l.drop n) (u.drop n)
  | _, _, 0, h => h
  | [], [], _ + 1, _ => trivial
  | [], _ :: _, _ + 1, h => h.elim
  | _ :: _, [], _ + 1, h => h.elim
  | b :: r, c :: s, n + 1, h => weak_drop (l := r) (u := s) n h.2

theorem weak_head {l u : List UInt8} (h : weak l u) : (l.head? = none ∧ u.head? = none) ∨ ∃ b c, l.head? = some b ∧ u.head? = some c ∧ (c = b ∨ c = upB b) := by
  cases l with
  | nil => cases u with
    | nil => exact .inl ⟨rfl, rfl⟩
    | cons c s => exact h.elim
  | cons b r => cases u with
    | nil => exact h.elim
    | cons c s => exact .inr ⟨b, c, rfl, rfl, h.1⟩

theorem weak_set : ∀ {l u : List UInt8} (j : Nat) (h : j < u.length), weak l u → weak l (u.set j (upB u[j]))
  | [], [], j, h, _ => by simp at h
  | [], _ :: _, _, _, h => h.elim
  | _ :: _, [], _, _, h => h.elim
  | b :: r, c :: s, 0, _, h => by
    refine ⟨?_, h.2⟩
    rcases h.1 with e | e
    · right; simp only [List.getElem_cons_zero]; rw [e]
    · right; simp only [List.getElem_cons_zero]; rw [e, up_up]
  | b :: r, c :: s, j + 1, hj, h => ⟨h.1, by simpa using weak_set (l := r) (u := s) j (by simpa using hj) h.2⟩

theorem gap_weak : ∀ {l u : List UInt8} (c : Bool), weak l u → gap c u = gap c l
  | [], [], _, _ => rfl
  | [], _ :: _, _, h => h.elim
  | _ :: _, [], _, h => h.elim
  | b :: r, d :: s, true, h => by
    have e : (d.toNat != 10) = (b.toNat != 10) := by
      rcases h.1 with rfl | rfl
      · rfl
      · rw [Bool.eq_iff_iff]; simp only [bne_iff_ne, ne_eq, up_iff b 10 (by omega) (by omega)]
    rw [gap, gap, e, gap_weak _ h.2]
  | b :: r, d :: s, false, h => by
    have e1 : blankB d = blankB b := by
      rcases h.1 with rfl | rfl
      · rfl
      · exact blank_up b
    have e2 : (d.toNat == 45) = (b.toNat == 45) := by
      rcases h.1 with rfl | rfl
      · rfl
      · rw [Bool.eq_iff_iff]; simp only [beq_iff_eq, up_iff b 45 (by omega) (by omega)]
    have e3 : ((s.head?.map (·.toNat)) == some 45) = ((r.head?.map (·.toNat)) == some 45) := by
      rcases weak_head h.2 with ⟨h1, h2⟩ | ⟨x, y, h1, h2, h3⟩
      · rw [h1, h2]
      · rw [h1, h2]
        rcases h3 with rfl | rfl
        · rfl
        · rw [Bool.eq_iff_iff]; simp only [Option.map_some, beq_iff_eq, Option.some.injEq, up_iff x 45 (by omega) (by omega)]
    rw [gap, gap, e1, e2, e3, gap_weak false h.2, gap_weak true h.2]

theorem run_weak : ∀ {l u : List UInt8}, weak l u → runN u = runN l ∧ (runL u).map lowB = (runL l).map lowB
  | [], [], _ => ⟨rfl, rfl⟩
  | [], _ :: _, h => h.elim
  | _ :: _, [], h => h.elim
  | b :: r, d :: s, h => by
    have e1 : moreB d = moreB b := by
      rcases h.1 with rfl | rfl
      · rfl
      · exact more_up b
    have e2 : lowB d = lowB b := by
      rcases h.1 with rfl | rfl
      · rfl
      · exact low_up b
    obtain ⟨h1, h2⟩ := run_weak h.2
    unfold runN runL at h1 ⊢
    unfold runL at h2
    rw [List.takeWhile_cons, List.takeWhile_cons, e1]
    split
    · simp only [List.length_cons, List.map_cons, h1, h2, e2, and_self]
    · exact ⟨rfl, rfl⟩

theorem runL_take (l : List UInt8) : runL l = l.take (runN l) := by
  unfold runN runL
  induction l with
  | nil => rfl
  | cons b r ih =>
    rw [List.takeWhile_cons]
    split
    · rw [List.length_cons, List.take_succ_cons, ← ih]
    · rfl

theorem quoted_weak {q : UInt8} (hq : q.toNat = 34 ∨ q.toNat = 39) : ∀ (m : Nat) {l u : List UInt8} {t : List UInt8} {n : Nat}, l.length ≤ m → weak l u → quoted q l = some (t, n) → u.take n = l.take n → quoted q u = some (t, n)
  | _, [], [], _, _, _, _, h, _ => h
  | _, [], _ :: _, _, _, _, h, _, _ => h.elim
  | _, _ :: _, [], _, _, _, h, _, _ => h.elim
  | _, [b], d :: s, t, n, _, hw, h, he => by
    rw [quoted] at h
    split at h
    · cases h
      cases s with
      | nil =>
        have : d = b := by simpa using he
        subst this
        rw [quoted, if_pos (by assumption)]
      | cons x y => exact hw.2.elim
    · cases h
  | _, _ :: _ :: _, [_], _, _, _, hw, _, _ => hw.2.elim
  | 0, _ :: _ :: _, _ :: _ :: _, _, _, hm, _, _, _ => by simp at hm
  | m + 1, b :: c :: r, d :: e :: s, t, n, hm, hw, h, he => by
    have h' : r.length + 1 ≤ m := by simpa using hm
    rw [quoted] at h
    split at h
    · rename_i hb
      have n1 : 1 ≤ n := by
        split at h
        · cases hq2 : quoted q r with
          | none => rw [hq2] at h; cases h
          | some y => rw [hq2] at h; cases h; omega
        · cases h; omega
      have hd : d = b := by
        have := congrArg List.head? he
        simpa [List.head?_take, show n ≠ 0 by omega] using this
      rw [quoted, hd, if_pos hb]
      split at h
      · rename_i hc
        cases hq2 : quoted q r with
        | none => rw [hq2] at h; cases h
        | some y =>
          rw [hq2] at h
          cases h
          obtain ⟨yt, yn⟩ := y
          have he2 : e = c := by
            have := congrArg (·[1]?) he
            simpa [List.getElem?_take, show 1 < 2 + yn by omega] using this
          have het : s.take yn = r.take yn := by
            have := congrArg (List.drop 2) he
            simpa [List.drop_take] using this
          rw [he2, if_pos hc, quoted_weak hq m (by omega) hw.2.2 hq2 het]
          rfl
      · rename_i hc
        rw [if_neg]
        · exact h
        · rcases hw.2.1 with e1 | e1
          · rw [e1]; exact hc
          · rw [e1]
            intro e2
            apply hc
            apply UInt8.toNat_inj.1
            have h5 := congrArg UInt8.toNat e2
            rcases hq with hq | hq
            · rw [hq] at h5 ⊢; exact (up_iff c 34 (by omega) (by omega)).1 h5
            · rw [hq] at h5 ⊢; exact (up_iff c 39 (by omega) (by omega)).1 h5
    · rename_i hb
      cases hq2 : quoted q (c :: r) with
      | none => rw [hq2] at h; cases h
      | some y =>
        rw [hq2] at h
        cases h
        obtain ⟨yt, yn⟩ := y
        have hd : d = b := by
          have := congrArg List.head? he
          simpa [List.head?_take] using this
        have het : (e :: s).take yn = (c :: r).take yn := by
          have := congrArg (List.drop 1) he
          simpa [List.drop_take] using this
        rw [quoted, hd, if_neg hb, quoted_weak hq m (by simpa using h') hw.2 hq2 het]
        rfl

theorem digit_up (b : UInt8) : digitB (upB b) = digitB b := by
  rcases upB_cases b with ⟨e, _⟩ | ⟨e, h1, h2⟩
  · rw [e]
  · rw [Bool.eq_iff_iff]
    simp only [digitB, e, Bool.and_eq_true, decide_eq_true_eq]; omega

theorem two_weak {b c d : UInt8} (h : d = c ∨ d = upB c) : twoB b d = twoB b c := by
  rcases h with rfl | rfl
  · rfl
  · rw [Bool.eq_iff_iff]
    simp only [twoB, Bool.or_eq_true, Bool.and_eq_true, beq_iff_eq, up_iff c 61 (by omega) (by omega), up_iff c 62 (by omega) (by omega)]

/-- The word at the head, in great letters where it is one that may. -/
theorem one_weak {l u : List UInt8} {k : Nat} {t : List UInt8} {n : Nat} (hw : weak l u) (h : one l = some (k, t, n)) (he : k ≠ 0 → u.take n = l.take n) : one u = some (k, t, n) := by
  have hp := one_pos h
  cases l with
  | nil => simp [one] at h
  | cons b r => cases u with
    | nil => exact hw.elim
    | cons d s =>
      have hrun := run_weak hw
      rw [one] at h
      split at h
      · rename_i hb
        have hd : letterB d = true := by
          rcases hw.1 with rfl | rfl
          · exact hb
          · rw [letter_up]; exact hb
        rw [one, if_pos hd, hrun.1, hrun.2]
        exact h
      · rename_i hb
        have hk : k ≠ 0 := by
          split at h
          · split at h
            · simp only [Option.some.injEq, Prod.mk.injEq] at h; omega
            · cases h
          · split at h
            · cases hq : quoted 34 r with
              | none => rw [hq] at h; cases h
              | some x =>
                rw [hq, Option.bind_some] at h
                split at h
                · simp only [Option.some.injEq, Prod.mk.injEq] at h; omega
                · cases h
            · split at h
              · cases hq : quoted 39 r with
                | none => rw [hq] at h; cases h
                | some x =>
                  rw [hq, Option.bind_some] at h
                  split at h
                  · simp only [Option.some.injEq, Prod.mk.injEq] at h; omega
                  · cases h
              · split at h
                · cases h
                · simp only [Option.some.injEq, Prod.mk.injEq] at h; omega
        have hen := he hk
        have hd : d = b := by
          have := congrArg List.head? hen
          simpa [List.head?_take, show n ≠ 0 by omega] using this
        subst hd
        rw [one, if_neg hb]
        split at h
        · rename_i hdg
          rw [if_pos hdg]
          split at h
          · rename_i hr
            simp only [Option.some.injEq, Prod.mk.injEq] at h
            obtain ⟨rfl, rfl, rfl⟩ := h
            have e : runL (d :: s) = runL (d :: r) := by rw [runL_take, runL_take, hrun.1, hen]
            rw [e, if_pos hr, hrun.1]
          · cases h
        · rename_i hdg
          rw [if_neg hdg]
          split at h
          · rename_i h34
            rw [if_pos h34]
            cases hq : quoted 34 r with
            | none => rw [hq] at h; cases h
            | some x =>
              obtain ⟨xt, xn⟩ := x
              rw [hq, Option.bind_some] at h
              split at h
              · rename_i hnm
                simp only [Option.some.injEq, Prod.mk.injEq] at h
                obtain ⟨rfl, rfl, rfl⟩ := h
                have het : s.take xn = r.take xn := by
                  have := congrArg (List.drop 1) hen
                  simpa [List.drop_take] using this
                rw [quoted_weak (.inl rfl) _ (Nat.le_refl _) hw.2 hq het, Option.bind_some, if_pos hnm]
              · cases h
          · rename_i h34
            rw [if_neg h34]
            split at h
            · rename_i h39
              rw [if_pos h39]
              cases hq : quoted 39 r with
              | none => rw [hq] at h; cases h
              | some x =>
                obtain ⟨xt, xn⟩ := x
                rw [hq, Option.bind_some] at h
                split at h
                · rename_i hnm
                  simp only [Option.some.injEq, Prod.mk.injEq] at h
                  obtain ⟨rfl, rfl, rfl⟩ := h
                  have het : s.take xn = r.take xn := by
                    have := congrArg (List.drop 1) hen
                    simpa [List.drop_take] using this
                  rw [quoted_weak (.inr rfl) _ (Nat.le_refl _) hw.2 hq het, Option.bind_some, if_pos hnm]
                · cases h
            · rename_i h39
              rw [if_neg h39]
              have es : signN (d :: s) = signN (d :: r) := by
                cases r with
                | nil => cases s with
                  | nil => rfl
                  | cons x y => exact hw.2.elim
                | cons c r => cases s with
                  | nil => exact hw.2.elim
                  | cons x y => rw [signN, signN, two_weak hw.2.1]
              rw [es]
              split at h
              · cases h
              · rename_i hs
                simp only [Option.some.injEq, Prod.mk.injEq] at h
                obtain ⟨rfl, rfl, rfl⟩ := h
                rw [if_neg hs, hen]

theorem lexAt_at : ∀ (m p : Nat) (l : List UInt8) (ts : List Tok), l.length ≤ m → lexAt p l = .ok ts → ∀ x ∈ ts, p ≤ x.at_ ∧ x.at_ + x.text.length ≤ p + l.length
  | 0, p, l, ts, hm, h, x, hx => by
    rw [List.eq_nil_of_length_eq_zero (Nat.le_zero.1 hm), lexAt_nil] at h
    cases h
    cases hx
  | m + 1, p, l, ts, hm, h, x, hx => by
    by_cases h0 : l = []
    · subst h0; rw [lexAt_nil] at h; cases h; cases hx
    · cases h1 : one l with
      | none => rw [lexAt_bad h0 h1] at h; cases h
      | some y =>
        obtain ⟨k, t, n⟩ := y
        have hpos := one_pos h1
        obtain ⟨hle, htl⟩ := one_le h1
        have hl : 0 < l.length := List.length_pos_iff.2 h0
        rw [lexAt_one h1] at h
        cases h2 : lexAt (p + n + gap false (l.drop n)) ((l.drop n).drop (gap false (l.drop n))) with
        | error e => rw [h2] at h; cases h
        | ok us =>
          rw [h2] at h
          cases h
          rcases List.mem_append.1 hx with hx | hx
          · simp only [List.mem_singleton] at hx
            subst hx
            exact ⟨Nat.le_refl _, by show p + t.length ≤ _; omega⟩
          · have h3 := lexAt_at m _ _ us (by simp only [List.length_drop]; omega) h2 x hx
            simp only [List.length_drop] at h3
            have hg : gap false (l.drop n) ≤ (l.drop n).length := by
              rcases gap_tail (l.drop n) false with ⟨h4, _⟩ | ⟨h4, _⟩ <;> omega
            simp only [List.length_drop] at hg
            omega

theorem lexAt_up : ∀ (m p : Nat) (l u : List UInt8) (ts : List Tok), l.length ≤ m → lexAt p l = .ok ts → weak l u →
    (∀ j, (∀ x ∈ ts, x.kind = 0 → p + j < x.at_ ∨ x.at_ + x.text.length ≤ p + j) → u[j]? = l[j]?) → lexAt p u = .ok ts
  | 0, p, l, u, ts, hm, h, hw, _ => by
    have := List.eq_nil_of_length_eq_zero (Nat.le_zero.1 hm)
    subst this
    cases u with
    | nil => exact h
    | cons _ _ => exact hw.elim
  | m + 1, p, l, u, ts, hm, h, hw, hs => by
    by_cases h0 : l = []
    · subst h0
      cases u with
      | nil => exact h
      | cons _ _ => exact hw.elim
    · cases h1 : one l with
      | none => rw [lexAt_bad h0 h1] at h; cases h
      | some y =>
        obtain ⟨k, t, n⟩ := y
        have hpos := one_pos h1
        obtain ⟨hle, htl⟩ := one_le h1
        have hl : 0 < l.length := List.length_pos_iff.2 h0
        rw [lexAt_one h1] at h
        cases h2 : lexAt (p + n + gap false (l.drop n)) ((l.drop n).drop (gap false (l.drop n))) with
        | error e => rw [h2] at h; cases h
        | ok us =>
          rw [h2] at h
          cases h
          have hat := lexAt_at _ _ _ us (Nat.le_refl _) h2
          have hone : one u = some (k, t, n) := by
            refine one_weak hw h1 fun hk => ?_
            apply List.ext_getElem?
            intro j
            rw [List.getElem?_take, List.getElem?_take]
            split
            · refine hs j fun x hx hx0 => ?_
              rcases List.mem_append.1 hx with hx | hx
              · simp only [List.mem_singleton] at hx
                subst hx
                exact absurd hx0 hk
              · have := (hat x hx).1
                left; omega
            · rfl
          rw [lexAt_one hone, gap_weak false (weak_drop n hw)]
          rw [lexAt_up m _ ((l.drop n).drop (gap false (l.drop n))) ((u.drop n).drop (gap false (l.drop n))) us (by simp only [List.length_drop]; omega) h2 (weak_drop _ (weak_drop _ hw)) ?_]
          · rfl
          · intro j hj
            rw [List.getElem?_drop, List.getElem?_drop, List.getElem?_drop, List.getElem?_drop]
            refine hs _ fun x hx hx0 => ?_
            rcases List.mem_append.1 hx with hx | hx
            · simp only [List.mem_singleton] at hx
              subst hx
              right
              show p + t.length ≤ _
              omega
            · have := hj x hx hx0
              omega

/-- U is L but for words in great letters. -/
structure Upped (ts : List Tok) (l u : List UInt8) : Prop where
  weak : weak l u
  same : ∀ j, (∀ x ∈ ts, x.kind = 0 → j < x.at_ ∨ x.at_ + x.text.length ≤ j) → u[j]? = l[j]?

theorem Upped.refl (ts : List Tok) (l : List UInt8) : Upped ts l l := ⟨weak_refl l, fun _ _ => rfl⟩

theorem Upped.set {ts : List Tok} {l u : List UInt8} (h : Upped ts l u) {x : Tok} (hx : x ∈ ts) (h0 : x.kind = 0) {k : Nat} (hk : k < x.text.length) (hlt : x.at_ + k < u.length) : Upped ts l (u.set (x.at_ + k) (upB u[x.at_ + k])) := by
  refine ⟨weak_set _ hlt h.weak, fun j hj => ?_⟩
  have := hj x hx h0
  rw [List.getElem?_set_ne (by omega)]
  exact h.same j hj

theorem lexB_at {l : List UInt8} {ts : List Tok} (h : lexB l = .ok ts) : ∀ x ∈ ts, x.at_ + x.text.length ≤ l.length := by
  unfold lexB at h
  split at h
  · cases h
  · intro x hx
    have := lexAt_at _ _ _ ts (Nat.le_refl _) h x hx
    have hg : gap false l ≤ l.length := by
      rcases gap_tail l false with ⟨h4, _⟩ | ⟨h4, _⟩ <;> omega
    simp only [List.length_drop] at this
    omega

theorem lexB_up {l u : List UInt8} {ts : List Tok} (h : lexB l = .ok ts) (hu : Upped ts l u) : lexB u = .ok ts := by
  unfold lexB at h ⊢
  split at h
  · cases h
  · rename_i hl
    rw [if_neg (by rw [weak_len hu.weak]; exact hl), gap_weak false hu.weak]
    refine lexAt_up _ _ _ _ ts (Nat.le_refl _) h (weak_drop _ hu.weak) fun j hj => ?_
    rw [List.getElem?_drop, List.getElem?_drop]
    exact hu.same _ hj

end Go.Proofs.YtjnanlfahgjcbaaDoor
