/- Where words stand; blanks and notes around them; great letters: plain mathematics. -/
/- The program's lexer: notes, gaps. -/
/- The program's lexer: runs, signs, names. -/
/- A strings.Builder that the call itself has laid: what WriteByte puts behind, what String answers; walked over the library's own text. -/
/- The program's lexer: quoted texts. -/
import Derived.Test.YtjjdcdnaonfnmaaGreatDoorMLexImpl1
import Derived.StillTailTactics
import Derived.IntWalk
import Derived.Test.YtjjdcdnaonfnmaaGreatDoorMClone
import Derived.Test.YtjjdcdnaonfnmaaGreatDoorMShelf
import Derived.Lib.Builder
namespace Go.Proofs.YtjjdcdnaonfnmaaGreatDoor

/-! The places of words. -/

def FitsAt (l : List UInt8) (x : Tok) : Prop :=
  ∃ b, l[x.at_]? = some b ∧ (x.kind = 1 ↔ b.toNat = 34) ∧ (x.kind = 3 ↔ b.toNat = 39) ∧ (x.kind = 2 ↔ (48 ≤ b.toNat ∧ b.toNat ≤ 57))

def placed (l : List UInt8) : Nat → List Tok → Prop
  | _, [] => True
  | p, x :: r => p ≤ x.at_ ∧ FitsAt l x ∧ placed l (x.at_ + 1) r

theorem placed_mono {l : List UInt8} : ∀ {ts : List Tok} {p q : Nat}, placed l q ts → p ≤ q → placed l p ts
  | [], _, _, _, _ => trivial
  | x :: r, p, q, h, hp => ⟨Nat.le_trans hp h.1, h.2⟩

theorem one_kind {b : UInt8} {r : List UInt8} {k : Nat} {t : List UInt8} {n : Nat} (h : one (b :: r) = some (k, t, n)) :
    (k = 1 ↔ b.toNat = 34) ∧ (k = 3 ↔ b.toNat = 39) ∧ (k = 2 ↔ (48 ≤ b.toNat ∧ b.toNat ≤ 57)) := by
  rw [one] at h
  split at h
  · rename_i hb
    simp only [Option.some.injEq, Prod.mk.injEq] at h
    simp only [letterB, Bool.or_eq_true, Bool.and_eq_true, decide_eq_true_eq, beq_iff_eq] at hb
    omega
  · split at h
    · rename_i hb
      simp only [digitB, Bool.and_eq_true, decide_eq_true_eq] at hb
      split at h
      · simp only [Option.some.injEq, Prod.mk.injEq] at h
        omega
      · cases h
    · rename_i hd
      simp only [digitB, Bool.and_eq_true, decide_eq_true_eq] at hd
      split at h
      · rename_i hb
        cases hq : quoted 34 r with
        | none => rw [hq] at h; cases h
        | some x =>
          rw [hq, Option.bind_some] at h
          split at h
          · simp only [Option.some.injEq, Prod.mk.injEq] at h; omega
          · cases h
      · split at h
        · cases hq : quoted 39 r with
          | none => rw [hq] at h; cases h
          | some x =>
            rw [hq, Option.bind_some] at h
            split at h
            · simp only [Option.some.injEq, Prod.mk.injEq] at h; omega
            · cases h
        · split at h
          · cases h
          · simp only [Option.some.injEq, Prod.mk.injEq] at h; omega

theorem lexAt_placed (l : List UInt8) : ∀ (m p : Nat) (ts : List Tok), (l.drop p).length ≤ m → lexAt p (l.drop p) = .ok ts → placed l p ts
  | 0, p, ts, hm, h => by
    rw [List.eq_nil_of_length_eq_zero (Nat.le_zero.1 hm), lexAt_nil] at h
    cases h
    trivial
  | m + 1, p, ts, hm, h => by
    by_cases h0 : l.drop p = []
    · rw [h0, lexAt_nil] at h
      cases h
      trivial
    · cases h1 : one (l.drop p) with
      | none => rw [lexAt_bad h0 h1] at h; cases h
      | some y =>
        obtain ⟨k, t, n⟩ := y
        have hpos := one_pos h1
        rw [lexAt_one h1, List.drop_drop, List.drop_drop] at h
        cases h2 : lexAt (p + n + gap false (l.drop (p + n))) (l.drop (p + n + gap false (l.drop (p + n)))) with
        | error e => rw [h2] at h; cases h
        | ok us =>
          rw [h2] at h
          cases h
          have hp : p < l.length := by
            rcases Nat.lt_or_ge p l.length with hlt | hge
            · exact hlt
            · exact absurd (List.drop_eq_nil_iff.2 hge) h0
          have hl : 0 < (l.drop p).length := List.length_pos_iff.2 h0
          have ih := lexAt_placed l m (p + n + gap false (l.drop (p + n))) us (by rw [List.length_drop] at hm hl ⊢; omega) h2
          refine ⟨Nat.le_refl _, ⟨l[p], by simp [hp], ?_⟩, placed_mono ih (by show p + 1 ≤ _; omega)⟩
          rw [List.drop_eq_getElem_cons hp] at h1
          exact one_kind h1

theorem lexB_placed {l : List UInt8} {ts : List Tok} (h : lexB l = .ok ts) : placed l 0 ts := by
  unfold lexB at h
  split at h
  · cases h
  · exact placed_mono (lexAt_placed l _ _ ts (Nat.le_refl _) h) (Nat.zero_le _)

theorem placed_at {l : List UInt8} : ∀ {ts : List Tok} {p : Nat}, placed l p ts → ∀ (i : Nat) (h : i < ts.length), p ≤ ts[i].at_ ∧ FitsAt l ts[i] ∧ (0 < i → ∃ h' : i - 1 < ts.length, ts[i - 1].at_ < ts[i].at_)
  | [], _, _, i, h => by simp at h
  | x :: r, p, hp, 0, _ => ⟨hp.1, hp.2.1, fun h => by omega⟩
  | x :: r, p, hp, i + 1, h => by
    have hi : i < r.length := by simpa using h
    obtain ⟨h1, h2, h3⟩ := placed_at hp.2.2 i hi
    have h0 := hp.1
    refine ⟨by simp only [List.getElem_cons_succ]; omega, by simpa using h2, fun _ => ⟨by simp; omega, ?_⟩⟩
    rcases Nat.eq_zero_or_pos i with rfl | hpos
    · simp only [List.getElem_cons_succ]
      show x.at_ < _
      omega
    · obtain ⟨h', hlt⟩ := h3 hpos
      simp only [List.getElem_cons_succ]
      have e : (x :: r)[i + 1 - 1]'(by simp; omega) = r[i - 1] := by
        have : i + 1 - 1 = (i - 1) + 1 := by omega
        simp only [this, List.getElem_cons_succ]
      rw [e]
      exact hlt

/-! Where a word lies elsewhere. -/

def shift (d : Nat) : Except Nat (List Tok) → Except Nat (List Tok)
  | .ok ts => .ok (ts.map fun x => ⟨x.kind, x.text, x.at_ + d⟩)
  | .error e => .error (e + d)

theorem lexAt_shift (d : Nat) : ∀ (m p : Nat) (l : List UInt8), l.length ≤ m → lexAt (p + d) l = shift d (lexAt p l)
  | 0, p, l, hm => by
    rw [List.eq_nil_of_length_eq_zero (Nat.le_zero.1 hm), lexAt_nil, lexAt_nil]; rfl
  | m + 1, p, l, hm => by
    by_cases h0 : l = []
    · subst h0; rw [lexAt_nil, lexAt_nil]; rfl
    · cases h1 : one l with
      | none => rw [lexAt_bad h0 h1, lexAt_bad h0 h1]; rfl
      | some y =>
        obtain ⟨k, t, n⟩ := y
        have hpos := one_pos h1
        have hl : 0 < l.length := List.length_pos_iff.2 h0
        have ih := lexAt_shift d m (p + n + gap false (l.drop n)) ((l.drop n).drop (gap false (l.drop n))) (by simp only [List.length_drop]; omega)
        rw [lexAt_one h1, lexAt_one h1, show p + d + n + gap false (l.drop n) = p + n + gap false (l.drop n) + d by omega, ih]
        cases lexAt (p + n + gap false (l.drop n)) ((l.drop n).drop (gap false (l.drop n))) <;> rfl

/-! What stands behind all words. -/

def tailB : List UInt8 := [10, 13, 32, 45, 45, 32, 101, 110, 100]

theorem gap_tail : ∀ (l : List UInt8) (c : Bool), (gap c l < l.length ∧ gap c (l ++ tailB) = gap c l) ∨ (gap c l = l.length ∧ gap c (l ++ tailB) = (l ++ tailB).length)
  | [], c => by cases c <;> exact .inr ⟨rfl, by decide⟩
  | b :: r, true => by
    rw [List.cons_append, gap, gap]
    rcases gap_tail r (b.toNat != 10) with ⟨h1, h2⟩ | ⟨h1, h2⟩
    · left; rw [h2]; exact ⟨by simp only [List.length_cons]; omega, rfl⟩
    · right; rw [h1, h2]; exact ⟨by simp only [List.length_cons]; omega, by simp only [List.length_cons]; omega⟩
  | b :: r, false => by
    rw [List.cons_append, gap, gap]
    by_cases hb : blankB b = true
    · rw [if_pos hb, if_pos hb]
      rcases gap_tail r false with ⟨h1, h2⟩ | ⟨h1, h2⟩
      · left; rw [h2]; exact ⟨by simp only [List.length_cons]; omega, rfl⟩
      · right; rw [h1, h2]; exact ⟨by simp only [List.length_cons]; omega, by simp only [List.length_cons]; omega⟩
    · rw [if_neg hb, if_neg hb]
      have e : (((r ++ tailB).head?.map (·.toNat)) == some 45) = ((r.head?.map (·.toNat)) == some 45) := by
        cases r with
        | nil => rfl
        | cons c r => rfl
      rw [e]
      split
      · rcases gap_tail r true with ⟨h1, h2⟩ | ⟨h1, h2⟩
        · left; rw [h2]; exact ⟨by simp only [List.length_cons]; omega, rfl⟩
        · right; rw [h1, h2]; exact ⟨by simp only [List.length_cons]; omega, by simp only [List.length_cons]; omega⟩
      · left; exact ⟨by simp only [List.length_cons]; omega, rfl⟩

theorem runL_tail (l : List UInt8) : runL (l ++ tailB) = runL l := by
  induction l with
  | nil => rfl
  | cons b r ih =>
    unfold runL at ih ⊢
    rw [List.cons_append, List.takeWhile_cons, List.takeWhile_cons, ih]

theorem quoted_tail (q : UInt8) (hq : q = 34 ∨ q = 39) : ∀ (m : Nat) (l : List UInt8), l.length ≤ m → quoted q (l ++ tailB) = quoted q l
  | _, [], _ => by rcases hq with rfl | rfl <;> rfl
  | _, [b], _ => by
    have e : quoted q ([b] ++ tailB) = if b = q then some ([], 1) else (quoted q tailB).map fun x => (b :: x.1, 1 + x.2) := by
      show quoted q (b :: 10 :: _) = _
      rw [quoted]
      have : ¬ (10 : UInt8) = q := by rcases hq with rfl | rfl <;> decide
      rw [if_neg this]
      rfl
    rw [e, quoted]
    have h0 : quoted q tailB = none := by rcases hq with rfl | rfl <;> rfl
    rw [h0]
    rfl
  | 0, b :: c :: r, h => by simp at h
  | m + 1, b :: c :: r, h => by
    have h' : r.length + 1 ≤ m := by simpa using h
    rw [List.cons_append, List.cons_append, quoted, quoted, quoted_tail q hq m r (by omega)]
    have := quoted_tail q hq m (c :: r) (by simpa using h')
    rw [List.cons_append] at this
    rw [this]

theorem signN_tail (b : UInt8) (r : List UInt8) : signN (b :: r ++ tailB) = signN (b :: r) := by
  cases r with
  | nil =>
    show signN (b :: 10 :: _) = _
    rw [signN, signN, if_neg (by simp [two_not (b := b) (c := 10) (.inr (.inl rfl))])]
  | cons c r => rfl

theorem signN_le (b : UInt8) (r : List UInt8) : signN (b :: r) ≤ (b :: r).length := by
  cases r with
  | nil => rw [signN]; split <;> simp
  | cons c r =>
    rw [signN]
    split
    · simp only [List.length_cons]; omega
    · split <;> simp

theorem one_tail {l : List UInt8} (h : l ≠ []) : one (l ++ tailB) = one l := by
  cases l with
  | nil => exact absurd rfl h
  | cons b r =>
    have e := runL_tail (b :: r)
    have s := signN_tail b r
    have sl := signN_le b r
    rw [List.cons_append] at e s ⊢
    rw [one, one, runN, runN, e, quoted_tail 34 (.inl rfl) _ r (Nat.le_refl _), quoted_tail 39 (.inr rfl) _ r (Nat.le_refl _), s]
    rw [← List.cons_append, List.take_append_of_le_length sl]

theorem quoted_len {q : UInt8} : ∀ (m : Nat) (l : List UInt8) (x : List UInt8 × Nat), l.length ≤ m → quoted q l = some x → x.2 ≤ l.length ∧ 1 ≤ x.2 ∧ x.1.length + 1 ≤ x.2
  | _, [], x, _, h => by rw [quoted] at h; cases h
  | _, [b], x, _, h => by
    rw [quoted] at h
    split at h
    · cases h; simp
    · cases h
  | 0, b :: c :: r, x, hm, _ => by simp at hm
  | m + 1, b :: c :: r, x, hm, h => by
    have h' : r.length + 1 ≤ m := by simpa using hm
    rw [quoted] at h
    split at h
    · split at h
      · cases hq : quoted q r with
        | none => rw [hq] at h; cases h
        | some y =>
          rw [hq] at h
          cases h
          have := quoted_len m r y (by omega) hq
          simp only [List.length_cons]
          omega
      · cases h; simp
    · cases hq : quoted q (c :: r) with
      | none => rw [hq] at h; cases h
      | some y =>
        rw [hq] at h
        cases h
        have := quoted_len m (c :: r) y (by simpa using h') hq
        simp only [List.length_cons] at this ⊢
        omega

theorem runN_le (l : List UInt8) : runN l ≤ l.length := by
  unfold runN runL
  exact (List.takeWhile_sublist _).length_le

theorem one_le {l : List UInt8} {k : Nat} {t : List UInt8} {n : Nat} (h : one l = some (k, t, n)) : n ≤ l.length ∧ t.length ≤ n := by
  cases l with
  | nil => simp [one] at h
  | cons b r =>
    rw [one] at h
    split at h
    · simp only [Option.some.injEq, Prod.mk.injEq] at h
      obtain ⟨_, rfl, rfl⟩ := h
      exact ⟨runN_le _, by simp [runN]⟩
    · split at h
      · split at h
        · simp only [Option.some.injEq, Prod.mk.injEq] at h
          obtain ⟨_, rfl, rfl⟩ := h
          exact ⟨runN_le _, by simp [runN]⟩
        · cases h
      · split at h
        · cases hq : quoted 34 r with
          | none => rw [hq] at h; cases h
          | some x =>
            have := quoted_len _ r x (Nat.le_refl _) hq
            rw [hq, Option.bind_some] at h
            split at h
            · simp only [Option.some.injEq, Prod.mk.injEq] at h
              obtain ⟨_, rfl, rfl⟩ := h
              simp only [List.length_cons]; omega
            · cases h
        · split at h
          · cases hq : quoted 39 r with
            | none => rw [hq] at h; cases h
            | some x =>
              have := quoted_len _ r x (Nat.le_refl _) hq
              rw [hq, Option.bind_some] at h
              split at h
              · simp only [Option.some.injEq, Prod.mk.injEq] at h
                obtain ⟨_, rfl, rfl⟩ := h
                simp only [List.length_cons]; omega
              · cases h
          · split at h
            · cases h
            · simp only [Option.some.injEq, Prod.mk.injEq] at h
              obtain ⟨_, rfl, rfl⟩ := h
              have := signN_le b r
              exact ⟨this, by rw [List.length_take]; omega⟩

theorem lexAt_tail : ∀ (m p : Nat) (l : List UInt8), l.length ≤ m → lexAt (p + gap false (l ++ tailB)) ((l ++ tailB).drop (gap false (l ++ tailB))) = lexAt (p + gap false l) (l.drop (gap false l)) := by
  intro m
  induction m with
  | zero =>
    intro p l hm
    rw [List.eq_nil_of_length_eq_zero (Nat.le_zero.1 hm)]
    rw [show gap false ([] ++ tailB) = ([] ++ tailB).length from by decide, List.drop_length, lexAt_nil]
    rw [show gap false [] = 0 from rfl, List.drop_nil, lexAt_nil]
  | succ m ih =>
    intro p l hm
    rcases gap_tail l false with ⟨h1, h2⟩ | ⟨h1, h2⟩
    · rw [h2, List.drop_append_of_le_length (by omega)]
      have h0 : l.drop (gap false l) ≠ [] := by
        intro e
        have := congrArg List.length e
        simp at this
        omega
      cases h3 : one (l.drop (gap false l)) with
      | none => rw [lexAt_bad h0 h3, lexAt_bad (by simp [h0]) (by rw [one_tail h0]; exact h3)]
      | some y =>
        obtain ⟨k, t, n⟩ := y
        have hpos := one_pos h3
        obtain ⟨hle, _⟩ := one_le h3
        rw [lexAt_one h3, lexAt_one (by rw [one_tail h0]; exact h3), List.drop_append_of_le_length hle]
        rw [ih (p + gap false l + n) ((l.drop (gap false l)).drop n) (by simp only [List.length_drop] at hle ⊢; omega)]
    · rw [h1, h2, List.drop_length, List.drop_length, lexAt_nil, lexAt_nil]

def headB : List UInt8 := [45, 45, 32, 115, 97, 105, 100, 32, 39, 120, 10, 32, 9]

theorem gap_head (l : List UInt8) : gap false (headB ++ l) = 13 + gap false l := by
  simp [headB, gap, blankB]
  omega

theorem lexB_gaps {l : List UInt8} (h : l.length ≤ 19960) : lexB (headB ++ l ++ tailB) = shift 13 (lexB l) := by
  unfold lexB
  rw [if_neg (by simp [headB, tailB]; omega), if_neg (by omega), List.append_assoc, gap_head]
  rw [show (13 + gap false (l ++ tailB)) = headB.length + gap false (l ++ tailB) from rfl, List.drop_append, List.drop_of_length_le (by simp), List.nil_append, Nat.add_sub_cancel_left, lexAt_tail _ _ l (Nat.le_refl _)]
  rw [Nat.add_comm, show headB.length = 13 from rfl]
  exact lexAt_shift 13 _ _ _ (Nat.le_refl _)

end Go.Proofs.YtjjdcdnaonfnmaaGreatDoor

namespace Go.Proofs.YtjjdcdnaonfnmaaGreatDoor
open Go.RowKit

/-- What a note leaves. -/
def Noted (w : World) (g : Nat) (s : ByteArray) (k : Nat) (e : Ending) (w' : World) : Prop :=
  e = .returned (.tuple #[]) ∧ ∃ m, k ≤ m ∧ m ≤ s.size ∧ Hid (gap true (s.data.toList.drop k) = (m - k) + gap false (s.data.toList.drop m)) ∧ (s.size = m ∨ ∃ h : m < s.size, s[m].toNat = 10) ∧ Moved w g s m w'

set_option maxHeartbeats 2000000 in
theorem implComment {w : World} {g : Nat} {s : ByteArray} {k : Nat} (h : LexS w g s k) (hs : s.size ≤ 1048576) (hk : k ≤ s.size) :
    Calls Tryz.prog 47 #[.pointer (some ⟨g, 0, none⟩)] w (Noted w g s k) := by
  have HM := Lib.hid (Moved.refl h)
  clear h
  go_enter Tryz.func47, Tryz.ntmps47
  go_wp2_with fail
  go_loopg [] (s.size - k) (fun gk wr => ∃ m : Nat, gk = s.size - m ∧ k ≤ m ∧ m ≤ s.size ∧ Hid (gap true (s.data.toList.drop k) = (m - k) + gap true (s.data.toList.drop m)) ∧ Moved w g s m wr)
  case atStart => exact ⟨k, rfl, Nat.le_refl _, hk, by unfold Hid; omega, HM.out⟩
  case round =>
    obtain ⟨m, rfl, hkm, hm, hgap, hmv⟩ := hrel
    have c0 := hmv.1.c0
    have c1 := hmv.1.c1
    have f1 := hmv.1.f1
    have h0m : (0 : Int) ≤ (m : Int) := by omega
    by_cases hlt : m < s.size
    · have hby := byte_le s[m]
      have hlt' : (m : Int) < (s.size : Int) := by omega
      have hmore : decide (m < s.size) = true := by simpa using hlt
      have HMO := Lib.hid hmore
      have HMV := Lib.hid hmv
      clear hmore hmv
      by_cases h10 : s[m].toNat = 10
      · have T := bneF (b := s[m]) (n := 10) (by omega)
        have HO := Lib.hid (gap_out_at s m hlt h10)
        have H10 := Lib.hid h10
        clear h10
        go_wp2_with fail
        go_quiet ((go_at_call 24; exact Calls.quiet_of (implMore (HMV.out.1.drewN _) hs (by omega) true HMO.out)))
        go_wp2_with fail
        go_end0
        exact ⟨rfl, m, hkm, hm, by unfold Hid; rw [hgap.out, HO.out], .inr ⟨hlt, H10.out⟩, HMV.out.drewN _⟩
      · have T := bneT (b := s[m]) (n := 10) (by omega)
        have HI := Lib.hid (gap_in_at s m hlt h10)
        clear h10
        go_wp2_with fail
        go_quiet ((go_at_call 24; exact Calls.quiet_of (implMore (HMV.out.1.drewN _) hs (by omega) true HMO.out)))
        go_wp2_with fail
        go_roundg (s.size - (m + 1))
        case measure => omega
        case rel => exact ⟨m + 1, rfl, by omega, by omega, by unfold Hid; rw [hgap.out, HI.out]; omega, (HMV.out.drewN _).set (m + 1) (by simp)⟩
    · have hmore : decide (m < s.size) = false := by simpa using hlt
      have HMO := Lib.hid hmore
      have HMV := Lib.hid hmv
      clear hmore hmv
      go_wp2_with fail
      go_quiet ((go_at_call 24; exact Calls.quiet_of (implMore (HMV.out.1.drewN _) hs (by omega) false HMO.out)))
      go_wp2_with fail
      go_end0
      have hme : m = s.size := by omega
      refine ⟨rfl, m, hkm, hm, ?_, .inl (by omega), HMV.out.drewN _⟩
      unfold Hid
      rw [hgap.out, hme, gap_end_at, gap_end_at]

theorem hasTwo (s : ByteArray) (k : Nat) (hk : k < s.size) : Lib.hasPrefix (s.data.toList.drop k) [45, 45] = (decide (s[k].toNat = 45) && (if h : k + 1 < s.size then decide (s[k + 1].toNat = 45) else false)) := by
  have e : ∀ b : UInt8, ((45 : UInt8) == b) = decide (b.toNat = 45) := fun b => by
    rw [Bool.eq_iff_iff]
    simp only [beq_iff_eq, decide_eq_true_eq]
    exact ⟨fun h => by rw [← h]; rfl, fun h => UInt8.toNat_inj.1 h.symm⟩
  unfold Lib.hasPrefix
  rw [drop_at s k hk, List.isPrefixOf_cons_cons, e]
  congr 1
  split
  · rename_i h1
    rw [drop_at s (k + 1) h1, List.isPrefixOf_cons_cons, e]
    simp
  · rename_i h1
    rw [List.drop_of_length_le (by simp; omega)]
    rfl

theorem hereBlank (s : ByteArray) (k : Nat) (hk : k < s.size) (hb : blankB s[k] = true) : clB s[k] = 1 := by unfold clB; rw [if_pos hb]
theorem hereNot (b : UInt8) (hb : blankB b = false) : ((clB b) == 1) = false := by
  have h : ((List.range 256).all fun n => blankB (UInt8.ofNat n) || !(clB (UInt8.ofNat n) == 1)) = true := by kernel_rfl
  have := byteAll (p := fun b => blankB b || !(clB b == 1)) h b
  rw [hb] at this
  simpa using this

set_option maxHeartbeats 2000000 in
theorem implSkip {w : World} {g : Nat} {s : ByteArray} {k : Nat} (h : LexS w g s k) (hs : s.size ≤ 1048576) (hk : k ≤ s.size) :
    Calls Tryz.prog 23 #[.pointer (some ⟨g, 0, none⟩)] w fun e w' => e = .returned (.tuple #[]) ∧ Moved w g s (k + gap false (s.data.toList.drop k)) w' := by
  have HM := Lib.hid (Moved.refl h)
  clear h
  go_enter Tryz.func23, Tryz.ntmps23
  go_wp2_with fail
  go_loopg [] (s.size - k) (fun gk wr => ∃ m : Nat, gk = s.size - m ∧ k ≤ m ∧ m ≤ s.size ∧ Hid (gap false (s.data.toList.drop k) = (m - k) + gap false (s.data.toList.drop m)) ∧ Moved w g s m wr)
  case atStart => exact ⟨k, rfl, Nat.le_refl _, hk, by unfold Hid; omega, HM.out⟩
  case round =>
    obtain ⟨m, rfl, hkm, hm, hgap, hmv⟩ := hrel
    have HMV := Lib.hid hmv
    have hltg := hmv.1.lt
    clear hmv
    by_cases hlt : m < s.size
    · have hby := byte_le s[m]
      have HMO : Hid (decide (m < s.size) = true) := decide_eq_true hlt
      go_wp2_with fail
      refine (implMore HMV.out.1 hs (by omega) true HMO.out).mono ?_
      rintro e w1 ⟨rfl, n1, hw1⟩
      have mv1 : Moved w g s m w1 := hw1 ▸ HMV.out.drewN n1
      clear hw1
      go_wp2_with fail
      refine (implHere mv1.1 hs hlt _ rfl).mono ?_
      rintro e w2 ⟨rfl, n2, hw2⟩
      have mv2 : Moved w g s m w2 := hw2 ▸ mv1.drewN n2
      clear hw2 mv1
      have c1 := mv2.1.c1
      have f1 := mv2.1.f1
      have HMV2 := Lib.hid mv2
      clear mv2
      cases hb : blankB s[m] with
      | true =>
        have HG := Lib.hid (gap_blank_at s m hlt hb)
        have T : (clB s[m] == 1) = true := by rw [hereBlank s m hlt hb]; rfl
        clear hb
        generalize clB s[m] = cl at T
        go_wp2_with fail
        go_roundg (s.size - (m + 1))
        case measure => omega
        case rel => exact ⟨m + 1, rfl, by omega, by omega, by unfold Hid; rw [hgap.out, HG.out]; omega, HMV2.out.set (m + 1) (by simp)⟩
      | false =>
        have T := hereNot s[m] hb
        have HB := Lib.hid hb
        clear hb
        generalize clB s[m] = cl at T
        have hpre := hasTwo s m hlt
        by_cases h2 : s[m].toNat = 45 ∧ ∃ h1 : m + 1 < s.size, s[m + 1].toNat = 45
        · obtain ⟨h45, h1, h46⟩ := h2
          have HN := Lib.hid (gap_note_at s m hlt h45 h1 h46)
          have HP : Hid (Lib.hasPrefix (s.data.toList.drop m) [45, 45] = true) := by
            unfold Hid; rw [hpre, dif_pos h1]; simp [h45, h46]
          have h10 : s[m].toNat ≠ 10 := by omega
          have H10 := Lib.hid h10
          clear hpre h45 h46 h10
          go_wp2_with fail
          refine (implBegins HMV2.out.1 ⟨#[45, 45]⟩ hs (by omega) true HP.out).mono ?_
          rintro e w3 ⟨rfl, n3, hw3⟩
          have mv3 : Moved w g s m w3 := hw3 ▸ HMV2.out.drewN n3
          clear hw3
          go_wp2_with fail
          refine (implComment mv3.1 hs (by omega)).mono ?_
          rintro e w4 ⟨rfl, p, hmp, hps, hgp, hend, hmv4⟩
          have hlt4 : m < p := by
            rcases Nat.lt_or_ge m p with h | h
            · exact h
            · have hpm : p = m := by omega
              subst hpm
              rcases hend with h | ⟨_, h⟩
              · omega
              · exact absurd h H10.out
          have HEND := Lib.hid hend
          clear hend
          go_wp2_with fail
          go_roundg (s.size - p)
          case measure => omega
          case rel => exact ⟨p, rfl, by omega, hps, by unfold Hid; rw [hgap.out, HN.out, hgp.out]; omega, mv3.trans hmv4⟩
        · have HS : Hid (gap false (s.data.toList.drop m) = 0) := by
            refine gap_stop_at s m hlt HB.out ?_
            by_cases h45 : s[m].toNat = 45
            · right
              by_cases h1 : m + 1 < s.size
              · right; exact ⟨h1, fun h => h2 ⟨h45, h1, h⟩⟩
              · left; omega
            · exact .inl h45
          have HP : Hid (Lib.hasPrefix (s.data.toList.drop m) [45, 45] = false) := by
            unfold Hid
            rw [hpre, Bool.and_eq_false_iff]
            by_cases h45 : s[m].toNat = 45
            · right
              split
              · rename_i h1; simp only [decide_eq_false_iff_not]; exact fun h => h2 ⟨h45, h1, h⟩
              · rfl
            · left; simpa using h45
          clear hpre h2
          go_wp2_with fail
          refine (implBegins HMV2.out.1 ⟨#[45, 45]⟩ hs (by omega) false HP.out).mono ?_
          rintro e w3 ⟨rfl, n3, hw3⟩
          have mv3 : Moved w g s m w3 := hw3 ▸ HMV2.out.drewN n3
          clear hw3
          go_wp2_with fail
          refine bodyPost_ret (results_none rfl _ _ _) rfl ⟨rfl, ?_⟩
          rw [hgap.out, HS.out, show k + (m - k + 0) = m by omega]
          exact mv3
    · have HMO : Hid (decide (m < s.size) = false) := decide_eq_false hlt
      go_wp2_with fail
      refine (implMore HMV.out.1 hs (by omega) false HMO.out).mono ?_
      rintro e w1 ⟨rfl, n1, rfl⟩
      go_wp2_with fail
      go_end0
      have hme : m = s.size := by omega
      refine ⟨rfl, ?_⟩
      have hz : gap false (s.data.toList.drop m) = 0 := by rw [hme]; exact gap_end_at s false
      rw [hgap.out, hz, show k + (m - k + 0) = m by omega]
      exact HMV.out.drewN n1

end Go.Proofs.YtjjdcdnaonfnmaaGreatDoor

namespace Go.Proofs.YtjjdcdnaonfnmaaGreatDoor
open Go.RowKit

set_option maxRecDepth 100000 in
set_option maxHeartbeats 2000000 in
theorem implRun {w : World} {g : Nat} {s : ByteArray} {k : Nat} (h : LexS w g s k) (hs : s.size ≤ 1048576) (hk : k ≤ s.size) :
    Calls Tryz.prog 49 #[.pointer (some ⟨g, 0, none⟩)] w fun e w' => e = .returned (.string (s.extract k (k + runN (s.data.toList.drop k)))) ∧ Moved w g s (k + runN (s.data.toList.drop k)) w' := by
  have c0 := h.c0
  have c1 := h.c1
  have HS := Lib.hid h
  clear h
  go_enter Tryz.func49, Tryz.ntmps49
  go_wp2_with fail
  go_loop [3] (fun v => ∃ m : Nat, v = .int .i64 m ∧ k ≤ m ∧ m ≤ s.size ∧ Hid (runN (s.data.toList.drop k) = (m - k) + runN (s.data.toList.drop m))) (fun v => s.size - (intOf v).toNat)
  case atStart => exact ⟨k, rfl, Nat.le_refl _, hk, by unfold Hid; omega⟩
  case round =>
    obtain ⟨m, rfl, hkm, hm, hg⟩ := hrel
    have h0m : (0 : Int) ≤ (m : Int) := by omega
    have h0k : (0 : Int) ≤ (k : Int) := by omega
    have hwr : IntKind.i64.wrap ((m : Int) - (k : Int)) = ((m - k : Nat) : Int) := by rw [IntWalk.i64_in _ (by omega)]; omega
    have fin : ∀ (hn : runN (s.data.toList.drop m) = 0), Hid (k + runN (s.data.toList.drop k) = m) := fun hn => by unfold Hid; rw [hg.out, hn]; omega
    by_cases hlt : m < s.size
    · have hby := byte_le s[m]
      cases hmo : moreB s[m] with
      | true =>
        have HI := Lib.hid (run_in_at s m hlt hmo)
        have HMO := Lib.hid hmo
        clear hmo fin
        go_wp2_with fail
        refine (implInRun HS.out s[m] true HMO.out).mono ?_
        rintro e w1 ⟨rfl, rfl⟩
        go_wp2_with fail
        exact ⟨⟨m + 1, by go_num, by omega, by omega, by unfold Hid; rw [hg.out, HI.out]; omega⟩, by simp [intOf]; omega⟩
      | false =>
        have HN := fin (run_out_at s m hlt hmo)
        have HMO := Lib.hid hmo
        clear hmo fin
        go_wp2_with fail
        refine (implInRun HS.out s[m] false HMO.out).mono ?_
        rintro e w1 ⟨rfl, rfl⟩
        go_wp2_with fail
        go_still_tail 10, (by kernel_rfl)
        change wpList _ _ _ _ _ w.drew
        have HMD := Lib.hid (Moved.refl HS.out).drew
        generalize w.drew = W at HMD ⊢
        go_wp2_with fail
        refine (implTake HMD.out.1 (m - k) hs (by omega)).mono ?_
        rintro e w3 ⟨rfl, hmv3⟩
        go_wp2_with fail
        go_ret
        refine ⟨by rw [HN.out]; rfl, ?_⟩
        rw [HN.out]
        have := HMD.out.trans hmv3
        rw [show k + (m - k) = m by omega] at this
        exact this
    · have hme : m = s.size := by omega
      have HN := fin (by rw [hme]; exact run_end_at s)
      clear fin hme
      go_wp2_with fail
      go_still_tail 10, (by kernel_rfl)
      change wpList _ _ _ _ _ w.drew
      have HMD := Lib.hid (Moved.refl HS.out).drew
      generalize w.drew = W at HMD ⊢
      go_wp2_with fail
      refine (implTake HMD.out.1 (m - k) hs (by omega)).mono ?_
      rintro e w3 ⟨rfl, hmv3⟩
      go_wp2_with fail
      go_ret
      refine ⟨by rw [HN.out]; rfl, ?_⟩
      rw [HN.out]
      have := HMD.out.trans hmv3
      rw [show k + (m - k) = m by omega] at this
      exact this

theorem nameSize (s : ByteArray) (h : nameB s.data.toList = true) : 1 ≤ s.size ∧ s.size ≤ 40 := by
  have hl : s.data.toList.length = s.size := by simp
  simp only [nameB, Bool.and_eq_true, decide_eq_true_eq] at h
  omega

theorem index_lt (l : List UInt8) (c : UInt8) : -1 ≤ Lib.indexByte l c ∧ (Lib.indexByte l c < 0 ↔ l.contains c = false) := by
  induction l with
  | nil => simp [Lib.indexByte]
  | cons b r ih =>
    rw [Lib.indexByte]
    by_cases h : b = c
    · subst h; simp
    · have hb : (b == c) = false := by simpa using h
      rw [hb]
      simp only [Bool.false_eq_true, if_false]
      have hc : (b :: r).contains c = r.contains c := by
        rw [List.contains_cons]
        have : (c == b) = false := by simpa using fun e => h e.symm
        rw [this]; rfl
      rw [hc]
      by_cases h1 : Lib.indexByte r c = -1
      · rw [if_pos (by simpa using h1)]
        exact ⟨by omega, by rw [← ih.2]; omega⟩
      · rw [if_neg (by simpa using h1)]
        exact ⟨by omega, by rw [← ih.2]; omega⟩

theorem name_eq (s : ByteArray) : nameB s.data.toList = (!s.toList.isEmpty && (decide ((s.size : Int) ≤ 40) && decide (Lib.indexByte s.data.toList 0 < 0))) := by
  have hl : s.data.toList.length = s.size := by simp
  have hi := (index_lt s.data.toList 0).2
  rw [Bool.eq_iff_iff]
  unfold nameB
  simp only [Bool.and_eq_true, decide_eq_true_eq, Bool.not_eq_true', Lib.toList_data]
  rw [hi, hl]
  constructor
  · rintro ⟨⟨h1, h2⟩, h3⟩
    refine ⟨?_, by omega, h3⟩
    rw [List.isEmpty_eq_false_iff]
    intro e
    rw [e] at hl
    simp at hl
    omega
  · rintro ⟨h1, h2, h3⟩
    rw [List.isEmpty_eq_false_iff] at h1
    have : 0 < s.data.toList.length := List.length_pos_iff.2 h1
    exact ⟨⟨by omega, by omega⟩, h3⟩

set_option maxHeartbeats 1000000 in
theorem implNameFits (s : ByteArray) (w : World) (v : Bool) (hv : nameB s.data.toList = v) :
    Calls Tryz.prog 52 #[.string s] w fun e w' => e = .returned (.bool v) ∧ w = w' := by
  rw [name_eq] at hv
  have HI : Hid (∀ W, Calls Tryz.prog 71 #[.string s, .int .u8 0] W fun e w' => e = .returned (.int .i64 (Lib.indexByte s.data.toList 0)) ∧ W = w') := fun W =>
    (Tryz.strings_IndexByte s 0 W).mono fun e w' ⟨he, hw⟩ => ⟨he, hw.symm⟩
  generalize Lib.indexByte s.data.toList 0 = ix at hv HI
  cases h1 : s.toList.isEmpty with
  | true =>
    have hse : s.toList = [] := List.isEmpty_iff.1 h1
    have hv' : v = false := by rw [← hv, h1]; rfl
    have HV := Lib.hid hv'
    have hn : (!(s.toList == [])) = false := by rw [hse]; rfl
    clear hv hv' hse
    go_enter Tryz.func52, Tryz.ntmps52
    go_wp2_with fail
    go_ret
    exact ⟨by rw [HV.out]; rfl, rfl⟩
  | false =>
    by_cases h2 : (s.size : Int) ≤ 40
    · have hv' : v = decide (ix < 0) := by rw [← hv, h1]; simp [h2]
      have HV := Lib.hid hv'
      have hn : (!(s.toList == [])) = true := by
        have : s.toList ≠ [] := by intro e; rw [e] at h1; cases h1
        simpa using this
      clear hv hv'
      go_enter Tryz.func52, Tryz.ntmps52
      go_wp2_with fail
      refine (HI.out _).mono ?_
      rintro e w1 ⟨rfl, rfl⟩
      go_wp2_with fail
      go_ret
      exact ⟨by rw [HV.out]; rfl, rfl⟩
    · have hv' : v = false := by rw [← hv, h1]; simp [h2]
      have HV := Lib.hid hv'
      have ht : decide ((s.size : Int) ≤ 40) = false := by simpa using h2
      have hn : (!(s.toList == [])) = true := by
        have : s.toList ≠ [] := by intro e; rw [e] at h1; cases h1
        simpa using this
      clear hv hv'
      go_enter Tryz.func52, Tryz.ntmps52
      go_wp2_with fail
      go_ret
      exact ⟨by rw [HV.out]; rfl, rfl⟩

end Go.Proofs.YtjjdcdnaonfnmaaGreatDoor

namespace Go.Proofs.YtjjdcdnaonfnmaaGreatDoor
open Go.RowKit

theorem Tryz.sizeBuilder : (Tryz.prog.info? 90).map (·.size) = some 2 := by kernel_rfl
theorem Tryz.liesBuilder : liesAt Tryz.prog Tryz.prog.depth 90 (2 / Tryz.prog.cellsOf 90) 0 90 1 = true := by kernel_rfl

set_option maxRecDepth 100000 in
set_option maxHeartbeats 1000000 in
theorem copyCheckUsed (b : Nat) (w : World) (h0 : w.cell? ⟨b, 0, none⟩ = some (.pointer (some ⟨b, 0, none⟩))) :
    Calls Tryz.prog 76 #[.pointer (some ⟨b, 0, none⟩)] w fun e w' => e = .returned (.tuple #[]) ∧ w = w' := by
  obtain ⟨j, hj, _⟩ := Option.map_eq_some_iff.1 Tryz.sizeBuilder
  go_enter Tryz.func76, Tryz.ntmps76
  go_wp2
  rw [Lib.run_neq_ptr_same w _ Tryz.underlying88 hj]
  go_wp2
  go_end0
  exact ⟨rfl, rfl⟩

set_option maxRecDepth 100000 in
set_option maxHeartbeats 1000000 in
theorem copyCheckFresh (b : Nat) (w : World) (h0 : w.cell? ⟨b, 0, none⟩ = some (.pointer none)) (hsh : w.shape? b = some (90, 2)) (hfz : w.frozen? ⟨b, 0, none⟩ = false) :
    Calls Tryz.prog 76 #[.pointer (some ⟨b, 0, none⟩)] w fun e w' => e = .returned (.tuple #[]) ∧ w.setCell ⟨b, 0, none⟩ (.pointer (some ⟨b, 0, none⟩)) = w' := by
  obtain ⟨j, hj, hjs⟩ := Option.map_eq_some_iff.1 Tryz.sizeBuilder
  go_enter Tryz.func76, Tryz.ntmps76
  go_wp2
  rw [Lib.run_to_unsafe w ⟨b, 0, none⟩ Tryz.underlying88 Tryz.underlying119 hj (by rw [hjs]; decide) hsh (Nat.zero_lt_succ 1)]
  simp only [Result.andThen]
  rw [Oper.upon_value]
  go_wp2
  rw [run_callFunc_extern Tryz.func93 (by kernel_rfl) (by kernel_rfl) (by kernel_rfl) (e := Extern.AbiNoEscape.same) (by kernel_rfl)]
  rw [Lib.run_noEscape]
  simp only [Result.andThen]
  rw [Oper.upon_value]
  go_wp2
  rw [Lib.run_from_unsafe w ⟨b, 0, none⟩ Tryz.underlying119 Tryz.underlying88 hj hsh Tryz.liesBuilder]
  simp only [Result.andThen]
  rw [Oper.upon_value]
  go_wp2
  go_end0
  exact ⟨rfl, rfl⟩

/-- The builder in block b holds the bytes l in a row (a, c) that lies behind it. -/
def Bld (w : World) (b : Nat) (a : Option Addr) (c : Nat) (l : List UInt8) : Prop :=
  ∃ p, (p = .pointer none ∨ p = .pointer (some ⟨b, 0, none⟩)) ∧ w.heap[b]? = some (.cells #[p, .slice a l.length c] 90 (0, 0)) ∧ OwnB w (b + 1) a c l

/-- Of what was there block b alone has turned, and the row. -/
structure Wrote (b : Nat) (row : Option Nat) (w w' : World) : Prop where
  os : w'.os = w.os
  tape : w'.tape = w.tape
  output : w'.output = w.output
  size : w.heap.size ≤ w'.heap.size
  block : ∀ k, k < w.heap.size → k ≠ b → some k ≠ row → w'.heap[k]? = w.heap[k]?

theorem Bld.lt {w : World} {b : Nat} {a : Option Addr} {c : Nat} {l : List UInt8} (h : Bld w b a c l) : b < w.heap.size := by
  obtain ⟨p, _, hg, _⟩ := h
  rcases Nat.lt_or_ge b w.heap.size with hlt | hge
  · exact hlt
  · rw [Array.getElem?_eq_none hge] at hg; cases hg

theorem Bld.own {w : World} {b : Nat} {a : Option Addr} {c : Nat} {l : List UInt8} (h : Bld w b a c l) : OwnB w (b + 1) a c l := by
  obtain ⟨_, _, _, h⟩ := h; exact h

theorem Bld.new (w : World) : Bld (w.alloc (.cells #[.pointer none, .slice none 0 0] 90)) w.heap.size none 0 [] :=
  ⟨_, .inl rfl, heap_alloc_new _ _, World.ownsRow_nil _ _ _ _⟩

theorem Bld.below {w w' : World} {b : Nat} {a : Option Addr} {c : Nat} {l : List UInt8} (h : Bld w b a c l) (hb : Below w.heap.size w w') : Bld w' b a c l := by
  have hlt := h.lt
  obtain ⟨p, hp, hg, ho⟩ := h
  exact ⟨p, hp, (hb.block b hlt).trans hg, ho.below hb⟩

theorem Bld.grown {w w' : World} {b : Nat} {a : Option Addr} {c : Nat} {l : List UInt8} {row : Option Nat} (h : Bld w b a c l) (hb : w.grownBy w' row) (h1 : row ≠ some b) (h2 : ∀ g, (Value.slice a l.length c).ownBlock = some g → row ≠ some g) : Bld w' b a c l := by
  have hlt := h.lt
  obtain ⟨p, hp, hg, ho⟩ := h
  exact ⟨p, hp, (hb.block b hlt (fun e => h1 e.symm)).trans hg, ho.kept hb h2⟩

theorem Wrote.below {b : Nat} {w w' : World} {a : Option Addr} {c : Nat} {l : List UInt8} (hB : Bld w b a c l) (h : Wrote b (Value.slice a l.length c).ownBlock w w') {w0 : World} {B : Nat} (h0 : Below B w0 w) (hb : B ≤ b) : Below B w0 w' := by
  have hlt := hB.lt
  refine ⟨h.os.trans h0.os, h.tape.trans h0.tape, h.output.trans h0.output, Nat.le_trans h0.size h.size, fun k hk => ?_⟩
  rw [h.block k (by omega) (by omega) (fun e => by have := (hB.own.lt e.symm).1; omega)]
  exact h0.block k hk

theorem own_shape {w : World} {B : Nat} {a : Option Addr} {c : Nat} {l : List UInt8} (h : OwnB w B a c l) (h0 : 0 < l.length) : ∃ g, a = some ⟨g, 0, none⟩ ∧ (Value.slice a l.length c).ownBlock = some g := by
  unfold OwnB at h
  rcases h.2 with ⟨_, hn⟩ | ⟨g, cap, cur, hv, _⟩
  · omega
  · simp only [Value.slice.injEq] at hv
    obtain ⟨rfl, _, rfl⟩ := hv
    exact ⟨g, rfl, rfl⟩

theorem infoB_ne : 90 ≠ 5 := by decide

set_option maxHeartbeats 2000000 in
/-- WriteByte, where the builder knows its address. -/
theorem writeByteUsed (b : Nat) (a : Option Addr) (c : Nat) (l : List UInt8) (y : UInt8) (w : World) (hg : w.heap[b]? = some (.cells #[.pointer (some ⟨b, 0, none⟩), .slice a l.length c] 90 (0, 0))) (hown : OwnB w (b + 1) a c l) (hn : l.length + 1 ≤ 140737488355328) :
    Calls Tryz.prog 60 #[.pointer (some ⟨b, 0, none⟩), .int .u8 (y.toNat : Int)] w fun e w' => e = .returned .nilIface ∧ ∃ a' c' l', Hid (l' = l ++ [y]) ∧ Bld w' b a' c' l' ∧ Wrote b (Value.slice a l.length c).ownBlock w w' ∧ ∀ g, (Value.slice a' l'.length c').ownBlock = some g → (Value.slice a l.length c).ownBlock = some g ∨ w.heap.size ≤ g := by
  obtain ⟨i0, hi0, hz0, hz1, hz2⟩ := info_parts Tryz.infoByte
  have hlt : b < w.heap.size := by
    rcases Nat.lt_or_ge b w.heap.size with hlt | hge
    · exact hlt
    · rw [Array.getElem?_eq_none hge] at hg; cases hg
  have c0 : w.cell? ⟨b, 0, none⟩ = some (.pointer (some ⟨b, 0, none⟩)) := by rw [cell_of_row _ _ _ _ _ _ hg]; rfl
  have c1 : w.cell? ⟨b, 1, none⟩ = some (.slice a l.length c) := by rw [cell_of_row _ _ _ _ _ _ hg]; rfl
  have hby := byte_le y
  have HG := Lib.hid hg
  clear hg
  go_enter Tryz.func60, Tryz.ntmps60
  go_wp2_with (first
    | (go_at_call 76; refine (copyCheckUsed b w c0).mono ?_; rintro e w1 ⟨rfl, rfl⟩)
    | (at_builtin; refine wpAppendByte rfl (.tmp 11) (.tmp 13) rfl i0 hi0 hz0 hz1 hz2 (b + 1) a c l w.heap.size y rfl (hown.alloc _) rfl (by simp) hn (by simp; omega) ?_; intro a2 c2 w2 l2 hl2 hown2 hg2 hat; have hb2 : w2.heap[b]? = some (.cells #[.pointer (some ⟨b, 0, none⟩), .slice a l.length c] 90 (0, 0)) := (by rw [hg2.block b (by simp; omega) (fun e => by have := (hown.lt e.symm).1; omega), Below.heap_alloc _ _ _ hlt]; exact HG.out); have d1 : w2.cell? ⟨b, 1, none⟩ = some (.slice a l.length c) := (by rw [cell_of_row _ _ _ _ _ _ hb2]; rfl); have f1 : w2.frozen? ⟨b, 1, none⟩ = false := frozen_of_row _ _ _ _ _ hb2; have HB2 := Lib.hid hb2; clear hb2))
  go_ret
  have hset := heap_setCell_same w2 b 1 _ _ (.slice a2 l2.length c2) HB2.out
  have own3 : OwnB (w2.setCell ⟨b, 1, none⟩ (.slice a2 l2.length c2)) (b + 1) a2 c2 l2 := hown2.kept (row := some b) ⟨rfl, rfl, rfl, by simp [World.setCell], fun k _ hne => Below.heap_setCell _ _ _ _ (fun e => hne (by rw [e]))⟩ (fun g hgo e => by cases e; have := (hown2.lt hgo).1; omega)
  refine ⟨rfl, a2, c2, l2, hl2, ⟨_, .inr rfl, hset, own3⟩, ⟨?_, ?_, ?_, ?_, ?_⟩, ?_⟩
  · exact hg2.os
  · exact hg2.tape
  · exact hg2.output
  · have := hg2.size; simp [World.setCell] at this ⊢; omega
  · intro k hk hkb hkr
    rw [Below.heap_setCell _ _ _ _ hkb, hg2.block k (by simp; omega) hkr, Below.heap_alloc _ _ _ hk]
  · intro g hgo
    rcases hat with e | e
    · left; rw [← e]; exact hgo
    · right; rw [e] at hgo; cases hgo; simp

set_option maxHeartbeats 2000000 in
theorem writeByte (b : Nat) (a : Option Addr) (c : Nat) (l : List UInt8) (y : UInt8) (w : World) (hB : Bld w b a c l) (hn : l.length + 1 ≤ 140737488355328) :
    Calls Tryz.prog 60 #[.pointer (some ⟨b, 0, none⟩), .int .u8 (y.toNat : Int)] w fun e w' => e = .returned .nilIface ∧ ∃ a' c' l', Hid (l' = l ++ [y]) ∧ Bld w' b a' c' l' ∧ Wrote b (Value.slice a l.length c).ownBlock w w' ∧ ∀ g, (Value.slice a' l'.length c').ownBlock = some g → (Value.slice a l.length c).ownBlock = some g ∨ w.heap.size ≤ g := by
  have hlt := hB.lt
  obtain ⟨p, rfl | rfl, hg, hown⟩ := hB
  rotate_left
  · exact writeByteUsed b a c l y w hg hown hn
  obtain ⟨i0, hi0, hz0, hz1, hz2⟩ := info_parts Tryz.infoByte
  have c0 : w.cell? ⟨b, 0, none⟩ = some (.pointer none) := by rw [cell_of_row _ _ _ _ _ _ hg]; rfl
  have f0 : w.frozen? ⟨b, 0, none⟩ = false := frozen_of_row _ _ _ _ _ hg
  have hsh : w.shape? b = some (90, 2) := by simp [World.shape?, hg]
  have hby := byte_le y
  obtain ⟨W, hW⟩ : ∃ W, W = w.setCell ⟨b, 0, none⟩ (.pointer (some ⟨b, 0, none⟩)) := ⟨_, rfl⟩
  have HG1 : W.heap[b]? = some (.cells #[.pointer (some ⟨b, 0, none⟩), .slice a l.length c] 90 (0, 0)) := by rw [hW]; exact heap_setCell_same w b 0 _ _ _ hg
  have hgrW : w.grownBy W (some b) := by rw [hW]; exact ⟨rfl, rfl, rfl, by simp [World.setCell], fun k _ hne => Below.heap_setCell _ _ _ _ (fun e => hne (by rw [e]))⟩
  have hownW : OwnB W (b + 1) a c l := hown.kept hgrW (fun g hgo e => by cases e; have := (hown.lt hgo).1; omega)
  have hWs : W.heap.size = w.heap.size := by rw [hW]; simp [World.setCell]
  have hltW : b < W.heap.size := by omega
  have c1 : W.cell? ⟨b, 1, none⟩ = some (.slice a l.length c) := by rw [cell_of_row _ _ _ _ _ _ HG1]; rfl
  have HW := Lib.hid hW
  have HG := Lib.hid HG1
  have HWs := Lib.hid hWs
  clear HG1 hg hW hWs
  go_enter Tryz.func60, Tryz.ntmps60
  go_wp2_with (first
    | (go_at_call 76; refine (copyCheckFresh b w c0 hsh f0).mono ?_; rintro e w1 ⟨rfl, hw1⟩; rw [← HW.out] at hw1; subst hw1; clear c0 f0 hsh)
    | (at_builtin; refine wpAppendByte rfl (.tmp 11) (.tmp 13) rfl i0 hi0 hz0 hz1 hz2 (b + 1) a c l W.heap.size y rfl (hownW.alloc _) rfl (by simp) hn (by simp; omega) ?_; intro a2 c2 w2 l2 hl2 hown2 hg2 hat; have hb2 : w2.heap[b]? = some (.cells #[.pointer (some ⟨b, 0, none⟩), .slice a l.length c] 90 (0, 0)) := (by rw [hg2.block b (by simp; omega) (fun e => by have := (hownW.lt e.symm).1; omega), Below.heap_alloc _ _ _ hltW]; exact HG.out); have d1 : w2.cell? ⟨b, 1, none⟩ = some (.slice a l.length c) := (by rw [cell_of_row _ _ _ _ _ _ hb2]; rfl); have f1 : w2.frozen? ⟨b, 1, none⟩ = false := frozen_of_row _ _ _ _ _ hb2; have HB2 := Lib.hid hb2; clear hb2))
  go_ret
  have hset := heap_setCell_same w2 b 1 _ _ (.slice a2 l2.length c2) HB2.out
  have own3 : OwnB (w2.setCell ⟨b, 1, none⟩ (.slice a2 l2.length c2)) (b + 1) a2 c2 l2 := hown2.kept (row := some b) ⟨rfl, rfl, rfl, by simp [World.setCell], fun k _ hne => Below.heap_setCell _ _ _ _ (fun e => hne (by rw [e]))⟩ (fun g hgo e => by cases e; have := (hown2.lt hgo).1; omega)
  have hWs := HWs.out
  refine ⟨rfl, a2, c2, l2, hl2, ⟨_, .inr rfl, hset, own3⟩, ⟨?_, ?_, ?_, ?_, ?_⟩, ?_⟩
  · exact hg2.os.trans hgrW.os
  · exact hg2.tape.trans hgrW.tape
  · exact hg2.output.trans hgrW.output
  · have := hg2.size; simp [World.setCell] at this ⊢; omega
  · intro k hk hkb hkr
    rw [Below.heap_setCell _ _ _ _ hkb, hg2.block k (by simp; omega) hkr, Below.heap_alloc _ _ _ (by omega), hgrW.block k hk (fun e => hkb (by cases e; rfl))]
  · intro g hgo
    rcases hat with e | e
    · left; rw [← e]; exact hgo
    · right; rw [e] at hgo; cases hgo; simp; omega

theorem builderString (b : Nat) (a : Option Addr) (c : Nat) (l : List UInt8) (w : World) (hB : Bld w b a c l) :
    Calls Tryz.prog 61 #[.pointer (some ⟨b, 0, none⟩)] w fun e w' => e = .returned (.string ⟨l.toArray⟩) ∧ Below b w w' := by
  have hlt := hB.lt
  obtain ⟨p, hp, hg, hown⟩ := hB
  have hl : (Lib.byteCells l).length = l.length := by simp [Lib.byteCells]
  have hAt : Lib.BuilderAt 90 5 b b p (Lib.byteCells l) w := by
    refine ⟨Nat.le_refl _, _, hg, ?_, fun e => by have := (hown.lt e).1; omega⟩
    rw [hl]
    unfold OwnB at hown
    refine ⟨hown.1, ?_⟩
    rcases hown.2 with h2 | ⟨g, cap, cur, hv, hb, r⟩
    · exact .inl h2
    · exact .inr ⟨g, cap, cur, hv, by omega, r⟩
  refine Tryz.Builder_String_any b b l w ?_ (by omega)
  rcases hp with rfl | rfl
  · exact .inl hAt
  · exact .inr hAt

end Go.Proofs.YtjjdcdnaonfnmaaGreatDoor

namespace Go.Proofs.YtjjdcdnaonfnmaaGreatDoor
open Go.RowKit

def QAns (w : World) (g : Nat) (s : ByteArray) (k : Nat) (y : UInt8) (e : Ending) (w' : World) : Prop :=
  (∃ x, quoted y (s.data.toList.drop (k + 1)) = some x ∧ e = .returned (.tuple #[.string ⟨x.1.toArray⟩, .bool true]) ∧ Moved w g s (k + 1 + x.2) w') ∨
  (quoted y (s.data.toList.drop (k + 1)) = none ∧ e = .returned (.tuple #[.string ⟨#[]⟩, .bool false]) ∧ Moved w g s s.size w')

theorem LexS.wrote {w w' : World} {g : Nat} {s : ByteArray} {k : Nat} (h : LexS w g s k) {b : Nat} {a : Option Addr} {c : Nat} {l : List UInt8} (hB : Bld w b a c l) (hg : g < b) (hw : Wrote b (Value.slice a l.length c).ownBlock w w') : LexS w' g s k := by
  obtain ⟨cs, hc, r⟩ := h.ex
  exact ⟨cs, (hw.block g (heap_lt hc) (by omega) (fun e => by have := (hB.own.lt e.symm).1; omega)).trans hc, r⟩

/-- Of what lay below b, block g alone has turned. -/
def Only (w : World) (b g : Nat) (w' : World) : Prop := w'.os = w.os ∧ w'.tape = w.tape ∧ w'.output = w.output ∧ b ≤ w'.heap.size ∧ ∀ k, k < b → k ≠ g → w'.heap[k]? = w.heap[k]?

theorem Only.wrote {w w1 w2 : World} {b g : Nat} (h : Only w b g w1) {a : Option Addr} {c : Nat} {l : List UInt8} (hB : Bld w1 b a c l) (hw : Wrote b (Value.slice a l.length c).ownBlock w1 w2) : Only w b g w2 := by
  obtain ⟨h1, h2, h3, h4, h5⟩ := h
  have hlt := hB.lt
  exact ⟨hw.os.trans h1, hw.tape.trans h2, hw.output.trans h3, Nat.le_trans h4 hw.size, fun k hk hne => (hw.block k (by omega) (by omega) (fun e => by have := (hB.own.lt e.symm).1; omega)).trans (h5 k hk hne)⟩
theorem Only.set {w w1 : World} {b g : Nat} (h : Only w b g w1) (v : Value) : Only w b g (w1.setCell ⟨g, 1, none⟩ v) := by
  obtain ⟨h1, h2, h3, h4, h5⟩ := h
  exact ⟨h1, h2, h3, by simpa [World.setCell] using h4, fun k hk hne => (Below.heap_setCell _ _ _ _ hne).trans (h5 k hk hne)⟩
theorem Only.below {w w1 w2 : World} {b g : Nat} (h : Only w b g w1) (hb : Below b w1 w2) : Only w b g w2 := by
  obtain ⟨h1, h2, h3, h4, h5⟩ := h
  exact ⟨hb.os.trans h1, hb.tape.trans h2, hb.output.trans h3, Nat.le_trans h4 hb.size, fun k hk hne => (hb.block k hk).trans (h5 k hk hne)⟩
theorem Only.moved {w w1 : World} {g : Nat} (h : Only w w.heap.size g w1) {s : ByteArray} {m : Nat} (hl : LexS w1 g s m) : Moved w g s m w1 := by
  obtain ⟨h1, h2, h3, h4, h5⟩ := h
  exact ⟨hl, h1, h2, h3, h4, fun k hk hne => h5 k hk (fun e => hne (by rw [e]))⟩
theorem Bld.set {w : World} {b g : Nat} {a : Option Addr} {c : Nat} {l : List UInt8} (h : Bld w b a c l) (hg : g < b) (v : Value) : Bld (w.setCell ⟨g, 1, none⟩ v) b a c l :=
  h.grown (setGrown w g v) (fun e => by cases e; omega) (fun x hx e => by cases e; have := (h.own.lt hx).1; omega)

theorem qsome {o : Option (List UInt8 × Nat)} {l : List UInt8} {m k : Nat} (h : o = qShift l (m - (k + 1)) (some ([], 1))) : o = some (l, m - (k + 1) + 1) := by rw [h]; simp [qShift]

set_option maxRecDepth 100000 in
set_option maxHeartbeats 4000000 in
theorem implQuoted {w : World} {g : Nat} {s : ByteArray} {k : Nat} (h : LexS w g s k) (y : UInt8) (hs : s.size ≤ 1048576) (hk : k < s.size) :
    Calls Tryz.prog 51 #[.pointer (some ⟨g, 0, none⟩), .int .u8 (y.toNat : Int)] w (QAns w g s k y) := by
  have hy := byte_le y
  have hlt := h.lt
  have c1 := h.c1
  have f1 := h.f1
  have hsz : (w.setCell ⟨g, 1, none⟩ (.int .i64 ((k : Int) + 1))).heap.size = w.heap.size := by simp [World.setCell]
  have hL0 : LexS (w.setCell ⟨g, 1, none⟩ (.int .i64 ((k : Int) + 1))) g s (k + 1) := by have := h.set (k + 1); simpa using this
  have ha := (Below.refl (w.setCell ⟨g, 1, none⟩ (.int .i64 ((k : Int) + 1))).heap.size (w.setCell ⟨g, 1, none⟩ (.int .i64 ((k : Int) + 1)))).alloc (Nat.le_refl _) (.cells #[.pointer none, .slice none 0 0] 90)
  have HL := Lib.hid (hL0.below ha hL0.lt)
  have HB : Hid (Bld ((w.setCell ⟨g, 1, none⟩ (.int .i64 ((k : Int) + 1))).alloc (.cells #[.pointer none, .slice none 0 0] 90)) w.heap.size none 0 []) := by
    have := Bld.new (w.setCell ⟨g, 1, none⟩ (.int .i64 ((k : Int) + 1)))
    rw [hsz] at this
    exact this
  have HO : Hid (Only w w.heap.size g ((w.setCell ⟨g, 1, none⟩ (.int .i64 ((k : Int) + 1))).alloc (.cells #[.pointer none, .slice none 0 0] 90))) :=
    Only.below (Only.set ⟨rfl, rfl, rfl, Nat.le_refl _, fun j _ _ => rfl⟩ _) (hsz ▸ ha)
  clear hL0 h ha hsz
  go_enter Tryz.func51, Tryz.ntmps51
  go_wp2_with fail
  go_loopg [] (s.size - (k + 1)) (fun gk wr => ∃ (m : Nat) (a : Option Addr) (c : Nat) (l : List UInt8), gk = s.size - m ∧ k + 1 ≤ m ∧ m ≤ s.size ∧ l.length ≤ m ∧ LexS wr g s m ∧ Bld wr w.heap.size a c l ∧ Only w w.heap.size g wr ∧ Hid (quoted y (s.data.toList.drop (k + 1)) = qShift l (m - (k + 1)) (quoted y (s.data.toList.drop m))))
  case atStart =>
    refine ⟨k + 1, none, 0, [], rfl, Nat.le_refl _, hk, Nat.zero_le _, HL.out, HB.out, HO.out, ?_⟩
    unfold Hid
    rw [Nat.sub_self]
    cases quoted y (s.data.toList.drop (k + 1)) <;> simp [qShift]
  case round =>
    obtain ⟨m, a, c, l, rfl, hkm, hm, hll, hL, hB, hO, hq⟩ := hrel
    have h0m : (0 : Int) ≤ (m : Int) := by omega
    by_cases hlm : m < s.size
    · have hby := byte_le s[m]
      have hlm' : (m : Int) < (s.size : Int) := by omega
      have HMO : Hid (decide (m < s.size) = true) := decide_eq_true hlm
      have HLr := Lib.hid hL
      clear hL
      go_wp2_with fail
      refine (implMore HLr.out hs (by omega) true HMO.out).mono ?_
      rintro e w1 ⟨rfl, n1, hw1⟩
      have hL1 : LexS w1 g s m := hw1 ▸ HLr.out.drewN n1
      have hb1 : Below wr.heap.size wr w1 := hw1 ▸ below_drewN (Below.refl _ _) n1
      have hB1 := hB.below hb1
      have hO1 := hO.below (hb1.mono hO.2.2.2.1)
      have c0 := hL1.c0
      have c1 := hL1.c1
      have f1 := hL1.f1
      have HL1 := Lib.hid hL1
      clear hw1 hb1 hB hO HLr hL1
      by_cases he : s[m] = y
      · have T1 := byte_eq he
        have HE := Lib.hid he
        clear he
        go_wp2_with fail
        go_quiet (fail)
        go_wp2_with fail
        have hL2 : LexS ((w1.drewN nq).setCell ⟨g, 1, none⟩ (.int .i64 ((m : Int) + 1))) g s (m + 1) := by have := (HL1.out.drewN nq).set (m + 1); simpa using this
        have hB2 : Bld ((w1.drewN nq).setCell ⟨g, 1, none⟩ (.int .i64 ((m : Int) + 1))) w.heap.size a c l := (hB1.below (below_drewN (Below.refl _ _) nq)).set hlt _
        have hO2 : Only w w.heap.size g ((w1.drewN nq).setCell ⟨g, 1, none⟩ (.int .i64 ((m : Int) + 1))) := (hO1.below (below_drewN (Below.refl w.heap.size w1) nq)).set _
        generalize (w1.drewN nq).setCell ⟨g, 1, none⟩ (.int .i64 ((m : Int) + 1)) = W2 at *
        have d0 := hL2.c0
        have d1 := hL2.c1
        have e1 := hL2.f1
        have HL2 := Lib.hid hL2
        have HB2 := Lib.hid hB2
        have HO2 := Lib.hid hO2
        clear hL2 hB2 hO2 hB1 hO1 c0 c1 f1 HL1
        simp only [Int.natCast_add, Int.cast_ofNat_Int] at d1
        have h0m1 : (0 : Int) ≤ (m : Int) + 1 := by omega
        have htn : ((m : Int) + 1).toNat = m + 1 := by omega
        by_cases h1 : m + 1 < s.size
        · have hby1 := byte_le s[m + 1]
          have h1' : (m : Int) + 1 < (s.size : Int) := by omega
          have HM1 : Hid (decide (m + 1 < s.size) = true) := decide_eq_true h1
          by_cases hc : s[m + 1] = y
          · have T2 := byte_bneF hc
            have HQ := Lib.hid (quoted_two_at s y m hlm HE.out h1 hc)
            clear hc
            go_quiet ((go_at_call 24; exact Calls.quiet_of (implMore (HL2.out.drewN _) hs (by omega) true HM1.out)))
            go_wp2_with fail
            refine (writeByte w.heap.size a c l s[m] _ (HB2.out.below (below_drewN (Below.refl _ _) _)) (by omega)).mono ?_
            rintro e w3 ⟨rfl, a3, c3, l3, hl3, hB3, hW3, _⟩
            have hL3 := (HL2.out.drewN _).wrote (HB2.out.below (below_drewN (Below.refl _ _) _)) hlt hW3
            have hO3 := (HO2.out.below (below_drewN (Below.refl w.heap.size _) _)).wrote (HB2.out.below (below_drewN (Below.refl _ _) _)) hW3
            have c13 := hL3.c1
            have f13 := hL3.f1
            have hL4 : LexS (w3.setCell ⟨g, 1, none⟩ (.int .i64 (((m : Int) + 1) + 1))) g s (m + 2) := by have := hL3.set (m + 2); simpa [Int.add_assoc] using this
            have HL4 := Lib.hid hL4
            have HB4 := Lib.hid (hB3.set hlt (.int .i64 (((m : Int) + 1) + 1)))
            have HO4 := Lib.hid (hO3.set (.int .i64 (((m : Int) + 1) + 1)))
            clear hL3 hO3 hL4 hW3
            go_wp2_with fail
            go_roundg (s.size - (m + 2))
            case measure => omega
            case rel => exact ⟨m + 2, a3, c3, l3, rfl, by omega, by omega, by rw [hid_len hl3]; omega, HL4.out, HB4.out, HO4.out, by unfold Hid; rw [hq.out, HQ.out, qShift_shift, hl3.out, show m + 2 - (k + 1) = m - (k + 1) + 2 by omega]⟩
          · have T2 := byte_bneT hc
            have HQ := Lib.hid (quoted_end_at s y m hlm HE.out (.inr ⟨h1, hc⟩))
            clear hc
            go_quiet ((go_at_call 24; exact Calls.quiet_of (implMore (HL2.out.drewN _) hs (by omega) true HM1.out)))
            go_wp2_with fail
            refine (builderString w.heap.size a c l _ (HB2.out.below (below_drewN (Below.refl _ _) _))).mono ?_
            rintro e w4 ⟨rfl, hb4⟩
            have hQ := qsome (hq.out.trans (by rw [HQ.out]))
            go_wp2_with fail
            go_ret2
            refine .inl ⟨_, hQ, rfl, ?_⟩
            have hL4 := (HL2.out.drewN _).below hb4 hlt
            have hO4 := (HO2.out.below (below_drewN (Below.refl w.heap.size _) _)).below hb4
            show Moved w g s (k + 1 + (m - (k + 1) + 1)) _
            rw [show k + 1 + (m - (k + 1) + 1) = m + 1 by omega]
            exact hO4.moved hL4
        · have HM1 : Hid (decide (m + 1 < s.size) = false) := decide_eq_false h1
          have HQ := Lib.hid (quoted_end_at s y m hlm HE.out (.inl (by omega)))
          go_quiet ((go_at_call 24; exact Calls.quiet_of (implMore (HL2.out.drewN _) hs (by omega) false HM1.out)))
          go_wp2_with fail
          refine (builderString w.heap.size a c l _ (HB2.out.below (below_drewN (Below.refl _ _) _))).mono ?_
          rintro e w4 ⟨rfl, hb4⟩
          have hQ := qsome (hq.out.trans (by rw [HQ.out]))
          go_wp2_with fail
          go_ret2
          refine .inl ⟨_, hQ, rfl, ?_⟩
          have hL4 := (HL2.out.drewN _).below hb4 hlt
          have hO4 := (HO2.out.below (below_drewN (Below.refl w.heap.size _) _)).below hb4
          show Moved w g s (k + 1 + (m - (k + 1) + 1)) _
          rw [show k + 1 + (m - (k + 1) + 1) = m + 1 by omega]
          exact hO4.moved hL4
      · have T1 := byte_ne he
        have HQ := Lib.hid (quoted_ne_at s y m hlm he)
        clear he
        go_wp2_with fail
        go_quiet (fail)
        go_wp2_with fail
        refine (writeByte w.heap.size a c l s[m] _ (hB1.below (below_drewN (Below.refl _ _) _)) (by omega)).mono ?_
        rintro e w3 ⟨rfl, a3, c3, l3, hl3, hB3, hW3, _⟩
        have hL3 := (HL1.out.drewN _).wrote (hB1.below (below_drewN (Below.refl _ _) _)) hlt hW3
        have hO3 := (hO1.below (below_drewN (Below.refl w.heap.size _) _)).wrote (hB1.below (below_drewN (Below.refl _ _) _)) hW3
        have c13 := hL3.c1
        have f13 := hL3.f1
        have hL4 : LexS (w3.setCell ⟨g, 1, none⟩ (.int .i64 ((m : Int) + 1))) g s (m + 1) := by have := hL3.set (m + 1); simpa [Int.add_assoc] using this
        have HL4 := Lib.hid hL4
        have HB4 := Lib.hid (hB3.set hlt (.int .i64 ((m : Int) + 1)))
        have HO4 := Lib.hid (hO3.set (.int .i64 ((m : Int) + 1)))
        clear hL3 hO3 hL4 hW3
        go_wp2_with fail
        go_roundg (s.size - (m + 1))
        case measure => omega
        case rel => exact ⟨m + 1, a3, c3, l3, rfl, by omega, by omega, by rw [hid_len hl3]; omega, HL4.out, HB4.out, HO4.out, by unfold Hid; rw [hq.out, HQ.out, qShift_shift, hl3.out, show m + 1 - (k + 1) = m - (k + 1) + 1 by omega]⟩
    · have HMO : Hid (decide (m < s.size) = false) := decide_eq_false hlm
      have hme : m = s.size := by omega
      have HQ : Hid (quoted y (s.data.toList.drop (k + 1)) = none) := by
        unfold Hid
        rw [hq.out, hme, quoted_none_at]
        rfl
      subst hme
      go_wp2_with fail
      refine (implMore hL hs (by omega) false HMO.out).mono ?_
      rintro e w1 ⟨rfl, n1, rfl⟩
      go_wp2_with fail
      go_ret2
      exact .inr ⟨HQ.out, rfl, (hO.moved hL).drewN n1⟩

end Go.Proofs.YtjjdcdnaonfnmaaGreatDoor
