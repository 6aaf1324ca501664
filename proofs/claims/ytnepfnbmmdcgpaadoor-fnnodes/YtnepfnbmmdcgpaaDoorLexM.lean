/- The words of a text: plain mathematics over lists of bytes, nothing of the program. -/
import Derived.Lib.Atoi
import Derived.Lib.ItoaNum
namespace Go.Proofs.YtnepfnbmmdcgpaaDoor

/-- The number that l spells, or -1. -/
def readD (l : List UInt8) : Int :=
  if 9 < l.length then -1 else match Go.Lib.decNat l with
    | none => -1
    | some m => if Go.Lib.itoa (m : Int) = l then (m : Int) else -1

def letterB (b : UInt8) : Bool := (decide (65 ≤ b.toNat) && decide (b.toNat ≤ 90)) || (decide (97 ≤ b.toNat) && decide (b.toNat ≤ 122)) || b.toNat == 95
def digitB (b : UInt8) : Bool := decide (48 ≤ b.toNat) && decide (b.toNat ≤ 57)
def moreB (b : UInt8) : Bool := letterB b || digitB b
def blankB (b : UInt8) : Bool := b.toNat == 32 || b.toNat == 9 || b.toNat == 10 || b.toNat == 13
def lowB (b : UInt8) : UInt8 := if decide (65 ≤ b.toNat) && decide (b.toNat ≤ 90) then b + 32 else b
def signB (b : UInt8) : Bool := [40, 41, 44, 59, 61, 60, 62, 43, 45, 42, 46].contains b.toNat

/-- How many bytes are passed over at the head (true: inside a note). -/
def gap : Bool → List UInt8 → Nat
  | _, [] => 0
  | true, b :: r => 1 + gap (b.toNat != 10) r
  | false, b :: r => if blankB b then 1 + gap false r else if b.toNat == 45 && (r.head?.map (·.toNat)) == some 45 then 1 + gap true r else 0

/-- A word: its kind, its text, its place. -/
structure Tok where
  kind : Nat
  text : List UInt8
  at_ : Nat
deriving DecidableEq

def runL (l : List UInt8) : List UInt8 := l.takeWhile moreB
def runN (l : List UInt8) : Nat := (runL l).length

/-- What stands between quotes (behind the first one), and how many bytes it has there with the last one. -/
def quoted (q : UInt8) : List UInt8 → Option (List UInt8 × Nat)
  | [] => none
  | [b] => if b = q then some ([], 1) else none
  | b :: c :: r =>
    if b = q then
      if c = q then (quoted q r).map fun x => (b :: x.1, 2 + x.2) else some ([], 1)
    else (quoted q (c :: r)).map fun x => (b :: x.1, 1 + x.2)

def twoB (b c : UInt8) : Bool := (b.toNat == 60 && c.toNat == 61) || (b.toNat == 62 && c.toNat == 61) || (b.toNat == 60 && c.toNat == 62)

def signN : List UInt8 → Nat
  | [] => 0
  | [b] => if signB b then 1 else 0
  | b :: c :: _ => if twoB b c then 2 else if signB b then 1 else 0

def nameB (t : List UInt8) : Bool := decide (1 ≤ t.length) && decide (t.length ≤ 40) && !t.contains 0

/-- The word at the head: kind, text, how many bytes. -/
def one : List UInt8 → Option (Nat × List UInt8 × Nat)
  | [] => none
  | b :: r =>
    if letterB b then some (0, (runL (b :: r)).map lowB, runN (b :: r))
    else if digitB b then if 0 ≤ readD (runL (b :: r)) then some (2, runL (b :: r), runN (b :: r)) else none
    else if b.toNat = 34 then (quoted 34 r).bind fun x => if nameB x.1 then some (1, x.1, 1 + x.2) else none
    else if b.toNat = 39 then (quoted 39 r).bind fun x => if x.1.length ≤ 100 then some (3, x.1, 1 + x.2) else none
    else if signN (b :: r) = 0 then none else some (4, (b :: r).take (signN (b :: r)), signN (b :: r))

theorem runN_pos {b : UInt8} {r : List UInt8} (h : moreB b = true) : 0 < runN (b :: r) := by
  simp [runN, runL, h]

theorem one_pos {l : List UInt8} {k : Nat} {t : List UInt8} {n : Nat} (h : one l = some (k, t, n)) : 0 < n := by
  cases l with
  | nil => simp [one] at h
  | cons b r =>
    rw [one] at h
    split at h
    · rename_i hb
      simp only [Option.some.injEq, Prod.mk.injEq] at h
      rw [← h.2.2]; exact runN_pos (by simp [moreB, hb])
    · split at h
      · rename_i hb
        split at h
        · simp only [Option.some.injEq, Prod.mk.injEq] at h
          rw [← h.2.2]; exact runN_pos (by simp [moreB, hb])
        · cases h
      · split at h
        · cases hq : quoted 34 r with
          | none => rw [hq] at h; cases h
          | some x =>
            rw [hq, Option.bind_some] at h
            split at h
            · simp only [Option.some.injEq, Prod.mk.injEq] at h; omega
            · cases h
        · split at h
          · cases hq : quoted 39 r with
            | none => rw [hq] at h; cases h
            | some x =>
              rw [hq, Option.bind_some] at h
              split at h
              · simp only [Option.some.injEq, Prod.mk.injEq] at h; omega
              · cases h
          · split at h
            · cases h
            · simp only [Option.some.injEq, Prod.mk.injEq] at h; omega

theorem one_len {l : List UInt8} {k : Nat} {t : List UInt8} {n : Nat} (h : one l = some (k, t, n)) : l ≠ [] := by
  rintro rfl; simp [one] at h

/-- The words from a place on, at which no gap stands; or the place of what is none. -/
def lexAt (at_ : Nat) (l : List UInt8) : Except Nat (List Tok) :=
  if l = [] then .ok [] else
  match h : one l with
  | none => .error at_
  | some (k, t, n) =>
    match lexAt (at_ + n + gap false (l.drop n)) ((l.drop n).drop (gap false (l.drop n))) with
    | .ok ts => .ok (⟨k, t, at_⟩ :: ts)
    | .error e => .error e
termination_by l.length
decreasing_by
  have h1 := one_pos h
  have h2 := one_len h
  cases l with
  | nil => exact absurd rfl h2
  | cons b r => simp only [List.length_drop, List.length_cons]; omega

def lexB (l : List UInt8) : Except Nat (List Tok) :=
  if 20000 < l.length then .error 20000 else lexAt (gap false l) (l.drop (gap false l))

def cat (ts : List Tok) : Except Nat (List Tok) → Except Nat (List Tok)
  | .ok us => .ok (ts ++ us)
  | .error e => .error e

theorem lexAt_nil (p : Nat) : lexAt p [] = .ok [] := by rw [lexAt]; simp
theorem lexAt_bad {p : Nat} {l : List UInt8} (h : l ≠ []) (h1 : one l = none) : lexAt p l = .error p := by
  rw [lexAt, if_neg h]; split
  · rfl
  · rename_i h2; rw [h1] at h2; cases h2
theorem lexAt_one {p : Nat} {l : List UInt8} {k : Nat} {t : List UInt8} {n : Nat} (h : one l = some (k, t, n)) :
    lexAt p l = cat [⟨k, t, p⟩] (lexAt (p + n + gap false (l.drop n)) ((l.drop n).drop (gap false (l.drop n)))) := by
  rw [lexAt, if_neg (one_len h)]
  split
  · rename_i h2; rw [h] at h2; cases h2
  · rename_i k' t' n' h2
    rw [h] at h2
    cases h2
    cases lexAt (p + n + gap false (l.drop n)) ((l.drop n).drop (gap false (l.drop n))) <;> rfl
theorem cat_cat (a b : List Tok) (r : Except Nat (List Tok)) : cat a (cat b r) = cat (a ++ b) r := by
  cases r <;> simp [cat]
theorem cat_nil (r : Except Nat (List Tok)) : cat [] r = r := by cases r <;> rfl

/-- How a call answers words. -/
def wordsOf : Except Nat (List Tok) → List Tok
  | .ok ts => ts
  | .error _ => []
def placeOf : Except Nat (List Tok) → Int
  | .ok _ => -1
  | .error p => (p : Int)

def quoteL (q : UInt8) (t : List UInt8) : List UInt8 := q :: (t.flatMap fun b => if b = q then [q, b] else [b]) ++ [q]

def spell1 (x : Int) (t : List UInt8) : Option (List UInt8) :=
  if x = 0 ∨ x = 2 ∨ x = 4 then some t else if x = 1 then some (quoteL 34 t) else if x = 3 then some (quoteL 39 t) else none

end Go.Proofs.YtnepfnbmmdcgpaaDoor
