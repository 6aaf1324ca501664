/- The words of a text: plain mathematics over lists of bytes, nothing of the program. -/
/- The reserved words: impl.isReserved and the model's list. -/
/- Expressions: how they are written as words, and how they are read: plain mathematics. -/
import Derived.Lib.Atoi
import Derived.Lib.ItoaNum
import Derived.Test.YtefjjcoaeanagaaDoorMHas
import Derived.Test.YtefjjcoaeanagaaDoorMEx
namespace Go.Proofs.YtefjjcoaeanagaaDoor

/-- The number that l spells, or -1. -/
def readD (l : List UInt8) : Int :=
  if 9 < l.length then -1 else match Go.Lib.decNat l with
    | none => -1
    | some m => if Go.Lib.itoa (m : Int) = l then (m : Int) else -1

def letterB (b : UInt8) : Bool := (decide (65 ≤ b.toNat) && decide (b.toNat ≤ 90)) || (decide (97 ≤ b.toNat) && decide (b.toNat ≤ 122)) || b.toNat == 95
def digitB (b : UInt8) : Bool := decide (48 ≤ b.toNat) && decide (b.toNat ≤ 57)
def moreB (b : UInt8) : Bool := letterB b || digitB b
def blankB (b : UInt8) : Bool := b.toNat == 32 || b.toNat == 9 || b.toNat == 10 || b.toNat == 13
def lowB (b : UInt8) : UInt8 := if decide (65 ≤ b.toNat) && decide (b.toNat ≤ 90) then b + 32 else b
def signB (b : UInt8) : Bool := [40, 41, 44, 59, 61, 60, 62, 43, 45, 42, 46].contains b.toNat

/-- How many bytes are passed over at the head (true: inside a note). -/
def gap : Bool → List UInt8 → Nat
  | _, [] => 0
  | true, b :: r => 1 + gap (b.toNat != 10) r
  | false, b :: r => if blankB b then 1 + gap false r else if b.toNat == 45 && (r.head?.map (·.toNat)) == some 45 then 1 + gap true r else 0

/-- A word: its kind, its text, its place. -/
structure Tok where
  kind : Nat
  text : List UInt8
  at_ : Nat
deriving DecidableEq

def runL (l : List UInt8) : List UInt8 := l.takeWhile moreB
def runN (l : List UInt8) : Nat := (runL l).length

/-- What stands between quotes (behind the first one), and how many bytes it has there with the last one. -/
def quoted (q : UInt8) : List UInt8 → Option (List UInt8 × Nat)
  | [] => none
  | [b] => if b = q then some ([], 1) else none
  | b :: c :: r =>
    if b = q then
      if c = q then (quoted q r).map fun x => (b :: x.1, 2 + x.2) else some ([], 1)
    else (quoted q (c :: r)).map fun x => (b :: x.1, 1 + x.2)

def twoB (b c : UInt8) : Bool := (b.toNat == 60 && c.toNat == 61) || (b.toNat == 62 && c.toNat == 61) || (b.toNat == 60 && c.toNat == 62)

def signN : List UInt8 → Nat
  | [] => 0
  | [b] => if signB b then 1 else 0
  | b :: c :: _ => if twoB b c then 2 else if signB b then 1 else 0

def nameB (t : List UInt8) : Bool := decide (1 ≤ t.length) && decide (t.length ≤ 40) && !t.contains 0

/-- The word at the head: kind, text, how many bytes. -/
def one : List UInt8 → Option (Nat × List UInt8 × Nat)
  | [] => none
  | b :: r =>
    if letterB b then some (0, (runL (b :: r)).map lowB, runN (b :: r))
    else if digitB b then if 0 ≤ readD (runL (b :: r)) then some (2, runL (b :: r), runN (b :: r)) else none
    else if b.toNat = 34 then (quoted 34 r).bind fun x => if nameB x.1 then some (1, x.1, 1 + x.2) else none
    else if b.toNat = 39 then (quoted 39 r).bind fun x => if x.1.length ≤ 100 then some (3, x.1, 1 + x.2) else none
    else if signN (b :: r) = 0 then none else some (4, (b :: r).take (signN (b :: r)), signN (b :: r))

theorem runN_pos {b : UInt8} {r : List UInt8} (h : moreB b = true) : 0 < runN (b :: r) := by
  simp [runN, runL, h]

theorem one_pos {l : List UInt8} {k : Nat} {t : List UInt8} {n : Nat} (h : one l = some (k, t, n)) : 0 < n := by
  cases l with
  | nil => simp [one] at h
  | cons b r =>
    rw [one] at h
    split at h
    · rename_i hb
      simp only [Option.some.injEq, Prod.mk.injEq] at h
      rw [← h.2.2]; exact runN_pos (by simp [moreB, hb])
    · split at h
      · rename_i hb
        split at h
        · simp only [Option.some.injEq, Prod.mk.injEq] at h
          rw [← h.2.2]; exact runN_pos (by simp [moreB, hb])
        · cases h
      · split at h
        · cases hq : quoted 34 r with
          | none => rw [hq] at h; cases h
          | some x =>
            rw [hq, Option.bind_some] at h
            split at h
            · simp only [Option.some.injEq, Prod.mk.injEq] at h; omega
            · cases h
        · split at h
          · cases hq : quoted 39 r with
            | none => rw [hq] at h; cases h
            | some x =>
              rw [hq, Option.bind_some] at h
              split at h
              · simp only [Option.some.injEq, Prod.mk.injEq] at h; omega
              · cases h
          · split at h
            · cases h
            · simp only [Option.some.injEq, Prod.mk.injEq] at h; omega

theorem one_len {l : List UInt8} {k : Nat} {t : List UInt8} {n : Nat} (h : one l = some (k, t, n)) : l ≠ [] := by
  rintro rfl; simp [one] at h

/-- The words from a place on, at which no gap stands; or the place of what is none. -/
def lexAt (at_ : Nat) (l : List UInt8) : Except Nat (List Tok) :=
  if l = [] then .ok [] else
  match h : one l with
  | none => .error at_
  | some (k, t, n) =>
    match lexAt (at_ + n + gap false (l.drop n)) ((l.drop n).drop (gap false (l.drop n))) with
    | .ok ts => .ok (⟨k, t, at_⟩ :: ts)
    | .error e => .error e
termination_by l.length
decreasing_by
  have h1 := one_pos h
  have h2 := one_len h
  cases l with
  | nil => exact absurd rfl h2
  | cons b r => simp only [List.length_drop, List.length_cons]; omega

def lexB (l : List UInt8) : Except Nat (List Tok) :=
  if 20000 < l.length then .error 20000 else lexAt (gap false l) (l.drop (gap false l))

def cat (ts : List Tok) : Except Nat (List Tok) → Except Nat (List Tok)
  | .ok us => .ok (ts ++ us)
  | .error e => .error e

theorem lexAt_nil (p : Nat) : lexAt p [] = .ok [] := by rw [lexAt]; simp
theorem lexAt_bad {p : Nat} {l : List UInt8} (h : l ≠ []) (h1 : one l = none) : lexAt p l = .error p := by
  rw [lexAt, if_neg h]; split
  · rfl
  · rename_i h2; rw [h1] at h2; cases h2
theorem lexAt_one {p : Nat} {l : List UInt8} {k : Nat} {t : List UInt8} {n : Nat} (h : one l = some (k, t, n)) :
    lexAt p l = cat [⟨k, t, p⟩] (lexAt (p + n + gap false (l.drop n)) ((l.drop n).drop (gap false (l.drop n)))) := by
  rw [lexAt, if_neg (one_len h)]
  split
  · rename_i h2; rw [h] at h2; cases h2
  · rename_i k' t' n' h2
    rw [h] at h2
    cases h2
    cases lexAt (p + n + gap false (l.drop n)) ((l.drop n).drop (gap false (l.drop n))) <;> rfl
theorem cat_cat (a b : List Tok) (r : Except Nat (List Tok)) : cat a (cat b r) = cat (a ++ b) r := by
  cases r <;> simp [cat]
theorem cat_nil (r : Except Nat (List Tok)) : cat [] r = r := by cases r <;> rfl

/-- How a call answers words. -/
def wordsOf : Except Nat (List Tok) → List Tok
  | .ok ts => ts
  | .error _ => []
def placeOf : Except Nat (List Tok) → Int
  | .ok _ => -1
  | .error p => (p : Int)

def quoteL (q : UInt8) (t : List UInt8) : List UInt8 := q :: (t.flatMap fun b => if b = q then [q, b] else [b]) ++ [q]

def spell1 (x : Int) (t : List UInt8) : Option (List UInt8) :=
  if x = 0 ∨ x = 2 ∨ x = 4 then some t else if x = 1 then some (quoteL 34 t) else if x = 3 then some (quoteL 39 t) else none

end Go.Proofs.YtefjjcoaeanagaaDoor

namespace Go.Proofs.YtefjjcoaeanagaaDoor
open Go.RowKit

/-- The reserved words, byte by byte. -/
def keptW : List (List UInt8) := [[97, 100, 100], [97, 108, 108], [97, 108, 116, 101, 114], [97, 110, 100], [97, 115], [98, 111, 111, 108], [99, 104, 97, 114], [99, 104, 101, 99, 107], [99, 111, 108, 117, 109, 110], [99, 111, 110, 115, 116, 114, 97, 105, 110, 116], [99, 114, 101, 97, 116, 101], [100, 101, 102, 97, 117, 108, 116], [100, 114, 111, 112], [101, 110, 117, 109], [102, 97, 108, 115, 101], [102, 111, 114, 101, 105, 103, 110], [102, 114, 111, 109], [105, 110, 100, 101, 120], [105, 110, 116], [105, 115], [107, 101, 121], [110, 111, 116], [110, 117, 108, 108], [111, 110], [111, 114], [112, 114, 105, 109, 97, 114, 121], [114, 101, 102, 101, 114, 101, 110, 99, 101, 115], [115, 101, 108, 101, 99, 116], [115, 101, 113, 117, 101, 110, 99, 101], [115, 101, 116], [115, 116, 97, 114, 116], [116, 97, 98, 108, 101], [116, 101, 120, 116], [116, 111], [116, 114, 117, 101], [116, 121, 112, 101], [117, 110, 105, 113, 117, 101], [118, 105, 101, 119], [119, 104, 101, 114, 101]]
def keptB (l : List UInt8) : Bool := keptW.any fun x => l == x

theorem kept_hit {l x : List UInt8} (hx : x ∈ keptW) (h : (l == x) = true) : keptB l = true := List.any_eq_true.2 ⟨x, hx, h⟩

end Go.Proofs.YtefjjcoaeanagaaDoor

namespace Go.Proofs.YtefjjcoaeanagaaDoor

/-- A word: its kind and its text. -/
abbrev W := Int × List UInt8

def bindsK (k : Int) : Nat :=
  if k = 9 then 1 else if k = 8 then 2 else if k = 6 then 3
  else if k = 7 ∨ k = 10 ∨ k = 11 ∨ k = 12 ∨ k = 13 ∨ k = 14 ∨ k = 15 then 4
  else if k = 16 ∨ k = 17 then 5 else if k = 18 then 6 else 7

def wAnd : List UInt8 := [97, 110, 100]
def wOr : List UInt8 := [111, 114]
def wNot : List UInt8 := [110, 111, 116]
def wIs : List UInt8 := [105, 115]
def wNull : List UInt8 := [110, 117, 108, 108]
def wTrue : List UInt8 := [116, 114, 117, 101]
def wFalse : List UInt8 := [102, 97, 108, 115, 101]

/-- What stands between two kids. -/
def signK (k : Int) : List UInt8 :=
  if k = 8 then wAnd else if k = 9 then wOr else if k = 10 then [61] else if k = 11 then [60, 62] else if k = 12 then [60] else if k = 13 then [60, 61]
  else if k = 14 then [62] else if k = 15 then [62, 61] else if k = 16 then [43] else if k = 17 then [45] else if k = 18 then [42] else []

def isW (x : W) (t : List UInt8) : Bool := (x.1 == 0 || x.1 == 4) && x.2 == t

/-- The first word is t. -/
def hdW : List W → List UInt8 → Bool
  | x :: _, t => isW x t
  | [], _ => false

/-- The kind of two kids that binds b whose sign is x. -/
def nextK (x : W) (b : Nat) : Option Int := ([8, 9, 10, 11, 12, 13, 14, 15, 16, 17, 18] : List Int).find? fun k => bindsK k == b && isW x (signK k)

def txt (l : List UInt8) : ByteArray := ⟨l.toArray⟩
def leaf (k : Int) (t : List UInt8) (n : Int) : Ex := .mk k (txt t) n []
def node (k : Int) (l : List Ex) : Ex := .mk k (txt []) 0 l

mutual
def atomP : Nat → List W → Option (Ex × List W)
  | 0, _ => none
  | _ + 1, [] => none
  | f + 1, x :: r =>
    if x.1 = 2 then some (leaf 1 [] (readD x.2), r)
    else if x.1 = 3 then some (leaf 2 x.2 0, r)
    else if x.1 = 1 ∨ (x.1 = 0 ∧ keptB x.2 = false) then some (leaf 0 x.2 0, r)
    else if isW x wTrue then some (leaf 3 [] 0, r)
    else if isW x wFalse then some (leaf 4 [] 0, r)
    else if isW x wNull then some (leaf 5 [] 0, r)
    else if isW x [40] then
      match anyP f 1 r with
      | some (e, y :: r') => if isW y [41] then some (e, r') else none
      | _ => none
    else none
def anyP : Nat → Nat → List W → Option (Ex × List W)
  | 0, _, _ => none
  | f + 1, L, ts =>
    if L = 7 then atomP f ts
    else if L = 3 ∧ hdW ts wNot = true then
      match anyP f 3 ts.tail with
      | some (k, r) => some (node 6 [k], r)
      | none => none
    else match anyP f (L + 1) ts with
      | some (e, r) => some (loopP f L e r)
      | none => none
def loopP : Nat → Nat → Ex → List W → Ex × List W
  | 0, _, e, r => (e, r)
  | f + 1, L, e, r =>
    match r with
    | [] => (e, r)
    | x :: r' =>
      if L = 4 ∧ isW x wIs = true ∧ hdW r' wNull = true then (node 7 [e], r'.tail)
      else match nextK x L with
        | none => (e, r)
        | some k => match anyP f (L + 1) r' with
          | none => (e, r)
          | some (s, r'') => if L = 4 then (node k [e, s], r'') else loopP f L (node k [e, s]) r''
end

/-! ### the fuel is enough -/
def enough (f L : Nat) (ts : List W) : Prop := 10 * ts.length + 10 ≤ f + L
def enoughL (f L : Nat) (r : List W) : Prop := 10 * (r.length + 1) + 9 ≤ f + L

/-- What is read takes a word at least. -/
theorem reads_len : ∀ f : Nat, (∀ ts e r, atomP f ts = some (e, r) → r.length < ts.length) ∧ (∀ L ts e r, anyP f L ts = some (e, r) → r.length < ts.length) ∧ (∀ L e r, (loopP f L e r).2.length ≤ r.length) := by
  intro f
  induction f with
  | zero =>
    refine ⟨fun ts e r h => ?_, fun L ts e r h => ?_, fun L e r => ?_⟩
    · cases ts <;> simp [atomP] at h
    · simp [anyP] at h
    · simp [loopP]
  | succ f ih =>
    obtain ⟨ihA, ihN, ihL⟩ := ih
    refine ⟨fun ts e r h => ?_, fun L ts e r h => ?_, fun L e r => ?_⟩
    · cases ts with
      | nil => simp [atomP] at h
      | cons x q =>
        rw [atomP] at h
        split at h
        · cases h; simp
        split at h
        · cases h; simp
        split at h
        · cases h; simp
        split at h
        · cases h; simp
        split at h
        · cases h; simp
        split at h
        · cases h; simp
        split at h
        · split at h
          · rename_i e' y r' he
            have := ihN _ _ _ _ he
            split at h
            · cases h; simp at this ⊢; omega
            · cases h
          · cases h
        · cases h
    · rw [anyP] at h
      split at h
      · exact ihA _ _ _ h
      split at h
      · rename_i hn
        split at h
        · rename_i k r' he
          cases h
          have := ihN _ _ _ _ he
          have h2 : ts.tail.length ≤ ts.length := by simp
          omega
        · cases h
      · split at h
        · rename_i e' r' he
          have h1 := ihN _ _ _ _ he
          have h2 := ihL L e' r'
          rw [Option.some.inj h] at h2
          have h3 : r.length ≤ r'.length := h2
          omega
        · cases h
    · cases r with
      | nil => simp [loopP]
      | cons x r' =>
        rw [loopP]
        split
        · simp; omega
        · split
          · simp
          · split
            · simp
            · rename_i s r'' he
              have h1 := ihN _ _ _ _ he
              split
              · simp only [List.length_cons]; omega
              · simp only [List.length_cons]
                exact Nat.le_trans (ihL L _ r'') (by omega)

end Go.Proofs.YtefjjcoaeanagaaDoor
