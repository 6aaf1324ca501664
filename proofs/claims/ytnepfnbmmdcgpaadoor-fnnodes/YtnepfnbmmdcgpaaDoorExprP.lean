/- Expressions: how they are written as words, and how they are read: plain mathematics. -/
import Derived.Test.YtnepfnbmmdcgpaaDoorEx
import Derived.Test.YtnepfnbmmdcgpaaDoorLexM
import Derived.Test.YtnepfnbmmdcgpaaDoorReserved
namespace Go.Proofs.YtnepfnbmmdcgpaaDoor

/-- A word: its kind and its text. -/
abbrev W := Int × List UInt8

def bindsK (k : Int) : Nat :=
  if k = 9 then 1 else if k = 8 then 2 else if k = 6 then 3
  else if k = 7 ∨ k = 10 ∨ k = 11 ∨ k = 12 ∨ k = 13 ∨ k = 14 ∨ k = 15 then 4
  else if k = 16 ∨ k = 17 then 5 else if k = 18 then 6 else 7

def wAnd : List UInt8 := [97, 110, 100]
def wOr : List UInt8 := [111, 114]
def wNot : List UInt8 := [110, 111, 116]
def wIs : List UInt8 := [105, 115]
def wNull : List UInt8 := [110, 117, 108, 108]
def wTrue : List UInt8 := [116, 114, 117, 101]
def wFalse : List UInt8 := [102, 97, 108, 115, 101]

/-- What stands between two kids. -/
def signK (k : Int) : List UInt8 :=
  if k = 8 then wAnd else if k = 9 then wOr else if k = 10 then [61] else if k = 11 then [60, 62] else if k = 12 then [60] else if k = 13 then [60, 61]
  else if k = 14 then [62] else if k = 15 then [62, 61] else if k = 16 then [43] else if k = 17 then [45] else if k = 18 then [42] else []

def isW (x : W) (t : List UInt8) : Bool := (x.1 == 0 || x.1 == 4) && x.2 == t

/-- The first word is t. -/
def hdW : List W → List UInt8 → Bool
  | x :: _, t => isW x t
  | [], _ => false

/-- The kind of two kids that binds b whose sign is x. -/
def nextK (x : W) (b : Nat) : Option Int := ([8, 9, 10, 11, 12, 13, 14, 15, 16, 17, 18] : List Int).find? fun k => bindsK k == b && isW x (signK k)

def txt (l : List UInt8) : ByteArray := ⟨l.toArray⟩
def leaf (k : Int) (t : List UInt8) (n : Int) : Ex := .mk k (txt t) n []
def node (k : Int) (l : List Ex) : Ex := .mk k (txt []) 0 l

mutual
def atomP : Nat → List W → Option (Ex × List W)
  | 0, _ => none
  | _ + 1, [] => none
  | f + 1, x :: r =>
    if x.1 = 2 then some (leaf 1 [] (readD x.2), r)
    else if x.1 = 3 then some (leaf 2 x.2 0, r)
    else if x.1 = 1 ∨ (x.1 = 0 ∧ keptB x.2 = false) then some (leaf 0 x.2 0, r)
    else if isW x wTrue then some (leaf 3 [] 0, r)
    else if isW x wFalse then some (leaf 4 [] 0, r)
    else if isW x wNull then some (leaf 5 [] 0, r)
    else if isW x [40] then
      match anyP f 1 r with
      | some (e, y :: r') => if isW y [41] then some (e, r') else none
      | _ => none
    else none
def anyP : Nat → Nat → List W → Option (Ex × List W)
  | 0, _, _ => none
  | f + 1, L, ts =>
    if L = 7 then atomP f ts
    else if L = 3 ∧ hdW ts wNot = true then
      match anyP f 3 ts.tail with
      | some (k, r) => some (node 6 [k], r)
      | none => none
    else match anyP f (L + 1) ts with
      | some (e, r) => some (loopP f L e r)
      | none => none
def loopP : Nat → Nat → Ex → List W → Ex × List W
  | 0, _, e, r => (e, r)
  | f + 1, L, e, r =>
    match r with
    | [] => (e, r)
    | x :: r' =>
      if L = 4 ∧ isW x wIs = true ∧ hdW r' wNull = true then (node 7 [e], r'.tail)
      else match nextK x L with
        | none => (e, r)
        | some k => match anyP f (L + 1) r' with
          | none => (e, r)
          | some (s, r'') => if L = 4 then (node k [e, s], r'') else loopP f L (node k [e, s]) r''
end

/-! ### the fuel is enough -/
def enough (f L : Nat) (ts : List W) : Prop := 10 * ts.length + 10 ≤ f + L
def enoughL (f L : Nat) (r : List W) : Prop := 10 * (r.length + 1) + 9 ≤ f + L

/-- What is read takes a word at least. -/
theorem reads_len : ∀ f : Nat, (∀ ts e r, atomP f ts = some (e, r) → r.length < ts.length) ∧ (∀ L ts e r, anyP f L ts = some (e, r) → r.length < ts.length) ∧ (∀ L e r, (loopP f L e r).2.length ≤ r.length) := by
  intro f
  induction f with
  | zero =>
    refine ⟨fun ts e r h => ?_, fun L ts e r h => ?_, fun L e r => ?_⟩
    · cases ts <;> simp [atomP] at h
    · simp [anyP] at h
    · simp [loopP]
  | succ f ih =>
    obtain ⟨ihA, ihN, ihL⟩ := ih
    refine ⟨fun ts e r h => ?_, fun L ts e r h => ?_, fun L e r => ?_⟩
    · cases ts with
      | nil => simp [atomP] at h
      | cons x q =>
        rw [atomP] at h
        split at h
        · cases h; simp
        split at h
        · cases h; simp
        split at h
        · cases h; simp
        split at h
        · cases h; simp
        split at h
        · cases h; simp
        split at h
        · cases h; simp
        split at h
        · split at h
          · rename_i e' y r' he
            have := ihN _ _ _ _ he
            split at h
            · cases h; simp at this ⊢; omega
            · cases h
          · cases h
        · cases h
    · rw [anyP] at h
      split at h
      · exact ihA _ _ _ h
      split at h
      · rename_i hn
        split at h
        · rename_i k r' he
          cases h
          have := ihN _ _ _ _ he
          have h2 : ts.tail.length ≤ ts.length := by simp
          omega
        · cases h
      · split at h
        · rename_i e' r' he
          have h1 := ihN _ _ _ _ he
          have h2 := ihL L e' r'
          rw [Option.some.inj h] at h2
          have h3 : r.length ≤ r'.length := h2
          omega
        · cases h
    · cases r with
      | nil => simp [loopP]
      | cons x r' =>
        rw [loopP]
        split
        · simp; omega
        · split
          · simp
          · split
            · simp
            · rename_i s r'' he
              have h1 := ihN _ _ _ _ he
              split
              · simp only [List.length_cons]; omega
              · simp only [List.length_cons]
                exact Nat.le_trans (ihL L _ r'') (by omega)

end Go.Proofs.YtnepfnbmmdcgpaaDoor
