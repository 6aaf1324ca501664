/- Expressions: how much fuel is left does not matter; levels one behind the other. -/
/- Expressions: how the program reads them, and that it reads what the model reads. -/
/- The program's reader of expressions: take. -/
/- The program's reader of expressions: takeSign, wordLeaf. -/
/- Expressions in memory: rows of expressions, trees in new blocks. -/
/- spec.Nodes counts the nodes. -/
import Derived.Test.YtgnillmhpockkaaGreatDoorMLexP
import Derived.Test.YtgnillmhpockkaaGreatDoorMMem
import Derived.BigQuiet
import Derived.Deep.RegionHeld3
namespace Go.Proofs.YtgnillmhpockkaaGreatDoor

def enoughA (f : Nat) (ts : List W) : Prop := 10 * ts.length + 2 ≤ f

theorem fuel_all : ∀ f f' : Nat, (∀ ts, enoughA f ts → enoughA f' ts → atomP f ts = atomP f' ts) ∧
    (∀ L ts, 1 ≤ L → L ≤ 7 → enough f L ts → enough f' L ts → anyP f L ts = anyP f' L ts) ∧
    (∀ L e r, 1 ≤ L → L ≤ 6 → enoughL f L r → enoughL f' L r → loopP f L e r = loopP f' L e r) := by
  intro f
  induction f with
  | zero =>
    intro f'
    refine ⟨fun ts h => ?_, fun L ts h1 h7 h => ?_, fun L e r h1 h6 h => ?_⟩
    · unfold enoughA at h; omega
    · unfold enough at h; omega
    · unfold enoughL at h; omega
  | succ f ih =>
    intro f'
    cases f' with
    | zero =>
      refine ⟨fun ts _ h => ?_, fun L ts h1 h7 _ h => ?_, fun L e r h1 h6 _ h => ?_⟩
      · unfold enoughA at h; omega
      · unfold enough at h; omega
      · unfold enoughL at h; omega
    | succ f' =>
      obtain ⟨ihA, ihN, ihL⟩ := ih f'
      refine ⟨fun ts h h' => ?_, fun L ts h1 h7 h h' => ?_, fun L e r h1 h6 h h' => ?_⟩
      · unfold enoughA at h h'
        cases ts with
        | nil => rw [atomP, atomP]
        | cons x q =>
          simp only [List.length_cons] at h h'
          rw [atomP, atomP, ihN 1 q (by omega) (by omega) (by unfold enough; omega) (by unfold enough; omega)]
      · unfold enough at h h'
        rw [anyP, anyP]
        by_cases c1 : L = 7
        · subst c1
          rw [if_pos rfl, if_pos rfl]
          exact ihA ts (by unfold enoughA; omega) (by unfold enoughA; omega)
        · rw [if_neg c1, if_neg c1]
          have ht : ts.tail.length ≤ ts.length := by simp
          by_cases c2 : L = 3 ∧ hdW ts wNot = true
          · obtain ⟨rfl, c3⟩ := c2
            have ht1 : ts.tail.length + 1 = ts.length := by cases ts with | nil => cases c3 | cons => simp
            rw [if_pos ⟨rfl, c3⟩, if_pos ⟨rfl, c3⟩, ihN 3 ts.tail (by omega) (by omega) (by unfold enough; omega) (by unfold enough; omega)]
          · rw [if_neg c2, if_neg c2, ihN (L + 1) ts (by omega) (by omega) (by unfold enough; omega) (by unfold enough; omega)]
            split
            · rename_i e r he
              have := (reads_len f').2.1 _ _ _ _ he
              rw [ihL L e r h1 (by omega) (by unfold enoughL; omega) (by unfold enoughL; omega)]
            · rfl
      · unfold enoughL at h h'
        cases r with
        | nil => rw [loopP, loopP]
        | cons x r' =>
          simp only [List.length_cons] at h h'
          rw [loopP, loopP]
          show (if L = 4 ∧ isW x wIs = true ∧ hdW r' wNull = true then _ else _) = (if L = 4 ∧ isW x wIs = true ∧ hdW r' wNull = true then _ else _)
          split
          · rfl
          · split
            · rfl
            · rename_i k hk
              rw [ihN (L + 1) r' (by omega) (by omega) (by unfold enough; omega) (by unfold enough; omega)]
              split
              · rfl
              · rename_i s r'' he
                have := (reads_len f').2.1 _ _ _ _ he
                split
                · rfl
                · exact ihL L _ r'' h1 h6 (by unfold enoughL; omega) (by unfold enoughL; omega)

theorem any_fuel {f f' L : Nat} {ts : List W} (h1 : 1 ≤ L) (h7 : L ≤ 7) (h : enough f L ts) (h' : enough f' L ts) : anyP f L ts = anyP f' L ts := (fuel_all f f').2.1 L ts h1 h7 h h'
theorem loop_fuel {f f' L : Nat} {e : Ex} {r : List W} (h1 : 1 ≤ L) (h6 : L ≤ 6) (h : enoughL f L r) (h' : enoughL f' L r) : loopP f L e r = loopP f' L e r := (fuel_all f f').2.2 L e r h1 h6 h h'

/-- Loops from level H down to level n. -/
def casc (g n : Nat) : Nat → Ex → List W → Ex × List W
  | 0, e, r => (e, r)
  | H + 1, e, r => if H + 1 < n then (e, r) else casc g n H (loopP g (H + 1) e r).1 (loopP g (H + 1) e r).2

def plenty (g : Nat) (r : List W) : Prop := 10 * (r.length + 1) + 9 ≤ g

theorem casc_below {g n H : Nat} (h : H < n) (e : Ex) (r : List W) : casc g n H e r = (e, r) := by
  cases H with
  | zero => rw [casc]
  | succ H => rw [casc, if_pos h]

/-- Where nothing of these strengths stands nothing is read. -/
theorem casc_stop {g n : Nat} : ∀ {H : Nat} {e : Ex} {r : List W}, H ≤ 6 → Stop n r → casc g n H e r = (e, r)
  | 0, e, r, _, _ => by rw [casc]
  | H + 1, e, r, hH, hs => by
    rw [casc]
    split
    · rfl
    · rename_i hn
      rw [loop_stop (hs.mono (by omega)) hH]
      exact casc_stop (by omega) hs

/-- What a level reads of the words behind a first operand: from any strength down. -/
theorem any_not {g L : Nat} {ts : List W} (h1 : 1 ≤ L) (h3 : L ≤ 3) (hn : hdW ts wNot = true) (hg : 10 * ts.length + 20 ≤ g) :
    anyP g L ts = match anyP g 3 ts.tail with | some (k, r) => some (casc g L 2 (node 6 [k]) r) | none => none := by
  have hpos : 0 < ts.length := by cases ts with | nil => cases hn | cons => simp
  have ht : ts.tail.length + 1 = ts.length := by cases ts with | nil => cases hn | cons => simp
  have three : ∀ g', 10 * ts.length + 8 ≤ g' → anyP g' 3 ts = match anyP g 3 ts.tail with | some (k, r) => some (node 6 [k], r) | none => none := by
    intro g' hg'
    obtain ⟨f, rfl⟩ : ∃ f, g' = f + 1 := ⟨g' - 1, by omega⟩
    rw [anyP, if_neg (by omega), if_pos ⟨rfl, hn⟩, any_fuel (f := f) (f' := g) (by omega) (by omega) (by unfold enough; omega) (by unfold enough; omega)]
    rfl
  have hlen : ∀ k r, anyP g 3 ts.tail = some (k, r) → r.length + 2 ≤ ts.length := fun k r h => by
    have := (reads_len g).2.1 _ _ _ _ h
    omega
  have two : ∀ g', 10 * ts.length + 9 ≤ g' → anyP g' 2 ts = match anyP g 3 ts.tail with | some (k, r) => some (loopP g 2 (node 6 [k]) r) | none => none := by
    intro g' hg'
    obtain ⟨f, rfl⟩ : ∃ f, g' = f + 1 := ⟨g' - 1, by omega⟩
    rw [anyP, if_neg (by omega), if_neg (by omega), three f (by omega)]
    cases hk : anyP g 3 ts.tail with
    | none => rfl
    | some p =>
      obtain ⟨k, r⟩ := p
      have := hlen k r hk
      show some (loopP f 2 (node 6 [k]) r) = some (loopP g 2 (node 6 [k]) r)
      rw [loop_fuel (f := f) (f' := g) (by omega) (by omega) (by unfold enoughL; omega) (by unfold enoughL; omega)]
  have hL : L = 3 ∨ L = 2 ∨ L = 1 := by omega
  rcases hL with rfl | rfl | rfl
  · rw [three g (by omega)]
    cases anyP g 3 ts.tail with
    | none => rfl
    | some p => rfl
  · rw [two g (by omega)]
    cases anyP g 3 ts.tail with
    | none => rfl
    | some p => rfl
  · obtain ⟨f, rfl⟩ : ∃ f, g = f + 1 := ⟨g - 1, by omega⟩
    rw [anyP, if_neg (by omega), if_neg (by omega), two f (by omega)]
    cases hk : anyP (f + 1) 3 ts.tail with
    | none => rfl
    | some p =>
      obtain ⟨k, r⟩ := p
      have := hlen k r hk
      have h2 := (reads_len (f + 1)).2.2 2 (node 6 [k]) r
      show some (loopP f 1 (loopP (f + 1) 2 (node 6 [k]) r).1 (loopP (f + 1) 2 (node 6 [k]) r).2) = some (casc (f + 1) 1 2 (node 6 [k]) r)
      generalize hp : loopP (f + 1) 2 (node 6 [k]) r = p at h2 ⊢
      obtain ⟨e2, r2⟩ := p
      simp only at h2 ⊢
      rw [casc, if_neg (by omega), hp, casc, if_neg (by omega), casc, loop_fuel (f := f) (f' := f + 1) (by omega) (by omega) (by unfold enoughL; omega) (by unfold enoughL; omega)]

theorem any_atom {g : Nat} {ts : List W} (hg : 10 * ts.length + 20 ≤ g) : ∀ d L, L + d = 7 → 1 ≤ L → ¬ (L ≤ 3 ∧ hdW ts wNot = true) → ∀ g', 10 * ts.length + 10 ≤ g' + L →
    anyP g' L ts = match atomP g ts with | some (e, r) => some (casc g L 6 e r) | none => none := by
  intro d
  induction d with
  | zero =>
    intro L hL _ _ g' hg'
    have : L = 7 := by omega
    subst this
    obtain ⟨f, rfl⟩ : ∃ f, g' = f + 1 := ⟨g' - 1, by omega⟩
    rw [anyP, if_pos rfl, (fuel_all f g).1 ts (by unfold enoughA; omega) (by unfold enoughA; omega)]
    cases atomP g ts with
    | none => rfl
    | some p => obtain ⟨e, r⟩ := p; show some (e, r) = some (casc g 7 6 e r); rw [casc_below (by omega)]
  | succ d ih =>
    intro L hL h1 hn g' hg'
    obtain ⟨f, rfl⟩ : ∃ f, g' = f + 1 := ⟨g' - 1, by omega⟩
    rw [anyP, if_neg (by omega), if_neg (by rintro ⟨h3, h4⟩; exact hn ⟨by omega, h4⟩), ih (L + 1) (by omega) (by omega) (by rintro ⟨h3, h4⟩; exact hn ⟨by omega, h4⟩) f (by omega)]
    cases ha : atomP g ts with
    | none => rfl
    | some p =>
      obtain ⟨e, r⟩ := p
      have hr := (reads_len g).1 _ _ _ ha
      show some (loopP f L (casc g (L + 1) 6 e r).1 (casc g (L + 1) 6 e r).2) = some (casc g L 6 e r)
      have key : ∀ H e r, L ≤ H → r.length < ts.length → loopP f L (casc g (L + 1) H e r).1 (casc g (L + 1) H e r).2 = casc g L H e r := by
        intro H
        induction H with
        | zero => intro e r h; omega
        | succ H ihH =>
          intro e r h hr
          by_cases he : L = H + 1
          · subst he
            rw [casc_below (by omega), casc, if_neg (by omega), casc_below (by omega)]
            show loopP f (H + 1) e r = loopP g (H + 1) e r
            exact loop_fuel (by omega) (by omega) (by unfold enoughL; omega) (by unfold enoughL; omega)
          · rw [casc, if_neg (by omega), casc, if_neg (by omega)]
            have := (reads_len g).2.2 (H + 1) e r
            exact ihH _ _ (by omega) (by omega)
      rw [key 6 e r (by omega) hr]

end Go.Proofs.YtgnillmhpockkaaGreatDoor

namespace Go.Proofs.YtgnillmhpockkaaGreatDoor

/-- The first word is this one, of that kind. -/
def tkW : List W → Int → List UInt8 → Bool
  | x :: _, k, t => x.1 == k && x.2 == t
  | [], _, _ => false

/-- The operator at the head. -/
def opI : List W → Option (Int × List W)
  | [] => none
  | x :: r => if x = (0, wIs) then (if tkW r 0 wNull = true then some (7, r.tail) else none)
    else match ([8, 9, 10, 11, 12, 13, 14, 15, 16, 17, 18] : List Int).find? (fun k => x == signW k) with
      | some k => some (k, r)
      | none => none

def wordLeafI (t : List UInt8) : Option Ex :=
  if t = wTrue then some (leaf 3 [] 0) else if t = wFalse then some (leaf 4 [] 0) else if t = wNull then some (leaf 5 [] 0)
  else if keptB t = true then none else some (leaf 0 t 0)

def leafI : List W → Option (Ex × List W)
  | [] => none
  | x :: r => if x.1 = 0 then (match wordLeafI x.2 with | some e => some (e, r) | none => none)
    else if x.1 = 1 then some (leaf 0 x.2 0, r) else if x.1 = 2 then some (leaf 1 [] (readD x.2), r) else if x.1 = 3 then some (leaf 2 x.2 0, r) else none

mutual
def operandI : Nat → Nat → List W → Option (Ex × Nat × List W)
  | 0, _, _ => none
  | f + 1, n, ts =>
    if tkW ts 4 [40] = true then
      match exprI f 1 ts.tail with
      | some (e, _, r) => if tkW r 4 [41] = true then some (e, 7, r.tail) else none
      | none => none
    else if n ≤ 3 ∧ tkW ts 0 wNot = true then
      match exprI f 3 ts.tail with
      | some (e, _, r) => some (node 6 [e], 3, r)
      | none => none
    else match leafI ts with
      | some (e, r) => some (e, 7, r)
      | none => none
def exprI : Nat → Nat → List W → Option (Ex × Nat × List W)
  | 0, _, _ => none
  | f + 1, n, ts => match operandI f n ts with
    | some (e, s, r) => some (extI f n e s r)
    | none => none
def extI : Nat → Nat → Ex → Nat → List W → Ex × Nat × List W
  | 0, _, e, s, r => (e, s, r)
  | f + 1, n, e, s, r =>
    match opI r with
    | none => (e, s, r)
    | some (k, r') =>
      if bindsK k < n ∨ s < firstK k then (e, s, r)
      else if k = 7 then extI f n (node 7 [e]) 4 r'
      else match exprI f (bindsK k + 1) r' with
        | none => (e, s, r)
        | some (q, _, r'') => extI f n (node k [e, q]) (bindsK k) r''
end

/-- Words as Lex gives them: no sign that is spelt as a word, no word that is spelt as a sign. -/
def FineW (x : W) : Prop := (x.1 = 4 → x.2 ∉ [wAnd, wOr, wNot, wIs, wNull, wTrue, wFalse]) ∧ (x.1 = 0 → x.2 ∉ ([[61], [60, 62], [60], [60, 61], [62], [62, 61], [43], [45], [42], [40], [41]] : List (List UInt8)))
def Fine (ts : List W) : Prop := ∀ x ∈ ts, FineW x

theorem Fine.tail {ts : List W} (h : Fine ts) : Fine ts.tail := fun x hx => h x (List.mem_of_mem_tail hx)
theorem Fine.of {x : W} {ts : List W} (h : Fine (x :: ts)) : FineW x ∧ Fine ts := ⟨h x (List.mem_cons_self ..), fun y hy => h y (List.mem_cons_of_mem _ hy)⟩

theorem isW_word {x : W} (h : FineW x) {t : List UInt8} (ht : t ∈ [wAnd, wOr, wNot, wIs, wNull, wTrue, wFalse]) : isW x t = (x == (0, t)) := by
  obtain ⟨k, s⟩ := x
  rw [Bool.eq_iff_iff]
  unfold isW
  simp only [Bool.and_eq_true, Bool.or_eq_true, beq_iff_eq, Prod.mk.injEq]
  constructor
  · rintro ⟨h0 | h4, rfl⟩
    · exact ⟨h0, rfl⟩
    · exact absurd ht (h.1 h4)
  · rintro ⟨h0, rfl⟩; exact ⟨.inl h0, rfl⟩

theorem isW_sign {x : W} (h : FineW x) {t : List UInt8} (ht : t ∈ ([[61], [60, 62], [60], [60, 61], [62], [62, 61], [43], [45], [42], [40], [41]] : List (List UInt8))) : isW x t = (x == (4, t)) := by
  obtain ⟨k, s⟩ := x
  rw [Bool.eq_iff_iff]
  unfold isW
  simp only [Bool.and_eq_true, Bool.or_eq_true, beq_iff_eq, Prod.mk.injEq]
  constructor
  · rintro ⟨h0 | h4, rfl⟩
    · exact absurd ht (h.2 h0)
    · exact ⟨h4, rfl⟩
  · rintro ⟨h0, rfl⟩; exact ⟨.inr h0, rfl⟩

theorem isW_op {x : W} (h : FineW x) : ∀ k ∈ ([8, 9, 10, 11, 12, 13, 14, 15, 16, 17, 18] : List Int), isW x (signK k) = (x == signW k) := by
  intro k hk
  have : (k = 8 ∨ k = 9) ∧ signK k ∈ [wAnd, wOr, wNot, wIs, wNull, wTrue, wFalse] ∧ signW k = (0, signK k) ∨ signK k ∈ ([[61], [60, 62], [60], [60, 61], [62], [62, 61], [43], [45], [42], [40], [41]] : List (List UInt8)) ∧ signW k = (4, signK k) := by
    revert k; decide
  rcases this with ⟨_, h1, h2⟩ | ⟨h1, h2⟩
  · rw [h2]; exact isW_word h h1
  · rw [h2]; exact isW_sign h h1

/-- The kind whose sign x is. -/
def opK (x : W) : Option Int := ([8, 9, 10, 11, 12, 13, 14, 15, 16, 17, 18] : List Int).find? (fun k => x == signW k)

theorem opK_some {x : W} {k : Int} (h : opK x = some k) : k ∈ ([8, 9, 10, 11, 12, 13, 14, 15, 16, 17, 18] : List Int) ∧ x = signW k := by
  unfold opK at h
  have h1 := List.mem_of_find?_eq_some h
  have h2 := List.find?_some h
  exact ⟨h1, by simpa using h2⟩

theorem opK_none {x : W} (hx : FineW x) (h : opK x = none) (b : Nat) : nextK x b = none := by
  unfold opK at h
  rw [List.find?_eq_none] at h
  refine next_none_of fun k hk _ => ?_
  rw [isW_op hx k hk]
  simpa using h k hk

theorem next_op {x : W} {k : Int} (h : opK x = some k) {b : Nat} (hb : b < 7) : nextK x b = if b = bindsK k then some k else none := by
  obtain ⟨hk, rfl⟩ := opK_some h
  exact sign_next k hk b hb

theorem op_binds : ∀ k ∈ ([8, 9, 10, 11, 12, 13, 14, 15, 16, 17, 18] : List Int), k ≠ 7 ∧ bindsK k ≤ 6 ∧ 1 ≤ bindsK k ∧ bindsK k ≠ 3 := by decide

theorem op_not_is {x : W} {k : Int} (h : opK x = some k) : x ≠ (0, wIs) := by
  obtain ⟨hk, rfl⟩ := opK_some h
  have : ∀ k ∈ ([8, 9, 10, 11, 12, 13, 14, 15, 16, 17, 18] : List Int), signW k ≠ (0, wIs) := by decide
  exact this k hk

/-- From which level the model goes on behind what binds s. -/
def start (s : Nat) : Nat := if s = 7 then 6 else if s = 4 then 3 else s

def roomI (f : Nat) (ts : List W) : Prop := 3 * ts.length + 3 ≤ f
def roomX (f : Nat) (r : List W) : Prop := 3 * r.length + 2 ≤ f

def drop2 (p : Ex × Nat × List W) : Ex × List W := (p.1, p.2.2)

/-- Levels above b read nothing where a sign of strength b stands; b's own does. -/
theorem casc_to {g n b : Nat} {x : W} {r : List W} {e : Ex} (hno : ∀ L, L ≤ 6 → L ≠ b → ∀ e, loopP g L e (x :: r) = (e, x :: r)) (hb : n ≤ b) (h1 : 1 ≤ b) : ∀ H, b ≤ H → H ≤ 6 →
    casc g n H e (x :: r) = casc g n (b - 1) (loopP g b e (x :: r)).1 (loopP g b e (x :: r)).2 := by
  intro H
  induction H with
  | zero => intro h; omega
  | succ H ih =>
    intro h h6
    rw [casc, if_neg (by omega)]
    by_cases he : b = H + 1
    · subst he; rfl
    · rw [hno (H + 1) h6 (by omega)]
      exact ih (by omega) (by omega)

theorem casc_none {g n : Nat} {r : List W} {e : Ex} : ∀ H, (∀ L, n ≤ L → L ≤ H → loopP g L e r = (e, r)) → casc g n H e r = (e, r) := by
  intro H
  induction H with
  | zero => intro _; rw [casc]
  | succ H ih =>
    intro h
    rw [casc]
    split
    · rfl
    · rw [h (H + 1) (by omega) (Nat.le_refl _)]
      exact ih fun L h1 h2 => h L h1 (by omega)

theorem loop_no {g L : Nat} {e : Ex} {x : W} {r : List W} (h1 : nextK x L = none) (h2 : ¬ (L = 4 ∧ isW x wIs = true ∧ hdW r wNull = true)) : loopP g L e (x :: r) = (e, x :: r) := by
  cases g with
  | zero => rw [loopP]
  | succ g => rw [loopP]; show (if _ then _ else _) = _; rw [if_neg h2, h1]

theorem is_op : opK (0, wIs) = none := by decide

theorem hd_null {r : List W} (h : Fine r) : hdW r wNull = tkW r 0 wNull := by
  cases r with
  | nil => rfl
  | cons x r =>
    show isW x wNull = _
    rw [isW_word h.of.1 (by decide)]
    obtain ⟨k, s⟩ := x
    rfl

theorem hd_not {r : List W} (h : Fine r) : hdW r wNot = tkW r 0 wNot := by
  cases r with
  | nil => rfl
  | cons x r =>
    show isW x wNot = _
    rw [isW_word h.of.1 (by decide)]
    obtain ⟨k, s⟩ := x
    rfl

theorem start_le {s : Nat} (h : s ≤ 7) : start s ≤ 6 := by unfold start; split <;> (try split) <;> omega

theorem fits_start {k : Int} (hk : k = 7 ∨ k ∈ ([8, 9, 10, 11, 12, 13, 14, 15, 16, 17, 18] : List Int)) {s : Nat} (hs : s ≤ 7) : ¬ s < firstK k ↔ bindsK k ≤ start s := by
  have h : ∀ b f, ((b = 4 ∧ f = 5) ∨ (b ≠ 4 ∧ f = b ∧ b ≤ 6)) → (¬ s < f ↔ b ≤ start s) := by
    intro b f h
    unfold start
    split
    · omega
    · split <;> omega
  apply h
  rcases hk with rfl | hk
  · left; decide
  · have := two_binds hk
    unfold firstK
    split <;> omega

theorem fine_rest {f L : Nat} {ts : List W} {e : Ex} {r : List W} (h1 : 1 ≤ L) (h7 : L ≤ 7) (h : anyP f L ts = some (e, r)) (hf : Fine ts) : Fine r := by
  obtain ⟨u, rfl, _⟩ := cut_back h1 h7 h
  exact fun x hx => hf x (List.mem_append_right _ hx)

theorem leaf_same {g : Nat} {ts : List W} (hf : Fine ts) (h : tkW ts 4 [40] = false) : leafI ts = atomP (g + 1) ts := by
  cases ts with
  | nil => rw [atomP]; rfl
  | cons x r =>
    have hx := hf.of.1
    obtain ⟨k, t⟩ := x
    have h4 : ¬ isW (k, t) [40] = true := by
      rw [isW_sign hx (by decide)]
      simpa [tkW] using h
    rw [atomP, if_neg h4]
    show (if k = 0 then (match wordLeafI t with | some e => some (e, r) | none => none) else if k = 1 then some (leaf 0 t 0, r) else if k = 2 then some (leaf 1 [] (readD t), r) else if k = 3 then some (leaf 2 t 0, r) else none) =
      (if k = 2 then some (leaf 1 [] (readD t), r) else if k = 3 then some (leaf 2 t 0, r) else if k = 1 ∨ (k = 0 ∧ keptB t = false) then some (leaf 0 t 0, r) else if isW (k, t) wTrue = true then some (leaf 3 [] 0, r) else if isW (k, t) wFalse = true then some (leaf 4 [] 0, r) else if isW (k, t) wNull = true then some (leaf 5 [] 0, r) else none)
    rw [isW_word hx (by decide), isW_word hx (by decide), isW_word hx (by decide)]
    by_cases k0 : k = 0
    · subst k0
      have hb : ∀ u : List UInt8, (((0, t) : W) == (0, u)) = true ↔ t = u := fun u => by simp
      simp only [hb]
      rw [if_pos trivial, if_neg (by decide), if_neg (by decide)]
      unfold wordLeafI
      have kt : keptB wTrue = true := by decide
      have kf : keptB wFalse = true := by decide
      have kn : keptB wNull = true := by decide
      by_cases c1 : t = wTrue
      · subst c1; simp [kt]
      by_cases c2 : t = wFalse
      · subst c2; rw [if_neg (by decide), if_pos rfl, kf, if_neg (by simp), if_neg (by decide), if_pos rfl]
      by_cases c3 : t = wNull
      · subst c3; rw [if_neg (by decide), if_neg (by decide), if_pos rfl, kn, if_neg (by simp), if_neg (by decide), if_neg (by decide), if_pos rfl]
      rw [if_neg c1, if_neg c2, if_neg c3, if_neg c1, if_neg c2, if_neg c3]
      by_cases hkp : keptB t = true
      · simp [hkp]
      · simp [hkp]
    · have hb : ∀ u : List UInt8, (((k, t) : W) == (0, u)) = false := fun u => by simp [k0]
      simp only [hb, k0, false_and, or_false, if_false, Bool.false_eq_true]
      by_cases k1 : k = 1
      · subst k1; simp
      · simp only [k1, if_false]

theorem same_all : ∀ f : Nat, (∀ n ts g, 1 ≤ n → n ≤ 7 → Fine ts → roomI f ts → 10 * ts.length + 30 ≤ g → (exprI f n ts).map drop2 = anyP g n ts) ∧
    (∀ n e s r g, 1 ≤ n → n ≤ 7 → s ≤ 7 → Fine r → roomX f r → 10 * r.length + 40 ≤ g → drop2 (extI f n e s r) = casc g n (start s) e r) := by
  intro f
  induction f using Nat.strongRecOn with
  | ind f ih =>
    refine ⟨fun n ts g h1 h7 hF hr hg => ?_, fun n e s r g h1 h7 hs hF hr hg => ?_⟩
    · unfold roomI at hr
      obtain ⟨f, rfl⟩ : ∃ q, f = q + 2 := ⟨f - 2, by omega⟩
      rw [exprI, operandI]
      have htl : ts.tail.length ≤ ts.length := by simp
      by_cases c1 : tkW ts 4 [40] = true
      · rw [if_pos c1]
        cases ts with
        | nil => cases c1
        | cons x q =>
          obtain ⟨k, t⟩ := x
          simp only [tkW, Bool.and_eq_true, beq_iff_eq] at c1
          obtain ⟨rfl, rfl⟩ := c1
          simp only [List.length_cons] at hr hg
          have hFq := hF.of.2
          rw [any_atom (g := g) (by simp only [List.length_cons]; omega) (7 - n) n (by omega) h1 (by rintro ⟨_, h⟩; exact absurd h (by show ¬ isW (4, [40]) wNot = true; decide)) g (by simp only [List.length_cons]; omega)]
          obtain ⟨g, rfl⟩ : ∃ q, g = q + 1 := ⟨g - 1, by omega⟩
          rw [atomP, if_neg (by decide), if_neg (by decide), if_neg (by decide), if_neg (by decide), if_neg (by decide), if_neg (by decide), if_pos (by decide)]
          have hE := (ih f (by omega)).1 1 q g (by omega) (by omega) hFq (by unfold roomI; omega) (by omega)
          rw [List.tail_cons]
          cases hx : exprI f 1 q with
          | none =>
            rw [hx] at hE
            rw [← hE]
            rfl
          | some p =>
            obtain ⟨e, s, r⟩ := p
            rw [hx] at hE
            have hE' : anyP g 1 q = some (e, r) := hE.symm
            have hFr := fine_rest (by omega) (by omega) hE' hFq
            have hlen := (reads_len g).2.1 _ _ _ _ hE'
            rw [hE']
            cases r with
            | nil => rfl
            | cons y r' =>
              have hy : isW y [41] = (y == (4, [41])) := isW_sign hFr.of.1 (by decide)
              have hy2 : tkW (y :: r') 4 [41] = (y == (4, [41])) := by obtain ⟨k, t⟩ := y; rfl
              simp only [List.length_cons] at hlen
              show Option.map drop2 (match (if tkW (y :: r') 4 [41] = true then some (e, 7, r') else none : Option (Ex × Nat × List W)) with | some (e, s, r) => some (extI (f + 1) n e s r) | none => none) =
                match (if isW y [41] = true then some (e, r') else none : Option (Ex × List W)) with | some (e, r) => some (casc (g + 1) n 6 e r) | none => none
              rw [hy, hy2]
              by_cases hc : (y == (4, [41])) = true
              · rw [if_pos hc, if_pos hc]
                show some (drop2 (extI (f + 1) n e 7 r')) = some _
                rw [(ih (f + 1) (by omega)).2 n e 7 r' (g + 1) h1 h7 (by omega) hFr.of.2 (by unfold roomX; omega) (by omega)]
                rfl
              · rw [if_neg hc, if_neg hc]; rfl
      · rw [if_neg c1]
        have c1' : tkW ts 4 [40] = false := by simpa using c1
        by_cases c2 : n ≤ 3 ∧ tkW ts 0 wNot = true
        · rw [if_pos c2]
          have hn : hdW ts wNot = true := (hd_not hF).trans c2.2
          rw [any_not h1 c2.1 hn (by omega)]
          have hpos : ts.tail.length + 1 = ts.length := by cases ts with | nil => cases hn | cons => simp
          have hE := (ih f (by omega)).1 3 ts.tail g (by omega) (by omega) hF.tail (by unfold roomI; omega) (by omega)
          cases hx : exprI f 3 ts.tail with
          | none => rw [hx] at hE; rw [← hE]; rfl
          | some p =>
            obtain ⟨e, s, r⟩ := p
            rw [hx] at hE
            have hE' : anyP g 3 ts.tail = some (e, r) := hE.symm
            have hFr := fine_rest (by omega) (by omega) hE' hF.tail
            have hlen := (reads_len g).2.1 _ _ _ _ hE'
            rw [hE']
            show some (drop2 (extI (f + 1) n (node 6 [e]) 3 r)) = some (casc g n 2 (node 6 [e]) r)
            rw [(ih (f + 1) (by omega)).2 n (node 6 [e]) 3 r g h1 h7 (by omega) hFr (by unfold roomX; omega) (by omega)]
            show some (casc g n 3 _ r) = _
            rw [casc]
            split
            · rw [casc_below (by omega)]
            · have : loopP g 3 (node 6 [e]) r = (node 6 [e], r) := by
                cases r with
                | nil => cases g <;> rw [loopP]
                | cons y r' =>
                  refine loop_no ?_ (by omega)
                  cases hy : opK y with
                  | none => exact opK_none hFr.of.1 hy 3
                  | some k => rw [next_op hy (by omega), if_neg (by have := op_binds k (opK_some hy).1; omega)]
              rw [this]
        · rw [if_neg c2]
          have hn : ¬ (n ≤ 3 ∧ hdW ts wNot = true) := by rw [hd_not hF]; exact c2
          rw [any_atom (g := g) (by omega) (7 - n) n (by omega) h1 hn g (by omega)]
          obtain ⟨g, rfl⟩ : ∃ q, g = q + 1 := ⟨g - 1, by omega⟩
          rw [leaf_same (g := g) hF c1']
          cases hx : atomP (g + 1) ts with
          | none => rfl
          | some p =>
            obtain ⟨e, r⟩ := p
            have hlen := (reads_len (g + 1)).1 _ _ _ hx
            have hFr : Fine r := by
              obtain ⟨u, rfl, _⟩ := (cut_all (g + 1)).1 _ _ _ hx
              exact fun x hx => hF x (List.mem_append_right _ hx)
            show some (drop2 (extI (f + 1) n e 7 r)) = some (casc (g + 1) n 6 e r)
            rw [(ih (f + 1) (by omega)).2 n e 7 r (g + 1) h1 h7 (by omega) hFr (by unfold roomX; omega) (by omega)]
            rfl
    · unfold roomX at hr
      obtain ⟨f, rfl⟩ : ∃ q, f = q + 1 := ⟨f - 1, by omega⟩
      have hst := start_le hs
      rw [extI]
      cases r with
      | nil =>
        show (e, []) = _
        rw [casc_stop hst (stop_nil n)]
      | cons x r =>
        obtain ⟨hFx, hFr⟩ := hF.of
        simp only [List.length_cons] at hr hg
        by_cases hi : x = (0, wIs)
        · subst hi
          have hnx : ∀ b, nextK (0, wIs) b = none := fun b => opK_none hFx is_op b
          by_cases hnl : tkW r 0 wNull = true
          · have hop : opI ((0, wIs) :: r) = some (7, r.tail) := by rw [opI, if_pos rfl, if_pos hnl]
            rw [hop]
            have htl : r.tail.length + 1 = r.length := by cases r with | nil => cases hnl | cons => simp
            have hno : ∀ L, L ≤ 6 → L ≠ 4 → ∀ e, loopP g L e ((0, wIs) :: r) = (e, (0, wIs) :: r) := fun L _ h4 e => loop_no (hnx L) (fun h => h4 h.1)
            have hhd : hdW r wNull = true := (hd_null hFr).trans hnl
            have h4 : ∀ e, loopP g 4 e ((0, wIs) :: r) = (node 7 [e], r.tail) := fun e => by
              obtain ⟨g, rfl⟩ : ∃ q, g = q + 1 := ⟨g - 1, by omega⟩
              rw [loopP]; show (if _ then _ else _) = _; rw [if_pos ⟨rfl, by decide, hhd⟩]
            have hfs := fits_start (k := 7) (.inl rfl) hs
            show drop2 (if bindsK 7 < n ∨ s < firstK 7 then _ else _) = _
            have hb7 : bindsK 7 = 4 := by decide
            by_cases hc : bindsK 7 < n ∨ s < firstK 7
            · rw [if_pos hc]
              rw [casc_none _ fun L hn hL => hno L (by omega) (by rintro rfl; rcases hc with h | h; omega; exact absurd h (hfs.2 (by omega))) e]
              rfl
            · rw [if_neg hc, if_pos rfl]
              have hle := hfs.1 (fun h => hc (.inr h))
              rw [casc_to (b := 4) hno (by omega) (by omega) (start s) (by omega) hst, h4]
              rw [(ih f (by omega)).2 n (node 7 [e]) 4 r.tail g h1 h7 (by omega) hFr.tail (by unfold roomX; omega) (by omega)]
              rfl
          · have hop : opI ((0, wIs) :: r) = none := by rw [opI, if_pos rfl, if_neg hnl]
            rw [hop]
            have hno : ∀ L e, loopP g L e ((0, wIs) :: r) = (e, (0, wIs) :: r) := fun L e => loop_no (hnx L) (fun h => hnl ((hd_null hFr).symm.trans h.2.2))
            rw [casc_none _ fun L _ _ => hno L e]
            rfl
        · have hwi : isW x wIs = false := by rw [isW_word hFx (by decide)]; simpa using hi
          cases hk : opK x with
          | none =>
            have hop : opI (x :: r) = none := by rw [opI, if_neg hi]; unfold opK at hk; rw [hk]
            rw [hop]
            rw [casc_none _ fun L _ _ => loop_no (opK_none hFx hk L) (fun h => by rw [hwi] at h; cases h.2.1)]
            rfl
          | some k =>
            have hop : opI (x :: r) = some (k, r) := by rw [opI, if_neg hi]; have hk' := hk; unfold opK at hk'; rw [hk']
            rw [hop]
            obtain ⟨hkm, hxe⟩ := opK_some hk
            obtain ⟨hk7, hb6, hb1, hb3⟩ := op_binds k hkm
            have hno : ∀ L, L ≤ 6 → L ≠ bindsK k → ∀ e, loopP g L e (x :: r) = (e, x :: r) := fun L h6 hne e =>
              loop_no (by rw [next_op hk (by omega), if_neg hne]) (fun h => by rw [hwi] at h; cases h.2.1)
            have hfs := fits_start (k := k) (.inr hkm) hs
            show drop2 (if bindsK k < n ∨ s < firstK k then _ else _) = _
            by_cases hc : bindsK k < n ∨ s < firstK k
            · rw [if_pos hc]
              rw [casc_none _ fun L hn hL => hno L (by omega) (by rintro rfl; rcases hc with h | h; omega; exact absurd h (hfs.2 (by omega))) e]
              rfl
            · rw [if_neg hc, if_neg hk7]
              have hle := hfs.1 (fun h => hc (.inr h))
              rw [casc_to (b := bindsK k) hno (by omega) hb1 (start s) hle hst]
              have hE := (ih f (by omega)).1 (bindsK k + 1) r (g - 1) (by omega) (by omega) hFr (by unfold roomI; omega) (by omega)
              have hlp : loopP g (bindsK k) e (x :: r) = match anyP (g - 1) (bindsK k + 1) r with | none => (e, x :: r) | some (q, r'') => if bindsK k = 4 then (node k [e, q], r'') else loopP (g - 1) (bindsK k) (node k [e, q]) r'' := by
                obtain ⟨g, rfl⟩ : ∃ q, g = q + 1 := ⟨g - 1, by omega⟩
                rw [loopP]
                show (if _ then _ else _) = _
                rw [if_neg (fun h => by rw [hwi] at h; cases h.2.1), next_op hk (by omega), if_pos rfl]
                rfl
              rw [hlp]
              cases hx : exprI f (bindsK k + 1) r with
              | none =>
                rw [hx] at hE
                rw [← hE]
                show (e, x :: r) = casc g n (bindsK k - 1) e (x :: r)
                rw [casc_none _ fun L _ hL => hno L (by omega) (by omega) e]
              | some p =>
                obtain ⟨q, s', r''⟩ := p
                rw [hx] at hE
                have hE' : anyP (g - 1) (bindsK k + 1) r = some (q, r'') := hE.symm
                have hFr2 := fine_rest (by omega) (by omega) hE' hFr
                have hlen := (reads_len (g - 1)).2.1 _ _ _ _ hE'
                rw [hE']
                show drop2 (extI f n (node k [e, q]) (bindsK k) r'') = casc g n (bindsK k - 1) (if bindsK k = 4 then (node k [e, q], r'') else loopP (g - 1) (bindsK k) (node k [e, q]) r'').1 (if bindsK k = 4 then (node k [e, q], r'') else loopP (g - 1) (bindsK k) (node k [e, q]) r'').2
                rw [(ih f (by omega)).2 n (node k [e, q]) (bindsK k) r'' g h1 h7 (by omega) hFr2 (by unfold roomX; omega) (by omega)]
                by_cases h4 : bindsK k = 4
                · rw [if_pos h4, h4]; rfl
                · rw [if_neg h4]
                  have hs' : start (bindsK k) = (bindsK k - 1) + 1 := by unfold start; rw [if_neg (by omega), if_neg h4]; omega
                  rw [hs', casc, if_neg (by omega), show bindsK k - 1 + 1 = bindsK k by omega]
                  rw [loop_fuel (f := g) (f' := g - 1) hb1 hb6 (by unfold enoughL; omega) (by unfold enoughL; omega)]

end Go.Proofs.YtgnillmhpockkaaGreatDoor

namespace Go.Proofs.YtgnillmhpockkaaGreatDoor
open Go.RowKit

/-- A reader in block rb stands at a place in a list of words. -/
structure Rd (w : World) (rb : Nat) (a : Option Addr) (c : Nat) (l : List Tk) (at_ : Nat) : Prop where
  row : w.heap[rb]? = some (.cells #[.slice a l.length c, .int .i64 (at_ : Int)] 65 (0, 0))
  tok : Toks w a c l
  ne : ∀ b off, a = some ⟨b, off, none⟩ → b ≠ rb
  len : l.length ≤ 1000000

theorem Rd.cells {w : World} {rb : Nat} {a : Option Addr} {c : Nat} {l : List Tk} {at_ : Nat} (h : Rd w rb a c l at_) :
    w.cell? ⟨rb, 0, none⟩ = some (.slice a l.length c) ∧ w.cell? ⟨rb, 1, none⟩ = some (.int .i64 (at_ : Int)) ∧ w.frozen? ⟨rb, 1, none⟩ = false := by
  refine ⟨by rw [cell_of_row _ _ _ _ _ _ h.row]; rfl, by rw [cell_of_row _ _ _ _ _ _ h.row]; rfl, ?_⟩
  unfold World.frozen?
  rw [h.row]
  simp

/-- The word at the head is this one. -/
def hitT (l : List Tk) (at_ : Nat) (k : Int) (t : ByteArray) : Bool := match l.drop at_ with
  | x :: _ => x.kind == k && x.text.toList == t.toList
  | [] => false

def TakeP (w : World) (rb at_ : Nat) (v : Bool) (x : Ending) (w' : World) : Prop :=
  x = .returned (.bool v) ∧ ∃ n, w' = if v then (w.drewN n).setCell ⟨rb, 1, none⟩ (.int .i64 ((at_ : Int) + 1)) else w.drewN n

set_option maxRecDepth 100000 in
set_option maxHeartbeats 2000000 in
theorem rdTake {w : World} {rb : Nat} {a : Option Addr} {c : Nat} {l : List Tk} {at_ : Nat} (h : Rd w rb a c l at_) (hat : at_ ≤ 2000000) (k : Int) (t : ByteArray) (v : Bool) (hv : hitT l at_ k t = v) :
    Calls Tryz.prog 105 #[.pointer (some ⟨rb, 0, none⟩), .int .i64 k, .string t] w (TakeP w rb at_ v) := by
  obtain ⟨r0, r1, rf⟩ := h.cells
  have hl := h.len
  by_cases hlt : at_ < l.length
  · obtain ⟨b, off, rfl, hbl, t0, t1, t2⟩ := h.tok.spot hlt
    have hd : l.drop at_ = l[at_] :: l.drop (at_ + 1) := List.drop_eq_getElem_cons hlt
    unfold hitT at hv
    rw [hd] at hv
    have hv' : (l[at_].kind == k && l[at_].text.toList == t.toList) = v := hv
    have hge : decide (l.length ≤ at_) = false := decide_eq_false (by omega)
    have hi0 : (0 : Int) ≤ (at_ : Int) := by omega
    have hi1 : (at_ : Int) < (l.length : Int) := by omega
    clear h hv hd
    generalize l[at_].kind = kk at *
    generalize l[at_].text = tt at *
    cases hk : (kk == k) with
    | false =>
      have hkn : (kk != k) = true := by simp [bne, hk]
      rw [hk] at hv'
      have hvf : v = false := hv'.symm
      subst hvf
      clear hv' hk
      go_enter Tryz.func105, Tryz.ntmps105
      go_wp2_with fail
      go_quiet (fail)
      go_wp2_with fail
      go_ret
      exact ⟨rfl, nq, rfl⟩
    | true =>
      have hkn : (kk != k) = false := by simp [bne, hk]
      rw [hk, Bool.true_and] at hv'
      cases v with
      | false =>
        have htn : (!(tt.toList == t.toList)) = true := by rw [hv']; rfl
        clear hk
        go_enter Tryz.func105, Tryz.ntmps105
        go_wp2_with fail
        go_quiet (fail)
        go_wp2_with fail
        go_ret
        exact ⟨rfl, nq, rfl⟩
      | true =>
        have htn : (!(tt.toList == t.toList)) = false := by rw [hv']; rfl
        clear hk
        go_enter Tryz.func105, Tryz.ntmps105
        go_wp2_with fail
        go_quiet (fail)
        have r1' : (w.drewN nq).cell? ⟨rb, 1, none⟩ = some (.int .i64 (at_ : Int)) := r1
        have rf' : (w.drewN nq).frozen? ⟨rb, 1, none⟩ = false := rf
        generalize hWW : w.drewN nq = W1 at r1' rf' ⊢
        go_wp2_with fail
        go_ret
        exact ⟨rfl, nq, by rw [hWW]; rfl⟩
  · have hd : l.drop at_ = [] := List.drop_eq_nil_of_le (by omega)
    unfold hitT at hv
    rw [hd] at hv
    have hvf : v = false := hv.symm
    subst hvf
    have hge : decide (l.length ≤ at_) = true := decide_eq_true (by omega)
    clear h hv hd
    go_enter Tryz.func105, Tryz.ntmps105
    go_wp2_with fail
    go_quiet (fail)
    go_wp2_with fail
    go_ret
    exact ⟨rfl, nq, rfl⟩

end Go.Proofs.YtgnillmhpockkaaGreatDoor

namespace Go.Proofs.YtgnillmhpockkaaGreatDoor
open Go.RowKit

theorem Rd.drewN {w : World} {rb : Nat} {a : Option Addr} {c : Nat} {l : List Tk} {at_ : Nat} (h : Rd w rb a c l at_) (n : Nat) : Rd (w.drewN n) rb a c l at_ := ⟨h.row, h.tok, h.ne, h.len⟩
theorem Rd.drew {w : World} {rb : Nat} {a : Option Addr} {c : Nat} {l : List Tk} {at_ : Nat} (h : Rd w rb a c l at_) : Rd w.drew rb a c l at_ := ⟨h.row, h.tok, h.ne, h.len⟩

theorem drew_eq (w : World) : w.drew = w.drewN 1 := rfl

set_option maxRecDepth 100000 in
set_option maxHeartbeats 2000000 in
theorem rdTakeSign {w : World} {rb : Nat} {a : Option Addr} {c : Nat} {l : List Tk} {at_ : Nat} (h : Rd w rb a c l at_) (hat : at_ ≤ 2000000) (hF : FormsAt w) (hrb : rb ≠ 0) (i : Nat) (hi : i < 19) (v : Bool) (hv : hitT l at_ (fm i).token (txt (fm i).text) = v) :
    Calls Tryz.prog 106 #[.pointer (some ⟨rb, 0, none⟩), .int .i64 (i : Int)] w (TakeP w rb at_ v) := by
  obtain ⟨_, _, g2, g3⟩ := hF.2 i hi
  generalize (fm i).token = tk at g2 hv
  generalize txt (fm i).text = tx at g3 hv
  have HV := Lib.hid hv
  have HRD := Lib.hid h.drew
  have hi0 : (0 : Int) ≤ (i : Int) := by omega
  have hi1 : (i : Int) < 19 := by omega
  have HKE : Hid (∀ n wq, wq = (if v then (w.drew.drewN n).setCell ⟨rb, 1, none⟩ (.int .i64 ((at_ : Int) + 1)) else w.drew.drewN n) → wq.cell? ⟨0, i * 4 + 2, none⟩ = some (.int .i64 tk) ∧ wq.cell? ⟨0, i * 4 + 3, none⟩ = some (.string tx)) := by
    intro n wq hw
    subst hw
    cases v with
    | true => exact ⟨(World.cell?_setCell_far _ ⟨rb, 1, none⟩ _ _ hrb).trans g2, (World.cell?_setCell_far _ ⟨rb, 1, none⟩ _ _ hrb).trans g3⟩
    | false => exact ⟨g2, g3⟩
  clear h hF hv
  go_enter Tryz.func106, Tryz.ntmps106
  go_wp2_with fail
  go_region_held3 (fun w' => w'.cell? ⟨0, i * 4 + 2, none⟩ = some (.int .i64 tk) ∧ w'.cell? ⟨0, i * 4 + 3, none⟩ = some (.string tx)) (first | assumption | exact ⟨g2, g3⟩)
    ((go_at_call 105; refine (rdTake HRD.out hat tk tx v HV.out).mono ?_; rintro e wq ⟨rfl, n, hwq⟩; have hq := HKE.out n wq hwq; have HWQ := Lib.hid hwq; clear hwq))
  go_wp2_with fail
  go_ret
  refine ⟨rfl, 1 + n, ?_⟩
  rw [HWQ.out, drew_eq, World.drewN_drewN]

end Go.Proofs.YtgnillmhpockkaaGreatDoor

namespace Go.Proofs.YtgnillmhpockkaaGreatDoor
open Go.RowKit

theorem bcellE {W w1 : World} (hb : Below W.heap.size W w1) : (∀ b o, b < W.heap.size → w1.cell? ⟨b, o, none⟩ = W.cell? ⟨b, o, none⟩) ∧ (∀ b o, b < W.heap.size → w1.frozen? ⟨b, o, none⟩ = W.frozen? ⟨b, o, none⟩) :=
  ⟨fun b o h => hb.cell (p := ⟨b, o, none⟩) h, fun b o h => hb.frozen (p := ⟨b, o, none⟩) h⟩

/-- An expression with the slice of its kids. -/
structure Es where
  e : Ex
  a : Option Addr
  c : Nat

def Es.k (x : Es) : Value := .int .i64 x.e.kind
def Es.t (x : Es) : Value := .string x.e.text
def Es.n (x : Es) : Value := .int .i64 x.e.num
def Es.s (x : Es) : Value := .slice x.a x.e.kids.length x.c
def es0 : Es := ⟨.mk 0 ByteArray.empty 0 [], none, 0⟩

def ecells (xs : List Es) : List Value := xs.flatMap fun x => [x.k, x.t, x.n, x.s]

theorem ecells_length (xs : List Es) : (ecells xs).length = xs.length * 4 := by
  induction xs with
  | nil => rfl
  | cons x r ih => rw [ecells, List.flatMap_cons, List.length_append]; unfold ecells at ih; rw [ih]; simp; omega

theorem ecells_append (xs ys : List Es) : ecells (xs ++ ys) = ecells xs ++ ecells ys := by simp [ecells]

theorem ecells_at : ∀ (xs : List Es) (i : Nat) (h : i < xs.length), (ecells xs)[i * 4]? = some xs[i].k ∧ (ecells xs)[i * 4 + 1]? = some xs[i].t ∧ (ecells xs)[i * 4 + 2]? = some xs[i].n ∧ (ecells xs)[i * 4 + 3]? = some xs[i].s
  | [], i, h => by simp at h
  | x :: r, 0, _ => ⟨rfl, rfl, rfl, rfl⟩
  | x :: r, i + 1, h => by
    have ih := ecells_at r i (by simpa using h)
    have e : ecells (x :: r) = [x.k, x.t, x.n, x.s] ++ ecells r := rfl
    rw [e]
    refine ⟨?_, ?_, ?_, ?_⟩
    · rw [List.getElem?_append_right (by simp; omega)]; simp only [List.length_cons, List.length_nil, List.getElem_cons_succ]; rw [show (i + 1) * 4 - (0 + 1 + 1 + 1 + 1) = i * 4 by omega]; exact ih.1
    · rw [List.getElem?_append_right (by simp; omega)]; simp only [List.length_cons, List.length_nil, List.getElem_cons_succ]; rw [show (i + 1) * 4 + 1 - (0 + 1 + 1 + 1 + 1) = i * 4 + 1 by omega]; exact ih.2.1
    · rw [List.getElem?_append_right (by simp; omega)]; simp only [List.length_cons, List.length_nil, List.getElem_cons_succ]; rw [show (i + 1) * 4 + 2 - (0 + 1 + 1 + 1 + 1) = i * 4 + 2 by omega]; exact ih.2.2.1
    · rw [List.getElem?_append_right (by simp; omega)]; simp only [List.length_cons, List.length_nil, List.getElem_cons_succ]; rw [show (i + 1) * 4 + 3 - (0 + 1 + 1 + 1 + 1) = i * 4 + 3 by omega]; exact ih.2.2.2

theorem ecells_set (ys : List Es) (k : Nat) (x : Es) (h : k < ys.length) : ((((ecells ys).set (k * 4) x.k).set (k * 4 + 1) x.t).set (k * 4 + 2) x.n).set (k * 4 + 3) x.s = ecells (ys.set k x) := by
  induction ys generalizing k with
  | nil => simp at h
  | cons y r ih =>
    cases k with
    | zero => rfl
    | succ k =>
      have e : ∀ (z : Es) s, ecells (z :: s) = z.k :: z.t :: z.n :: z.s :: ecells s := fun _ _ => rfl
      rw [List.set_cons_succ, e, e, show (k + 1) * 4 = k * 4 + 1 + 1 + 1 + 1 by omega]
      simp only [List.set_cons_succ]
      rw [← ih k (by simpa using h)]

/-- The expressions put so far, then empty ones. -/
def efill (xs : List Es) (n : Nat) : List Value := ecells (xs ++ List.replicate (n - xs.length) es0)

theorem efill_set (xs : List Es) (n : Nat) (x : Es) (h : xs.length < n) : (((((efill xs n).set (xs.length * 4) x.k).set (xs.length * 4 + 1) x.t).set (xs.length * 4 + 2) x.n).set (xs.length * 4 + 3) x.s) = efill (xs ++ [x]) n := by
  unfold efill
  rw [ecells_set _ xs.length x (by simp; omega), List.set_append_right _ _ (Nat.le_refl _), Nat.sub_self, show n - xs.length = (n - (xs ++ [x]).length) + 1 by simp; omega, List.replicate_succ, List.set_cons_zero, List.append_assoc]
  rfl

theorem efill_at (xs : List Es) (n : Nat) (h : xs.length < n) : (efill xs n)[xs.length * 4]? = some (.int .i64 0) ∧ (efill xs n)[xs.length * 4 + 1]? = some (.string ByteArray.empty) ∧ (efill xs n)[xs.length * 4 + 2]? = some (.int .i64 0) ∧ (efill xs n)[xs.length * 4 + 3]? = some (.slice none 0 0) := by
  unfold efill
  have h0 := ecells_at (xs ++ List.replicate (n - xs.length) es0) xs.length (by simp; omega)
  have hx : (xs ++ List.replicate (n - xs.length) es0)[xs.length]'(by simp; omega) = es0 := by
    rw [List.getElem_append_right (Nat.le_refl _)]; simp
  rw [hx] at h0
  exact h0

theorem efill_all (xs : List Es) : efill xs xs.length = ecells xs := by simp [efill]

theorem ecells_none (n : Nat) : ecells (List.replicate n es0) = (madeCells #[.int .i64 0, .string ByteArray.empty, .int .i64 0, .slice none 0 0] (n * 4)).toList := by
  apply List.ext_getElem?
  intro j
  by_cases hj : j < n * 4
  · have hq : j / 4 < n := by omega
    have := ecells_at (List.replicate n es0) (j / 4) (by simpa using hq)
    simp only [List.getElem_replicate] at this
    have hm : j % 4 = 0 ∨ j % 4 = 1 ∨ j % 4 = 2 ∨ j % 4 = 3 := by omega
    have hm3 : ∀ i, j / 4 * 4 + i < n * 4 → (madeCells #[Value.int .i64 0, .string ByteArray.empty, .int .i64 0, .slice none 0 0] (n * 4)).toList[j / 4 * 4 + i]? = #[Value.int .i64 0, .string ByteArray.empty, .int .i64 0, .slice none 0 0][i % 4]? := by
      intro i hi
      have e : (j / 4 * 4 + i) % 4 = i % 4 := by omega
      have h3 : i % 4 < [Value.int .i64 0, .string ByteArray.empty, .int .i64 0, .slice none 0 0].length := by simp; omega
      simp [madeCells, hi, e]
      rw [List.getElem?_eq_getElem h3]
      rfl
    rcases hm with hm | hm | hm | hm
    · have hj' : j / 4 * 4 + 0 = j := by omega
      rw [← hj', hm3 0 (by omega)]; exact this.1
    · have hj' : j / 4 * 4 + 1 = j := by omega
      rw [← hj', hm3 1 (by omega)]; exact this.2.1
    · have hj' : j / 4 * 4 + 2 = j := by omega
      rw [← hj', hm3 2 (by omega)]; exact this.2.2.1
    · have hj' : j / 4 * 4 + 3 = j := by omega
      rw [← hj', hm3 3 (by omega)]; exact this.2.2.2
  · rw [List.getElem?_eq_none (by rw [ecells_length]; simpa using hj), List.getElem?_eq_none (by simp [madeCells]; omega)]

/-- As KidsAt, and every block of the tree is one from lo on. -/
def KidsB (lo : Nat) (w : World) : Nat → Option Addr → Nat → List Ex → Prop
  | 0, _, _, _ => False
  | d + 1, a, c, kids => kids.length ≤ c ∧ c ≤ maxLen ∧ (a = none → c = 0) ∧
    (0 < kids.length → ∃ b off, a = some ⟨b, off, none⟩ ∧ lo ≤ b ∧ b < w.heap.size ∧ ∀ (i : Nat) (h : i < kids.length), At1 w b (off + i * 4) kids[i] (fun a' c' => KidsB lo w d a' c' kids[i].kids))

theorem KidsB.agree {lo : Nat} {w w' : World} (hs : w.heap.size ≤ w'.heap.size) (hc : ∀ b, lo ≤ b → b < w.heap.size → ∀ o, w'.cell? ⟨b, o, none⟩ = w.cell? ⟨b, o, none⟩) :
    ∀ {d : Nat} {a : Option Addr} {c : Nat} {kids : List Ex}, KidsB lo w d a c kids → KidsB lo w' d a c kids
  | 0, _, _, _, h => h
  | d + 1, a, c, kids, h => by
    obtain ⟨h1, h2, h3, h4⟩ := h
    refine ⟨h1, h2, h3, fun hp => ?_⟩
    obtain ⟨b, off, ha, hlo, hlt, hcs⟩ := h4 hp
    refine ⟨b, off, ha, hlo, Nat.lt_of_lt_of_le hlt hs, fun i hi => ?_⟩
    obtain ⟨c1, c2, c3, hf, a', c', c4, hk⟩ := hcs i hi
    have e := hc b hlo hlt
    exact ⟨(e _).trans c1, (e _).trans c2, (e _).trans c3, hf, a', c', (e _).trans c4, KidsB.agree hs hc hk⟩

theorem KidsB.below {lo : Nat} {w w' : World} {d : Nat} {a : Option Addr} {c : Nat} {kids : List Ex} (h : KidsB lo w d a c kids) (hb : Below w.heap.size w w') : KidsB lo w' d a c kids :=
  h.agree hb.size fun b _ hlt o => hb.cell (p := ⟨b, o, none⟩) hlt

theorem KidsB.lower {lo lo' : Nat} {w : World} (hl : lo' ≤ lo) : ∀ {d : Nat} {a : Option Addr} {c : Nat} {kids : List Ex}, KidsB lo w d a c kids → KidsB lo' w d a c kids
  | 0, _, _, _, h => h
  | d + 1, a, c, kids, h => by
    obtain ⟨h1, h2, h3, h4⟩ := h
    refine ⟨h1, h2, h3, fun hp => ?_⟩
    obtain ⟨b, off, ha, hlo, hlt, hcs⟩ := h4 hp
    exact ⟨b, off, ha, Nat.le_trans hl hlo, hlt, fun i hi => (hcs i hi).mono fun a' c' hk => KidsB.lower hl hk⟩

theorem KidsB.at {lo : Nat} {w : World} : ∀ {d : Nat} {a : Option Addr} {c : Nat} {kids : List Ex}, KidsB lo w d a c kids → KidsAt w d a c kids
  | 0, _, _, _, h => h
  | d + 1, a, c, kids, h => by
    obtain ⟨h1, h2, h3, h4⟩ := h
    refine ⟨h1, h2, h3, fun hp => ?_⟩
    obtain ⟨b, off, ha, hlo, hlt, hcs⟩ := h4 hp
    exact ⟨b, off, ha, hlt, fun i hi => (hcs i hi).mono fun a' c' hk => hk.at⟩

theorem KidsAt.b0 {w : World} : ∀ {d : Nat} {a : Option Addr} {c : Nat} {kids : List Ex}, KidsAt w d a c kids → KidsB 0 w d a c kids
  | 0, _, _, _, h => h
  | d + 1, a, c, kids, h => by
    obtain ⟨h1, h2, h3, h4⟩ := h
    refine ⟨h1, h2, h3, fun hp => ?_⟩
    obtain ⟨b, off, ha, hlt, hcs⟩ := h4 hp
    exact ⟨b, off, ha, Nat.zero_le _, hlt, fun i hi => (hcs i hi).mono fun a' c' hk => hk.b0⟩

theorem KidsB.nil (lo : Nat) (w : World) (d : Nat) : KidsB lo w (d + 1) none 0 [] :=
  ⟨Nat.le_refl _, by unfold maxLen; omega, fun _ => rfl, fun h => absurd h (by simp)⟩

theorem KidsB.mono {lo : Nat} {w : World} : ∀ {d d' : Nat} {a : Option Addr} {c : Nat} {kids : List Ex}, d ≤ d' → KidsB lo w d a c kids → KidsB lo w d' a c kids
  | 0, _, _, _, _, _, h => h.elim
  | d + 1, 0, _, _, _, hd, _ => by omega
  | d + 1, d' + 1, a, c, kids, hd, h => by
    obtain ⟨h1, h2, h3, h4⟩ := h
    refine ⟨h1, h2, h3, fun hp => ?_⟩
    obtain ⟨b, off, ha, hlo, hlt, hc⟩ := h4 hp
    exact ⟨b, off, ha, hlo, hlt, fun i hi => (hc i hi).mono fun a' c' hk => KidsB.mono (by omega) hk⟩

end Go.Proofs.YtgnillmhpockkaaGreatDoor

namespace Go.Proofs.YtgnillmhpockkaaGreatDoor
open Go.RowKit

theorem nodesL_mono (l : List Ex) (k : Nat) : nodesL (l.take k) ≤ nodesL l := by
  induction l generalizing k with
  | nil => simp
  | cons e r ih =>
    cases k with
    | zero => simp [nodesL]
    | succ k => simp only [List.take_succ_cons, nodesL]; have := ih k; omega

theorem nodesL_get {l : List Ex} {k : Nat} (h : k < l.length) : l[k].nodes ≤ nodesL l := by
  have h1 := nodesL_take l k h
  have h2 := nodesL_mono l (k + 1)
  omega

def NodesP (d : Nat) : Prop := ∀ (e : Ex) (a : Option Addr) (c : Nat) (w : World), e.nodes ≤ 1073741824 → KidsAt w d a c e.kids →
  Calls Tryz.prog 55 #[.agg #[.int .i64 e.kind, .string e.text, .int .i64 e.num, .slice a e.kids.length c]] w fun x w' => x = .returned (.int .i64 e.nodes) ∧ Below w.heap.size w w'

set_option maxHeartbeats 1000000 in
theorem specNodes : ∀ d, NodesP d
  | 0 => fun _ _ _ _ _ h => h.elim
  | d + 1 => by
    intro e a c w hn hk
    have ih := specNodes d
    have hne := Ex.nodes_eq e
    have hl := hk.len
    have HK := Lib.hid (fun w' hb => hk.below (w' := w') hb)
    clear hk
    generalize hks : e.kids = xs at *
    go_enter Tryz.func55, Tryz.ntmps55
    go_wp2_with fail
    go_loopw [3, 4] (fun n i wr => ∃ k : Nat, k ≤ xs.length ∧ i = .int .i64 k ∧ n = .int .i64 (1 + nodesL (xs.take k) : Nat) ∧ wr.cell? ⟨w.heap.size, 3, none⟩ = some (.slice a xs.length c) ∧ w.heap.size < wr.heap.size ∧ Below w.heap.size w wr) (fun _ i _ => xs.length - (intOf i).toNat)
    case atStart => exact ⟨0, Nat.zero_le _, rfl, by simp [nodesL], by simp [go_sem], by simp, (Below.refl _ _).alloc (Nat.le_refl _) _⟩
    case round =>
      obtain ⟨k, hk, rfl, rfl, h3, hlw, hb⟩ := hrel
      by_cases hlt : k < xs.length
      · obtain ⟨b, off, rfl, hbl, hc0, hc1, hc2, hfit, a', c', hc3, hkid⟩ := (HK.out _ hb).spot hlt
        have HT := Lib.hid (nodesL_take xs k hlt)
        have HL := Lib.hid (nodesL_mono xs (k + 1))
        have HG := Lib.hid (nodesL_get hlt)
        have HX := Lib.hid (fun w' hb => hkid.below (w' := w') hb)
        clear hkid
        go_wp2_with fail
        refine (ih xs[k] a' c' _ (by have := HG.out; omega) (HX.out _ (Below.refl _ _))).mono ?_
        rintro x w2 ⟨rfl, hb2⟩
        have h3' := (hb2.cell (p := ⟨w.heap.size, 3, none⟩) hlw).trans h3
        have hb' := hb.trans (hb2.mono hb.size)
        have hlw' := Nat.lt_of_lt_of_le hlw hb2.size
        have hsum : Hid ((1 + nodesL (xs.take k) : Nat) + (xs[k].nodes : Int) ≤ 1073741824) := by have := HT.out; have := HL.out; unfold Hid; omega
        have hsum' := hsum.out
        clear h3 hb hb2 hc0 hc1 hc2 hc3 hlw
        go_wp2_with fail
        go_roundw
        case rel => exact ⟨k + 1, by omega, by go_num, by rw [HT.out]; go_num, h3', hlw', hb'⟩
        case measure => simp [intOf]; omega
      · obtain rfl : k = xs.length := by omega
        go_wp2_with fail
        go_ret
        exact ⟨by rw [List.take_length, hne]; rfl, hb⟩

end Go.Proofs.YtgnillmhpockkaaGreatDoor
