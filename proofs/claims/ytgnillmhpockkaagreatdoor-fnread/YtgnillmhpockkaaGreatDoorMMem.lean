/- Words for slices of texts in memory; nothing of the program but its type of texts. -/
/- Slices of words in memory. -/
/- Expressions: trees, how they lie in memory. -/
/- The words of a text: plain mathematics over lists of bytes, nothing of the program. -/
/- How many letters a list of texts has. -/
/- The laws' own helpers over slices of texts: the size that is left, the copy, the equality. -/
/- spec.Has and impl.Has both answer whether a text stands in a list. -/
/- The reserved words: impl.isReserved and the model's list. -/
/- Expressions: how they are written as words, and how they are read: plain mathematics. -/
/- The program's table of the kinds of expressions: what the row lists of it, cell by cell. -/
/- Rows of bytes that the call itself makes; texts out of them. -/
import Derived.Test.YtgnillmhpockkaaGreatDoorRows
import Derived.WalkKit
import Derived.WalkLawsBesides
import Derived.WalkSpells
import Derived.Deep.QuietTactic
import Derived.BigQuiet
import Derived.Deep.LoopGhost
import Derived.Deep.AppendLies
import Derived.Deep.Draws
import Derived.Maps.AppendAt
import Derived.Laws.AppendOwnNone
import Derived.Outline
import Derived.Lib.Strings
import Derived.Lib.Hide
import Derived.Laws.OwnMore
import Derived.Lib.Atoi
import Derived.Lib.ItoaNum
import Derived.Test.YtgnillmhpockkaaGreatDoorCards
import Derived.OpenShut
import Derived.LaidMore
import Derived.Lib.LaidTab
import Derived.Below
import Derived.Lib.AppendStr
import Derived.Laws.BytesString
import Derived.Laws.Cells
namespace Go.Proofs.YtgnillmhpockkaaGreatDoor
open Go.RowKit

/-- The slice (a, length of xs, c) reads as the texts xs. -/
def Strs (w : World) (a : Option Addr) (c : Nat) (xs : List ByteArray) : Prop :=
  xs.length ≤ c ∧ c ≤ maxLen ∧ (∀ s ∈ xs, s.size ≤ maxLen) ∧ (a = none → c = 0) ∧
  (0 < xs.length → ∃ b off, a = some ⟨b, off, none⟩ ∧ b < w.heap.size ∧ ∀ (i : Nat) (h : i < xs.length), w.cell? ⟨b, off + i, none⟩ = some (.string xs[i]))

theorem Strs.spot {w : World} {a : Option Addr} {c : Nat} {xs : List ByteArray} (h : Strs w a c xs) {k : Nat} (hk : k < xs.length) :
    ∃ b off, a = some ⟨b, off, none⟩ ∧ b < w.heap.size ∧ w.cell? ⟨b, off + k, none⟩ = some (.string xs[k]) := by
  obtain ⟨_, _, _, _, h4⟩ := h
  obtain ⟨b, off, ha, hb, hc⟩ := h4 (by omega)
  exact ⟨b, off, ha, hb, hc k hk⟩

theorem Strs.below {w w' : World} {a : Option Addr} {c : Nat} {xs : List ByteArray} (h : Strs w a c xs) (hb : Below w.heap.size w w') : Strs w' a c xs := by
  obtain ⟨h1, h2, h3, h3', h4⟩ := h
  refine ⟨h1, h2, h3, h3', fun hp => ?_⟩
  obtain ⟨b, off, ha, hlt, hc⟩ := h4 hp
  exact ⟨b, off, ha, Nat.lt_of_lt_of_le hlt hb.size, fun i hi => (hb.cell (p := ⟨b, off + i, none⟩) hlt).trans (hc i hi)⟩

theorem Strs.len {w : World} {a : Option Addr} {c : Nat} {xs : List ByteArray} (h : Strs w a c xs) : xs.length ≤ 9223372036854775807 := by
  have h1 := h.1
  have h2 := h.2.1
  unfold maxLen at h2
  omega

theorem Strs.text {w : World} {a : Option Addr} {c : Nat} {xs : List ByteArray} (h : Strs w a c xs) {k : Nat} (hk : k < xs.length) : xs[k].size ≤ 9223372036854775807 := by
  have h2 := h.2.2.1 xs[k] (List.getElem_mem hk)
  unfold maxLen at h2
  omega

/-- What the call itself has made: a slice of texts in blocks from B on. -/
def Own (w : World) (B : Nat) (a : Option Addr) (c : Nat) (xs : List ByteArray) : Prop :=
  w.ownsRow B 9 1 (.slice a xs.length c) xs.length (xs.map Value.string)

theorem Own.strs {w : World} {B : Nat} {a : Option Addr} {c : Nat} {xs : List ByteArray} (h : Own w B a c xs) (hs : ∀ s ∈ xs, s.size ≤ maxLen) : Strs w a c xs := by
  unfold Own at h
  rcases h.2 with ⟨hv, hn⟩ | ⟨g, cap, cur, hv, hb, hg, hnc, hcm, hcs, ht⟩
  · simp only [Value.slice.injEq] at hv
    obtain ⟨rfl, h0, rfl⟩ := hv
    exact ⟨by omega, by unfold maxLen; omega, hs, fun _ => rfl, fun hp => by omega⟩
  · simp only [Value.slice.injEq] at hv
    obtain ⟨rfl, _, rfl⟩ := hv
    refine ⟨hnc, hcm, hs, (fun h => by cases h), fun hp => ⟨g, 0, rfl, ?_, fun i hi => ?_⟩⟩
    · rcases Nat.lt_or_ge g w.heap.size with hlt | hge
      · exact hlt
      · rw [Array.getElem?_eq_none hge] at hg; cases hg
    · have := World.ownsRow.cellAt (w := w) h i (by omega)
      rw [Nat.zero_add, this, List.getElem?_map, List.getElem?_eq_getElem hi]
      rfl

theorem Own.lower {w : World} {B B' : Nat} {a : Option Addr} {c : Nat} {xs : List ByteArray} (h : Own w B a c xs) (hB : B' ≤ B) : Own w B' a c xs := by
  unfold Own at h ⊢
  refine ⟨h.1, ?_⟩
  rcases h.2 with h2 | ⟨g, cap, cur, hv, hb, r⟩
  · exact .inl h2
  · exact .inr ⟨g, cap, cur, hv, by omega, r⟩

theorem Own.below {w w' : World} {B : Nat} {a : Option Addr} {c : Nat} {xs : List ByteArray} (h : Own w B a c xs) (hb : Below w.heap.size w w') : Own w' B a c xs := by
  unfold Own at h ⊢
  refine ⟨h.1, ?_⟩
  rcases h.2 with h2 | ⟨g, cap, cur, hv, hB, hg, r⟩
  · exact .inl h2
  · refine .inr ⟨g, cap, cur, hv, hB, ?_, r⟩
    have : g < w.heap.size := by
      rcases Nat.lt_or_ge g w.heap.size with hlt | hge
      · exact hlt
      · rw [Array.getElem?_eq_none hge] at hg; cases hg
    rw [hb.block g this, hg]

theorem below_drewN {B : Nat} {a w : World} (h : Below B a w) (n : Nat) : Below B a (w.drewN n) := ⟨h.os, h.tape, h.output, h.size, h.block⟩

theorem Own.lt {w : World} {B : Nat} {a : Option Addr} {c : Nat} {xs : List ByteArray} (h : Own w B a c xs) {g : Nat} (hg : (Value.slice a xs.length c).ownBlock = some g) : B ≤ g ∧ g < w.heap.size :=
  World.ownsRow.lt h g hg

theorem Own.kept {w w' : World} {B : Nat} {a : Option Addr} {c : Nat} {xs : List ByteArray} {row : Option Nat} (h : Own w B a c xs) (hg : w.grownBy w' row)
    (hne : ∀ g, (Value.slice a xs.length c).ownBlock = some g → row ≠ some g) : Own w' B a c xs := by
  refine World.ownsRow.kept h hg ?_
  cases ho : (Value.slice a xs.length c).ownBlock with
  | none => exact .inl rfl
  | some g => exact .inr (fun e => hne g ho e.symm)

theorem Own.form {w : World} {B : Nat} {a : Option Addr} {c : Nat} {xs : List ByteArray} (h : Own w B a c xs) : (a = none ∧ c = 0 ∧ xs = []) ∨ ∃ g, a = some ⟨g, 0, none⟩ ∧ B ≤ g ∧ g < w.heap.size := by
  have hl := h
  unfold Own at h
  rcases h.2 with ⟨hv, hn⟩ | ⟨g, cap, cur, hv, hb, hg, _⟩
  · simp only [Value.slice.injEq] at hv
    exact .inl ⟨hv.1, hv.2.2, List.eq_nil_of_length_eq_zero hn⟩
  · simp only [Value.slice.injEq] at hv
    obtain ⟨rfl, _, rfl⟩ := hv
    exact .inr ⟨g, rfl, hl.lt rfl⟩

theorem Own.nil (w : World) (B : Nat) : Own w B none 0 [] := World.ownsRow_nil _ _ _ _

theorem strings_one (ys : List ByteArray) : ∀ u ∈ ys.map Value.string, u.oneCell' = true := by
  intro u hu
  obtain ⟨s, _, rfl⟩ := List.mem_map.1 hu
  rfl

set_option maxRecDepth 100000 in
/-- append of any texts to a row of the call's own. -/
theorem wpAppendStrs {w : World} {ops : Array Oper} {rest : List Oper} {o : Oper} {A : Act} {Q : Exit → Act → World → Prop} (hgd : o.guard = none) (s x : Operand)
    (ho : o.op = .call { callee := .builtin .append, args := #[s, x], argTypes := #[43, 43] })
    (i0 : TypeInfo) (hi0 : Tryz.prog.info? 9 = some i0) (hz0 : i0.zero = some (.string ByteArray.empty)) (hz1 : i0.size = 1) (hz2 : i0.bytes = 16)
    (B : Nat) (a : Option Addr) (c : Nat) (xs : List ByteArray) (a1 : Option Addr) (c1 : Nat) (ys : List ByteArray)
    (hs : A.eval s = .slice a xs.length c) (hown : Own w B a c xs) (hx : A.eval x = .slice a1 ys.length c1) (hy : Strs w a1 c1 ys)
    (hn : xs.length + ys.length ≤ 8388608) (hB : B ≤ w.heap.size)
    (h : ∀ a' c' w', Own w' B a' c' (xs ++ ys) → w.grownBy w' (Value.slice a xs.length c).ownBlock → wpList Tryz.prog ops Q rest (A.put o.dst (.slice a' (xs ++ ys).length c')) w') :
    wpList Tryz.prog ops Q (o :: rest) A w := by
  cases a1 with
  | none =>
    have hc1 : c1 = 0 := hy.2.2.2.1 rfl
    have hl : ys = [] := by
      cases ys with
      | nil => rfl
      | cons y r => obtain ⟨_, _, h0, _⟩ := hy.2.2.2.2 (by simp); cases h0
    subst hc1 hl
    refine wpList_append_own_none hgd s x 43 ho B 9 i0 1 Tryz.underlying43 hi0 (.slice a xs.length c) xs.length (xs.map Value.string) hs hown hx ?_
    have := h a c w (by simpa using hown) (World.grownBy.refl w _)
    simpa using this
  | some ad =>
    refine wpList_append_own_at _ hgd s x 43 ho B 9 i0 (.string ByteArray.empty) 1 16 Tryz.underlying43 hi0 hz0 hz1 hz2 rfl (by decide) (.slice a xs.length c) xs.length (xs.map Value.string) hs hown
      ad ys.length c1 (ys.map Value.string) hx (by simp) ?_ (strings_one ys) (by unfold maxLen; omega) (by omega) hB ?_
    · intro j u hu
      have hj : j < ys.length := by
        rcases Nat.lt_or_ge j ys.length with h | h
        · exact h
        · rw [List.getElem?_eq_none (by simpa using h)] at hu; cases hu
      obtain ⟨b, off, hb, _, hc⟩ := hy.spot hj
      cases hb
      rw [List.getElem?_map, List.getElem?_eq_getElem hj] at hu
      cases hu
      rw [← hc]
      congr 1
      unfold Addr.add
      by_cases h0 : j = 0 <;> simp [h0]
    · intro v' w' hown' hg _ _
      have hf : ∃ a' c', v' = .slice a' (xs.length + ys.length) c' := by
        rcases hown'.2 with ⟨rfl, h0⟩ | ⟨g, cap, cur, rfl, _⟩
        · exact ⟨none, 0, by rw [h0]⟩
        · exact ⟨_, _, rfl⟩
      obtain ⟨a', c', rfl⟩ := hf
      have := h a' c' w' (by unfold Own; simpa using hown') hg
      simpa using this

/-- A call answers a new slice of the texts xs. -/
def NewStrs (w : World) (xs : List ByteArray) (e : Ending) (w' : World) : Prop :=
  ∃ a c, e = .returned (.slice a xs.length c) ∧ Own w' w.heap.size a c xs ∧ Below w.heap.size w w'

/-- A call answers a value and turns nothing. -/
def Quiet (w : World) (v : Value) (e : Ending) (w' : World) : Prop := e = .returned v ∧ ∃ n, w' = w.drewN n

theorem Tryz.infoString : (Tryz.prog.info? 9).map (fun i => (i.zero, i.size, i.bytes)) = some (some (.string ByteArray.empty), 1, 16) := by kernel_rfl

end Go.Proofs.YtgnillmhpockkaaGreatDoor

namespace Go.Proofs.YtgnillmhpockkaaGreatDoor
open Go.RowKit

theorem bcell {W w1 : World} (hb : Below W.heap.size W w1) : (∀ b o, b < W.heap.size → w1.cell? ⟨b, o, none⟩ = W.cell? ⟨b, o, none⟩) ∧ (∀ b o, b < W.heap.size → w1.frozen? ⟨b, o, none⟩ = W.frozen? ⟨b, o, none⟩) :=
  ⟨fun b o h => hb.cell (p := ⟨b, o, none⟩) h, fun b o h => hb.frozen (p := ⟨b, o, none⟩) h⟩

theorem below_drew {B : Nat} {a w : World} (h : Below B a w) : Below B a w.drew := ⟨h.os, h.tape, h.output, h.size, h.block⟩

/-- A word as the program holds it. -/
structure Tk where
  kind : Int
  text : ByteArray
  at_ : Int

def isI64 (n : Int) : Prop := -9223372036854775808 ≤ n ∧ n ≤ 9223372036854775807

/-- The slice (a, length of xs, c) reads as the words xs. -/
def Toks (w : World) (a : Option Addr) (c : Nat) (xs : List Tk) : Prop :=
  xs.length ≤ c ∧ c ≤ maxLen ∧ (∀ x ∈ xs, isI64 x.kind ∧ x.text.size ≤ maxLen ∧ isI64 x.at_) ∧ (a = none → c = 0) ∧
  (0 < xs.length → ∃ b off, a = some ⟨b, off, none⟩ ∧ b < w.heap.size ∧ ∀ (i : Nat) (h : i < xs.length), w.cell? ⟨b, off + i * 3, none⟩ = some (.int .i64 xs[i].kind) ∧ w.cell? ⟨b, off + i * 3 + 1, none⟩ = some (.string xs[i].text) ∧ w.cell? ⟨b, off + i * 3 + 2, none⟩ = some (.int .i64 xs[i].at_))

theorem Toks.spot {w : World} {a : Option Addr} {c : Nat} {xs : List Tk} (h : Toks w a c xs) {k : Nat} (hk : k < xs.length) :
    ∃ b off, a = some ⟨b, off, none⟩ ∧ b < w.heap.size ∧ w.cell? ⟨b, off + k * 3, none⟩ = some (.int .i64 xs[k].kind) ∧ w.cell? ⟨b, off + k * 3 + 1, none⟩ = some (.string xs[k].text) ∧ w.cell? ⟨b, off + k * 3 + 2, none⟩ = some (.int .i64 xs[k].at_) := by
  obtain ⟨_, _, _, _, h4⟩ := h
  obtain ⟨b, off, ha, hb, hc⟩ := h4 (by omega)
  exact ⟨b, off, ha, hb, hc k hk⟩

theorem Toks.below {w w' : World} {a : Option Addr} {c : Nat} {xs : List Tk} (h : Toks w a c xs) (hb : Below w.heap.size w w') : Toks w' a c xs := by
  obtain ⟨h1, h2, h3, h3', h4⟩ := h
  refine ⟨h1, h2, h3, h3', fun hp => ?_⟩
  obtain ⟨b, off, ha, hlt, hc⟩ := h4 hp
  refine ⟨b, off, ha, Nat.lt_of_lt_of_le hlt hb.size, fun i hi => ?_⟩
  obtain ⟨c0, c1, c2⟩ := hc i hi
  exact ⟨(hb.cell (p := ⟨b, off + i * 3, none⟩) hlt).trans c0, (hb.cell (p := ⟨b, off + i * 3 + 1, none⟩) hlt).trans c1, (hb.cell (p := ⟨b, off + i * 3 + 2, none⟩) hlt).trans c2⟩

theorem Toks.len {w : World} {a : Option Addr} {c : Nat} {xs : List Tk} (h : Toks w a c xs) : xs.length ≤ 9223372036854775807 := by
  have h1 := h.1
  have h2 := h.2.1
  unfold maxLen at h2
  omega

theorem Toks.text {w : World} {a : Option Addr} {c : Nat} {xs : List Tk} (h : Toks w a c xs) {k : Nat} (hk : k < xs.length) : xs[k].text.size ≤ 9223372036854775807 := by
  have h2 := (h.2.2.1 xs[k] (List.getElem_mem hk)).2.1
  unfold maxLen at h2
  omega

def tcells (xs : List Tk) : List Value := xs.flatMap fun x => [.int .i64 x.kind, .string x.text, .int .i64 x.at_]

theorem tcells_length (xs : List Tk) : (tcells xs).length = xs.length * 3 := by
  induction xs with
  | nil => rfl
  | cons x r ih => rw [tcells, List.flatMap_cons, List.length_append]; unfold tcells at ih; rw [ih]; simp; omega

theorem tcells_append (xs ys : List Tk) : tcells (xs ++ ys) = tcells xs ++ tcells ys := by simp [tcells]

theorem tcells_at : ∀ (xs : List Tk) (i : Nat) (h : i < xs.length), (tcells xs)[i * 3]? = some (.int .i64 xs[i].kind) ∧ (tcells xs)[i * 3 + 1]? = some (.string xs[i].text) ∧ (tcells xs)[i * 3 + 2]? = some (.int .i64 xs[i].at_)
  | [], i, h => by simp at h
  | x :: r, 0, _ => ⟨rfl, rfl, rfl⟩
  | x :: r, i + 1, h => by
    have ih := tcells_at r i (by simpa using h)
    have e : tcells (x :: r) = [.int .i64 x.kind, .string x.text, .int .i64 x.at_] ++ tcells r := rfl
    rw [e]
    refine ⟨?_, ?_, ?_⟩
    · rw [List.getElem?_append_right (by simp; omega)]; simp only [List.length_cons, List.length_nil, List.getElem_cons_succ]; rw [show (i + 1) * 3 - (0 + 1 + 1 + 1) = i * 3 by omega]; exact ih.1
    · rw [List.getElem?_append_right (by simp; omega)]; simp only [List.length_cons, List.length_nil, List.getElem_cons_succ]; rw [show (i + 1) * 3 + 1 - (0 + 1 + 1 + 1) = i * 3 + 1 by omega]; exact ih.2.1
    · rw [List.getElem?_append_right (by simp; omega)]; simp only [List.length_cons, List.length_nil, List.getElem_cons_succ]; rw [show (i + 1) * 3 + 2 - (0 + 1 + 1 + 1) = i * 3 + 2 by omega]; exact ih.2.2

theorem tcells_set (ys : List Tk) (k : Nat) (x : Tk) (h : k < ys.length) : (((tcells ys).set (k * 3) (.int .i64 x.kind)).set (k * 3 + 1) (.string x.text)).set (k * 3 + 2) (.int .i64 x.at_) = tcells (ys.set k x) := by
  induction ys generalizing k with
  | nil => simp at h
  | cons y r ih =>
    cases k with
    | zero => rfl
    | succ k =>
      have e : ∀ z s, tcells (z :: s) = .int .i64 z.kind :: .string z.text :: .int .i64 z.at_ :: tcells s := fun _ _ => rfl
      rw [List.set_cons_succ, e, e, show (k + 1) * 3 = k * 3 + 1 + 1 + 1 by omega]
      simp only [List.set_cons_succ]
      rw [← ih k (by simpa using h)]

/-- What the call itself has made: a slice of words in blocks from B on. -/
def OwnT (w : World) (B : Nat) (a : Option Addr) (c : Nat) (xs : List Tk) : Prop :=
  w.ownsRow B 36 3 (.slice a xs.length c) xs.length (tcells xs)

def FitsT (xs : List Tk) : Prop := ∀ x ∈ xs, isI64 x.kind ∧ x.text.size ≤ maxLen ∧ isI64 x.at_

theorem OwnT.toks {w : World} {B : Nat} {a : Option Addr} {c : Nat} {xs : List Tk} (h : OwnT w B a c xs) (hs : FitsT xs) : Toks w a c xs := by
  unfold OwnT at h
  rcases h.2 with ⟨hv, hn⟩ | ⟨g, cap, cur, hv, hb, hg, hnc, hcm, hcs, ht⟩
  · simp only [Value.slice.injEq] at hv
    obtain ⟨rfl, h0, rfl⟩ := hv
    exact ⟨by omega, by unfold maxLen; omega, hs, fun _ => rfl, fun hp => by omega⟩
  · simp only [Value.slice.injEq] at hv
    obtain ⟨rfl, _, rfl⟩ := hv
    refine ⟨hnc, hcm, hs, (fun h => by cases h), fun hp => ⟨g, 0, rfl, ?_, fun i hi => ?_⟩⟩
    · rcases Nat.lt_or_ge g w.heap.size with hlt | hge
      · exact hlt
      · rw [Array.getElem?_eq_none hge] at hg; cases hg
    · obtain ⟨c0, c1, c2⟩ := tcells_at xs i hi
      refine ⟨?_, ?_, ?_⟩
      · rw [Nat.zero_add, World.ownsRow.cellAt (w := w) h (i * 3) (by omega)]; exact c0
      · rw [Nat.zero_add, World.ownsRow.cellAt (w := w) h (i * 3 + 1) (by omega)]; exact c1
      · rw [Nat.zero_add, World.ownsRow.cellAt (w := w) h (i * 3 + 2) (by omega)]; exact c2

theorem OwnT.lt {w : World} {B : Nat} {a : Option Addr} {c : Nat} {xs : List Tk} (h : OwnT w B a c xs) {g : Nat} (hg : (Value.slice a xs.length c).ownBlock = some g) : B ≤ g ∧ g < w.heap.size :=
  World.ownsRow.lt h g hg

theorem OwnT.below {w w' : World} {B : Nat} {a : Option Addr} {c : Nat} {xs : List Tk} (h : OwnT w B a c xs) (hb : Below w.heap.size w w') : OwnT w' B a c xs := by
  unfold OwnT at h ⊢
  refine ⟨h.1, ?_⟩
  rcases h.2 with h2 | ⟨g, cap, cur, hv, hB, hg, r⟩
  · exact .inl h2
  · refine .inr ⟨g, cap, cur, hv, hB, ?_, r⟩
    have : g < w.heap.size := by
      rcases Nat.lt_or_ge g w.heap.size with hlt | hge
      · exact hlt
      · rw [Array.getElem?_eq_none hge] at hg; cases hg
    rw [hb.block g this, hg]

theorem OwnT.lower {w : World} {B B' : Nat} {a : Option Addr} {c : Nat} {xs : List Tk} (h : OwnT w B a c xs) (hB : B' ≤ B) : OwnT w B' a c xs := by
  unfold OwnT at h ⊢
  refine ⟨h.1, ?_⟩
  rcases h.2 with h2 | ⟨g, cap, cur, hv, hb, r⟩
  · exact .inl h2
  · exact .inr ⟨g, cap, cur, hv, by omega, r⟩

theorem OwnT.kept {w w' : World} {B : Nat} {a : Option Addr} {c : Nat} {xs : List Tk} {row : Option Nat} (h : OwnT w B a c xs) (hg : w.grownBy w' row)
    (hne : ∀ g, (Value.slice a xs.length c).ownBlock = some g → row ≠ some g) : OwnT w' B a c xs := by
  refine World.ownsRow.kept h hg ?_
  cases ho : (Value.slice a xs.length c).ownBlock with
  | none => exact .inl rfl
  | some g => exact .inr (fun e => hne g ho e.symm)

theorem OwnT.nil (w : World) (B : Nat) : OwnT w B none 0 [] := World.ownsRow_nil _ _ _ _

/-- A call answers a new slice of the words xs. -/
def NewToks (w : World) (xs : List Tk) (e : Ending) (w' : World) : Prop :=
  ∃ a c, e = .returned (.slice a xs.length c) ∧ OwnT w' w.heap.size a c xs ∧ Below w.heap.size w w'

theorem Tryz.infoToken : (Tryz.prog.info? 36).map (fun i => (i.zero, i.size, i.bytes)) = some (some (.agg #[.int .i64 0, .string ByteArray.empty, .int .i64 0]), 3, 32) := by kernel_rfl

end Go.Proofs.YtgnillmhpockkaaGreatDoor

namespace Go.Proofs.YtgnillmhpockkaaGreatDoor
open Go.RowKit

/-- An expression as the program holds it. -/
inductive Ex where
  | mk (kind : Int) (text : ByteArray) (num : Int) (kids : List Ex)

def Ex.kind : Ex → Int | .mk k _ _ _ => k
def Ex.text : Ex → ByteArray | .mk _ t _ _ => t
def Ex.num : Ex → Int | .mk _ _ n _ => n
def Ex.kids : Ex → List Ex | .mk _ _ _ l => l

def Ex.v (e : Ex) (a : Option Addr) (c : Nat) : Value := .agg #[.int .i64 e.kind, .string e.text, .int .i64 e.num, .slice a e.kids.length c]

def i64E (n : Int) : Prop := -9223372036854775808 ≤ n ∧ n ≤ 9223372036854775807
def Ex.fit (e : Ex) : Prop := e.text.size ≤ maxLen ∧ i64E e.kind ∧ i64E e.num

/-- One expression lies at the cells from ⟨b, o⟩ on; P says of its kids' slice. -/
def At1 (w : World) (b o : Nat) (e : Ex) (P : Option Addr → Nat → Prop) : Prop :=
  w.cell? ⟨b, o, none⟩ = some (.int .i64 e.kind) ∧ w.cell? ⟨b, o + 1, none⟩ = some (.string e.text) ∧ w.cell? ⟨b, o + 2, none⟩ = some (.int .i64 e.num) ∧ e.fit ∧
  ∃ a c, w.cell? ⟨b, o + 3, none⟩ = some (.slice a e.kids.length c) ∧ P a c

/-- The slice (a, length of kids, c) reads as the expressions kids, no deeper than d. -/
def KidsAt (w : World) : Nat → Option Addr → Nat → List Ex → Prop
  | 0, _, _, _ => False
  | d + 1, a, c, kids => kids.length ≤ c ∧ c ≤ maxLen ∧ (a = none → c = 0) ∧
    (0 < kids.length → ∃ b off, a = some ⟨b, off, none⟩ ∧ b < w.heap.size ∧ ∀ (i : Nat) (h : i < kids.length), At1 w b (off + i * 4) kids[i] (fun a' c' => KidsAt w d a' c' kids[i].kids))

theorem At1.mono {w : World} {b o : Nat} {e : Ex} {P Q : Option Addr → Nat → Prop} (h : At1 w b o e P) (hpq : ∀ a c, P a c → Q a c) : At1 w b o e Q := by
  obtain ⟨h1, h2, h3, h4, a, c, h5, h6⟩ := h
  exact ⟨h1, h2, h3, h4, a, c, h5, hpq a c h6⟩

theorem KidsAt.below {w w' : World} (hb : Below w.heap.size w w') : ∀ {d : Nat} {a : Option Addr} {c : Nat} {kids : List Ex}, KidsAt w d a c kids → KidsAt w' d a c kids
  | 0, _, _, _, h => h
  | d + 1, a, c, kids, h => by
    obtain ⟨h1, h2, h3, h4⟩ := h
    refine ⟨h1, h2, h3, fun hp => ?_⟩
    obtain ⟨b, off, ha, hlt, hc⟩ := h4 hp
    refine ⟨b, off, ha, Nat.lt_of_lt_of_le hlt hb.size, fun i hi => ?_⟩
    obtain ⟨c1, c2, c3, hf, a', c', c4, hk⟩ := hc i hi
    have e : ∀ o, w'.cell? ⟨b, o, none⟩ = w.cell? ⟨b, o, none⟩ := fun o => hb.cell (p := ⟨b, o, none⟩) hlt
    exact ⟨(e _).trans c1, (e _).trans c2, (e _).trans c3, hf, a', c', (e _).trans c4, KidsAt.below hb hk⟩

theorem KidsAt.len {w : World} {d : Nat} {a : Option Addr} {c : Nat} {kids : List Ex} (h : KidsAt w d a c kids) : kids.length ≤ 9223372036854775807 := by
  cases d with
  | zero => exact h.elim
  | succ d => have h1 := h.1; have h2 := h.2.1; unfold maxLen at h2; omega

theorem KidsAt.spot {w : World} {d : Nat} {a : Option Addr} {c : Nat} {kids : List Ex} (h : KidsAt w (d + 1) a c kids) {i : Nat} (hi : i < kids.length) :
    ∃ b off, a = some ⟨b, off, none⟩ ∧ b < w.heap.size ∧ At1 w b (off + i * 4) kids[i] (fun a' c' => KidsAt w d a' c' kids[i].kids) := by
  obtain ⟨_, _, _, h4⟩ := h
  obtain ⟨b, off, ha, hlt, hc⟩ := h4 (by omega)
  exact ⟨b, off, ha, hlt, hc i hi⟩

theorem KidsAt.mono {w : World} : ∀ {d d' : Nat} {a : Option Addr} {c : Nat} {kids : List Ex}, d ≤ d' → KidsAt w d a c kids → KidsAt w d' a c kids
  | 0, _, _, _, _, _, h => h.elim
  | d + 1, 0, _, _, _, hd, _ => by omega
  | d + 1, d' + 1, a, c, kids, hd, h => by
    obtain ⟨h1, h2, h3, h4⟩ := h
    refine ⟨h1, h2, h3, fun hp => ?_⟩
    obtain ⟨b, off, ha, hlt, hc⟩ := h4 hp
    exact ⟨b, off, ha, hlt, fun i hi => (hc i hi).mono fun a' c' hk => KidsAt.mono (by omega) hk⟩

mutual
/-- What the laws' measure counts: letters and kids. -/
def Ex.wt : Ex → Nat
  | .mk _ t _ kids => t.size + (kids.length + wtL kids)
def wtL : List Ex → Nat
  | [] => 0
  | e :: r => e.wt + wtL r
end

theorem Ex.wt_eq (e : Ex) : e.wt = e.text.size + (e.kids.length + wtL e.kids) := by
  cases e; rw [Ex.wt]; rfl

mutual
def Ex.nodes : Ex → Nat
  | .mk _ _ _ kids => 1 + nodesL kids
def nodesL : List Ex → Nat
  | [] => 0
  | e :: r => e.nodes + nodesL r
end

theorem Ex.nodes_eq (e : Ex) : e.nodes = 1 + nodesL e.kids := by
  cases e; rw [Ex.nodes]; rfl

theorem wtL_take (l : List Ex) (k : Nat) (h : k < l.length) : wtL (l.take (k + 1)) = wtL (l.take k) + l[k].wt := by
  induction l generalizing k with
  | nil => simp at h
  | cons e r ih =>
    cases k with
    | zero => simp [wtL]
    | succ k =>
      simp only [List.take_succ_cons, wtL, List.getElem_cons_succ]
      rw [ih k (by simpa using h)]
      omega

theorem wtL_mono (l : List Ex) (k : Nat) : wtL (l.take k) ≤ wtL l := by
  induction l generalizing k with
  | nil => simp
  | cons e r ih =>
    cases k with
    | zero => simp [wtL]
    | succ k => simp only [List.take_succ_cons, wtL]; have := ih k; omega

theorem nodesL_take (l : List Ex) (k : Nat) (h : k < l.length) : nodesL (l.take (k + 1)) = nodesL (l.take k) + l[k].nodes := by
  induction l generalizing k with
  | nil => simp at h
  | cons e r ih =>
    cases k with
    | zero => simp [nodesL]
    | succ k =>
      simp only [List.take_succ_cons, nodesL, List.getElem_cons_succ]
      rw [ih k (by simpa using h)]
      omega

mutual
theorem nodes_wt : (e : Ex) → e.nodes ≤ 1 + e.wt
  | .mk _ t _ kids => by rw [Ex.nodes, Ex.wt]; have := nodesL_wt kids; omega
theorem nodesL_wt : (l : List Ex) → nodesL l ≤ l.length + wtL l
  | [] => by simp [nodesL]
  | e :: r => by rw [nodesL, wtL, List.length_cons]; have := nodes_wt e; have := nodesL_wt r; omega
end

end Go.Proofs.YtgnillmhpockkaaGreatDoor

namespace Go.Proofs.YtgnillmhpockkaaGreatDoor

/-- The number that l spells, or -1. -/
def readD (l : List UInt8) : Int :=
  if 9 < l.length then -1 else match Go.Lib.decNat l with
    | none => -1
    | some m => if Go.Lib.itoa (m : Int) = l then (m : Int) else -1

def letterB (b : UInt8) : Bool := (decide (65 ≤ b.toNat) && decide (b.toNat ≤ 90)) || (decide (97 ≤ b.toNat) && decide (b.toNat ≤ 122)) || b.toNat == 95
def digitB (b : UInt8) : Bool := decide (48 ≤ b.toNat) && decide (b.toNat ≤ 57)
def moreB (b : UInt8) : Bool := letterB b || digitB b
def blankB (b : UInt8) : Bool := b.toNat == 32 || b.toNat == 9 || b.toNat == 10 || b.toNat == 13
def lowB (b : UInt8) : UInt8 := if decide (65 ≤ b.toNat) && decide (b.toNat ≤ 90) then b + 32 else b
def signB (b : UInt8) : Bool := [40, 41, 44, 59, 61, 60, 62, 43, 45, 42, 46].contains b.toNat

/-- How many bytes are passed over at the head (true: inside a note). -/
def gap : Bool → List UInt8 → Nat
  | _, [] => 0
  | true, b :: r => 1 + gap (b.toNat != 10) r
  | false, b :: r => if blankB b then 1 + gap false r else if b.toNat == 45 && (r.head?.map (·.toNat)) == some 45 then 1 + gap true r else 0

/-- A word: its kind, its text, its place. -/
structure Tok where
  kind : Nat
  text : List UInt8
  at_ : Nat
deriving DecidableEq

def runL (l : List UInt8) : List UInt8 := l.takeWhile moreB
def runN (l : List UInt8) : Nat := (runL l).length

/-- What stands between quotes (behind the first one), and how many bytes it has there with the last one. -/
def quoted (q : UInt8) : List UInt8 → Option (List UInt8 × Nat)
  | [] => none
  | [b] => if b = q then some ([], 1) else none
  | b :: c :: r =>
    if b = q then
      if c = q then (quoted q r).map fun x => (b :: x.1, 2 + x.2) else some ([], 1)
    else (quoted q (c :: r)).map fun x => (b :: x.1, 1 + x.2)

def twoB (b c : UInt8) : Bool := (b.toNat == 60 && c.toNat == 61) || (b.toNat == 62 && c.toNat == 61) || (b.toNat == 60 && c.toNat == 62)

def signN : List UInt8 → Nat
  | [] => 0
  | [b] => if signB b then 1 else 0
  | b :: c :: _ => if twoB b c then 2 else if signB b then 1 else 0

def nameB (t : List UInt8) : Bool := decide (1 ≤ t.length) && decide (t.length ≤ 40) && !t.contains 0

/-- The word at the head: kind, text, how many bytes. -/
def one : List UInt8 → Option (Nat × List UInt8 × Nat)
  | [] => none
  | b :: r =>
    if letterB b then some (0, (runL (b :: r)).map lowB, runN (b :: r))
    else if digitB b then if 0 ≤ readD (runL (b :: r)) then some (2, runL (b :: r), runN (b :: r)) else none
    else if b.toNat = 34 then (quoted 34 r).bind fun x => if nameB x.1 then some (1, x.1, 1 + x.2) else none
    else if b.toNat = 39 then (quoted 39 r).bind fun x => if x.1.length ≤ 100 then some (3, x.1, 1 + x.2) else none
    else if signN (b :: r) = 0 then none else some (4, (b :: r).take (signN (b :: r)), signN (b :: r))

theorem runN_pos {b : UInt8} {r : List UInt8} (h : moreB b = true) : 0 < runN (b :: r) := by
  simp [runN, runL, h]

theorem one_pos {l : List UInt8} {k : Nat} {t : List UInt8} {n : Nat} (h : one l = some (k, t, n)) : 0 < n := by
  cases l with
  | nil => simp [one] at h
  | cons b r =>
    rw [one] at h
    split at h
    · rename_i hb
      simp only [Option.some.injEq, Prod.mk.injEq] at h
      rw [← h.2.2]; exact runN_pos (by simp [moreB, hb])
    · split at h
      · rename_i hb
        split at h
        · simp only [Option.some.injEq, Prod.mk.injEq] at h
          rw [← h.2.2]; exact runN_pos (by simp [moreB, hb])
        · cases h
      · split at h
        · cases hq : quoted 34 r with
          | none => rw [hq] at h; cases h
          | some x =>
            rw [hq, Option.bind_some] at h
            split at h
            · simp only [Option.some.injEq, Prod.mk.injEq] at h; omega
            · cases h
        · split at h
          · cases hq : quoted 39 r with
            | none => rw [hq] at h; cases h
            | some x =>
              rw [hq, Option.bind_some] at h
              split at h
              · simp only [Option.some.injEq, Prod.mk.injEq] at h; omega
              · cases h
          · split at h
            · cases h
            · simp only [Option.some.injEq, Prod.mk.injEq] at h; omega

theorem one_len {l : List UInt8} {k : Nat} {t : List UInt8} {n : Nat} (h : one l = some (k, t, n)) : l ≠ [] := by
  rintro rfl; simp [one] at h

/-- The words from a place on, at which no gap stands; or the place of what is none. -/
def lexAt (at_ : Nat) (l : List UInt8) : Except Nat (List Tok) :=
  if l = [] then .ok [] else
  match h : one l with
  | none => .error at_
  | some (k, t, n) =>
    match lexAt (at_ + n + gap false (l.drop n)) ((l.drop n).drop (gap false (l.drop n))) with
    | .ok ts => .ok (⟨k, t, at_⟩ :: ts)
    | .error e => .error e
termination_by l.length
decreasing_by
  have h1 := one_pos h
  have h2 := one_len h
  cases l with
  | nil => exact absurd rfl h2
  | cons b r => simp only [List.length_drop, List.length_cons]; omega

def lexB (l : List UInt8) : Except Nat (List Tok) :=
  if 20000 < l.length then .error 20000 else lexAt (gap false l) (l.drop (gap false l))

def cat (ts : List Tok) : Except Nat (List Tok) → Except Nat (List Tok)
  | .ok us => .ok (ts ++ us)
  | .error e => .error e

theorem lexAt_nil (p : Nat) : lexAt p [] = .ok [] := by rw [lexAt]; simp
theorem lexAt_bad {p : Nat} {l : List UInt8} (h : l ≠ []) (h1 : one l = none) : lexAt p l = .error p := by
  rw [lexAt, if_neg h]; split
  · rfl
  · rename_i h2; rw [h1] at h2; cases h2
theorem lexAt_one {p : Nat} {l : List UInt8} {k : Nat} {t : List UInt8} {n : Nat} (h : one l = some (k, t, n)) :
    lexAt p l = cat [⟨k, t, p⟩] (lexAt (p + n + gap false (l.drop n)) ((l.drop n).drop (gap false (l.drop n)))) := by
  rw [lexAt, if_neg (one_len h)]
  split
  · rename_i h2; rw [h] at h2; cases h2
  · rename_i k' t' n' h2
    rw [h] at h2
    cases h2
    cases lexAt (p + n + gap false (l.drop n)) ((l.drop n).drop (gap false (l.drop n))) <;> rfl
theorem cat_cat (a b : List Tok) (r : Except Nat (List Tok)) : cat a (cat b r) = cat (a ++ b) r := by
  cases r <;> simp [cat]
theorem cat_nil (r : Except Nat (List Tok)) : cat [] r = r := by cases r <;> rfl

/-- How a call answers words. -/
def wordsOf : Except Nat (List Tok) → List Tok
  | .ok ts => ts
  | .error _ => []
def placeOf : Except Nat (List Tok) → Int
  | .ok _ => -1
  | .error p => (p : Int)

def quoteL (q : UInt8) (t : List UInt8) : List UInt8 := q :: (t.flatMap fun b => if b = q then [q, b] else [b]) ++ [q]

def spell1 (x : Int) (t : List UInt8) : Option (List UInt8) :=
  if x = 0 ∨ x = 2 ∨ x = 4 then some t else if x = 1 then some (quoteL 34 t) else if x = 3 then some (quoteL 39 t) else none

end Go.Proofs.YtgnillmhpockkaaGreatDoor

namespace Go.Proofs.YtgnillmhpockkaaGreatDoor

/-- How many letters the texts have together. -/
def lets (xs : List ByteArray) : Nat := (xs.map ByteArray.size).sum

theorem lets_take (xs : List ByteArray) (k : Nat) (h : k < xs.length) : lets (xs.take (k + 1)) = lets (xs.take k) + xs[k].size := by
  unfold lets
  rw [List.take_succ_eq_append_getElem h, List.map_append, List.sum_append]
  simp only [List.map_cons, List.map_nil, List.sum_cons, List.sum_nil, Nat.add_zero]

theorem lets_le (xs : List ByteArray) (k : Nat) : lets (xs.take k) ≤ lets xs := by
  unfold lets
  conv => rhs; rw [← List.take_append_drop k xs, List.map_append, List.sum_append]
  omega

theorem lets_mem {xs : List ByteArray} {s : ByteArray} (h : s ∈ xs) : s.size ≤ lets xs := by
  unfold lets
  induction xs with
  | nil => simp at h
  | cons x r ih =>
    simp only [List.map_cons, List.sum_cons]
    rcases List.mem_cons.1 h with rfl | h
    · omega
    · have := ih h; omega

end Go.Proofs.YtgnillmhpockkaaGreatDoor

namespace Go.Proofs.YtgnillmhpockkaaGreatDoor
open Go.RowKit

/-- What is left of 'left' behind the texts: -1 where it is not enough. -/
def leftOf (xs : List ByteArray) (left : Int) : Int := if left < xs.length + lets xs then -1 else left - xs.length - lets xs

def filled (xs : List ByteArray) (k : Nat) : List Value := (xs.take k).map Value.string ++ List.replicate (xs.length - k) (Value.string ByteArray.empty)

theorem filled_set (xs : List ByteArray) (k : Nat) (h : k < xs.length) : (filled xs k).set k (.string xs[k]) = filled xs (k + 1) := by
  unfold filled
  have hl : ((xs.take k).map Value.string).length = k := by simp; omega
  rw [List.set_append_right _ _ (by omega), hl, Nat.sub_self, show xs.length - k = (xs.length - (k + 1)) + 1 by omega, List.replicate_succ, List.set_cons_zero, List.take_succ_eq_append_getElem h, List.map_append, List.append_assoc]
  rfl

theorem filled_at (xs : List ByteArray) (k : Nat) (h : k < xs.length) : ∃ s, (filled xs k)[k]? = some (.string s) := by
  unfold filled
  have hl : ((xs.take k).map Value.string).length = k := by simp; omega
  rw [List.getElem?_append_right (by omega), hl, Nat.sub_self, List.getElem?_replicate, if_pos (by omega)]
  exact ⟨_, rfl⟩

theorem filled_all (xs : List ByteArray) : filled xs xs.length = xs.map Value.string := by simp [filled]
theorem filled_none (xs : List ByteArray) : filled xs 0 = List.replicate xs.length (Value.string ByteArray.empty) := by simp [filled]

/-- The two lists hold the same texts. -/
def eqB (xs ys : List ByteArray) : Bool := xs.map ByteArray.toList == ys.map ByteArray.toList

end Go.Proofs.YtgnillmhpockkaaGreatDoor

namespace Go.Proofs.YtgnillmhpockkaaGreatDoor
open Go.RowKit

def hasB (xs : List ByteArray) (s : ByteArray) : Bool := xs.any fun x => x.toList == s.toList

theorem hasB_take (xs : List ByteArray) (s : ByteArray) (k : Nat) (h : k < xs.length) : hasB (xs.take (k + 1)) s = (hasB (xs.take k) s || xs[k].toList == s.toList) := by
  unfold hasB
  rw [List.take_succ_eq_append_getElem h, List.any_append]
  simp only [List.any_cons, List.any_nil, Bool.or_false]

theorem hasB_hit (xs : List ByteArray) (s : ByteArray) (k : Nat) (h : k < xs.length) (he : (xs[k].toList == s.toList) = true) : hasB xs s = true :=
  List.any_eq_true.2 ⟨xs[k], List.getElem_mem h, he⟩

set_option maxHeartbeats 400000 in
theorem specHas (a : Option Addr) (c : Nat) (xs : List ByteArray) (s : ByteArray) (w : World) (hx : Strs w a c xs) :
    Calls Tryz.prog 35 #[.slice a xs.length c, .string s] w (Quiet w (.bool (hasB xs s))) := by
  have hl := hx.len
  go_enter Tryz.func35, Tryz.ntmps35
  go_wp2
  go_loop [5] (fun i => ∃ k : Nat, k ≤ xs.length ∧ i = .int .i64 k ∧ Hid (hasB (xs.take k) s = false)) (fun i => xs.length - (intOf i).toNat)
  case atStart => exact ⟨0, Nat.zero_le _, rfl, rfl⟩
  case round =>
    obtain ⟨k, hk, rfl, hno⟩ := hrel
    by_cases hlt : k < xs.length
    · obtain ⟨b, off, rfl, hb, hc⟩ := hx.spot hlt
      cases he : (xs[k].toList == s.toList) with
      | true =>
        have H := Lib.hid (hasB_hit xs s k hlt he)
        go_wp2
        go_ret
        exact ⟨by rw [H.out]; rfl, 0, rfl⟩
      | false =>
        have H : Hid (hasB (xs.take (k + 1)) s = false) := by unfold Hid; rw [hasB_take xs s k hlt, hno.out, he]; rfl
        go_wp2
        go_round
        case rel => exact ⟨k + 1, by omega, by go_num, H⟩
        case measure => simp [intOf]; omega
    · have H : Hid (hasB xs s = false) := by have := hno.out; rwa [List.take_of_length_le (by omega)] at this
      go_wp2
      go_ret
      exact ⟨by rw [H.out]; rfl, 0, rfl⟩

theorem beq_flip (a b : List UInt8) : (a == b) = (b == a) := by
  rw [Bool.eq_iff_iff, beq_iff_eq, beq_iff_eq]; exact eq_comm

end Go.Proofs.YtgnillmhpockkaaGreatDoor

namespace Go.Proofs.YtgnillmhpockkaaGreatDoor
open Go.RowKit

/-- The reserved words, byte by byte. -/
def keptW : List (List UInt8) := [[97, 100, 100], [97, 108, 108], [97, 108, 116, 101, 114], [97, 110, 100], [97, 115], [98, 111, 111, 108], [99, 104, 97, 114], [99, 104, 101, 99, 107], [99, 111, 108, 117, 109, 110], [99, 111, 110, 115, 116, 114, 97, 105, 110, 116], [99, 114, 101, 97, 116, 101], [100, 101, 102, 97, 117, 108, 116], [100, 114, 111, 112], [101, 110, 117, 109], [102, 97, 108, 115, 101], [102, 111, 114, 101, 105, 103, 110], [102, 114, 111, 109], [105, 110, 100, 101, 120], [105, 110, 116], [105, 115], [107, 101, 121], [110, 111, 116], [110, 117, 108, 108], [111, 110], [111, 114], [112, 114, 105, 109, 97, 114, 121], [114, 101, 102, 101, 114, 101, 110, 99, 101, 115], [115, 101, 108, 101, 99, 116], [115, 101, 113, 117, 101, 110, 99, 101], [115, 101, 116], [115, 116, 97, 114, 116], [116, 97, 98, 108, 101], [116, 101, 120, 116], [116, 111], [116, 114, 117, 101], [116, 121, 112, 101], [117, 110, 105, 113, 117, 101], [118, 105, 101, 119], [119, 104, 101, 114, 101]]
def keptB (l : List UInt8) : Bool := keptW.any fun x => l == x

theorem kept_hit {l x : List UInt8} (hx : x ∈ keptW) (h : (l == x) = true) : keptB l = true := List.any_eq_true.2 ⟨x, hx, h⟩

set_option maxRecDepth 100000 in
set_option maxHeartbeats 4000000 in
theorem implReserved (s : ByteArray) (w : World) (v : Bool) (hv : keptB s.toList = v) :
    Calls Tryz.prog 31 #[.string s] w fun e w' => e = .returned (.bool v) ∧ w = w' := by
  have HV := Lib.hid hv
  clear hv
  go_enter Tryz.func31, Tryz.ntmps31
  go_wp2_with fail
  all_goals first
    | (rename_i ha hb; exact Bool.noConfusion (ha.symm.trans hb))
    | (rename_i ha hb; go_ret; exact ⟨by rw [← HV.out, kept_hit (by decide) hb]; rfl, rfl⟩)
    | (have HN : Hid (keptB s.toList = false) := by
         unfold Hid keptB keptW
         simp only [List.any_cons, List.any_nil, *, Bool.or_false]
       go_ret
       exact ⟨by rw [← HV.out, HN.out]; rfl, rfl⟩)

end Go.Proofs.YtgnillmhpockkaaGreatDoor

namespace Go.Proofs.YtgnillmhpockkaaGreatDoor

/-- A word: its kind and its text. -/
abbrev W := Int × List UInt8

def bindsK (k : Int) : Nat :=
  if k = 9 then 1 else if k = 8 then 2 else if k = 6 then 3
  else if k = 7 ∨ k = 10 ∨ k = 11 ∨ k = 12 ∨ k = 13 ∨ k = 14 ∨ k = 15 then 4
  else if k = 16 ∨ k = 17 then 5 else if k = 18 then 6 else 7

def wAnd : List UInt8 := [97, 110, 100]
def wOr : List UInt8 := [111, 114]
def wNot : List UInt8 := [110, 111, 116]
def wIs : List UInt8 := [105, 115]
def wNull : List UInt8 := [110, 117, 108, 108]
def wTrue : List UInt8 := [116, 114, 117, 101]
def wFalse : List UInt8 := [102, 97, 108, 115, 101]

/-- What stands between two kids. -/
def signK (k : Int) : List UInt8 :=
  if k = 8 then wAnd else if k = 9 then wOr else if k = 10 then [61] else if k = 11 then [60, 62] else if k = 12 then [60] else if k = 13 then [60, 61]
  else if k = 14 then [62] else if k = 15 then [62, 61] else if k = 16 then [43] else if k = 17 then [45] else if k = 18 then [42] else []

def isW (x : W) (t : List UInt8) : Bool := (x.1 == 0 || x.1 == 4) && x.2 == t

/-- The first word is t. -/
def hdW : List W → List UInt8 → Bool
  | x :: _, t => isW x t
  | [], _ => false

/-- The kind of two kids that binds b whose sign is x. -/
def nextK (x : W) (b : Nat) : Option Int := ([8, 9, 10, 11, 12, 13, 14, 15, 16, 17, 18] : List Int).find? fun k => bindsK k == b && isW x (signK k)

def txt (l : List UInt8) : ByteArray := ⟨l.toArray⟩
def leaf (k : Int) (t : List UInt8) (n : Int) : Ex := .mk k (txt t) n []
def node (k : Int) (l : List Ex) : Ex := .mk k (txt []) 0 l

mutual
def atomP : Nat → List W → Option (Ex × List W)
  | 0, _ => none
  | _ + 1, [] => none
  | f + 1, x :: r =>
    if x.1 = 2 then some (leaf 1 [] (readD x.2), r)
    else if x.1 = 3 then some (leaf 2 x.2 0, r)
    else if x.1 = 1 ∨ (x.1 = 0 ∧ keptB x.2 = false) then some (leaf 0 x.2 0, r)
    else if isW x wTrue then some (leaf 3 [] 0, r)
    else if isW x wFalse then some (leaf 4 [] 0, r)
    else if isW x wNull then some (leaf 5 [] 0, r)
    else if isW x [40] then
      match anyP f 1 r with
      | some (e, y :: r') => if isW y [41] then some (e, r') else none
      | _ => none
    else none
def anyP : Nat → Nat → List W → Option (Ex × List W)
  | 0, _, _ => none
  | f + 1, L, ts =>
    if L = 7 then atomP f ts
    else if L = 3 ∧ hdW ts wNot = true then
      match anyP f 3 ts.tail with
      | some (k, r) => some (node 6 [k], r)
      | none => none
    else match anyP f (L + 1) ts with
      | some (e, r) => some (loopP f L e r)
      | none => none
def loopP : Nat → Nat → Ex → List W → Ex × List W
  | 0, _, e, r => (e, r)
  | f + 1, L, e, r =>
    match r with
    | [] => (e, r)
    | x :: r' =>
      if L = 4 ∧ isW x wIs = true ∧ hdW r' wNull = true then (node 7 [e], r'.tail)
      else match nextK x L with
        | none => (e, r)
        | some k => match anyP f (L + 1) r' with
          | none => (e, r)
          | some (s, r'') => if L = 4 then (node k [e, s], r'') else loopP f L (node k [e, s]) r''
end

/-! ### the fuel is enough -/
def enough (f L : Nat) (ts : List W) : Prop := 10 * ts.length + 10 ≤ f + L
def enoughL (f L : Nat) (r : List W) : Prop := 10 * (r.length + 1) + 9 ≤ f + L

/-- What is read takes a word at least. -/
theorem reads_len : ∀ f : Nat, (∀ ts e r, atomP f ts = some (e, r) → r.length < ts.length) ∧ (∀ L ts e r, anyP f L ts = some (e, r) → r.length < ts.length) ∧ (∀ L e r, (loopP f L e r).2.length ≤ r.length) := by
  intro f
  induction f with
  | zero =>
    refine ⟨fun ts e r h => ?_, fun L ts e r h => ?_, fun L e r => ?_⟩
    · cases ts <;> simp [atomP] at h
    · simp [anyP] at h
    · simp [loopP]
  | succ f ih =>
    obtain ⟨ihA, ihN, ihL⟩ := ih
    refine ⟨fun ts e r h => ?_, fun L ts e r h => ?_, fun L e r => ?_⟩
    · cases ts with
      | nil => simp [atomP] at h
      | cons x q =>
        rw [atomP] at h
        split at h
        · cases h; simp
        split at h
        · cases h; simp
        split at h
        · cases h; simp
        split at h
        · cases h; simp
        split at h
        · cases h; simp
        split at h
        · cases h; simp
        split at h
        · split at h
          · rename_i e' y r' he
            have := ihN _ _ _ _ he
            split at h
            · cases h; simp at this ⊢; omega
            · cases h
          · cases h
        · cases h
    · rw [anyP] at h
      split at h
      · exact ihA _ _ _ h
      split at h
      · rename_i hn
        split at h
        · rename_i k r' he
          cases h
          have := ihN _ _ _ _ he
          have h2 : ts.tail.length ≤ ts.length := by simp
          omega
        · cases h
      · split at h
        · rename_i e' r' he
          have h1 := ihN _ _ _ _ he
          have h2 := ihL L e' r'
          rw [Option.some.inj h] at h2
          have h3 : r.length ≤ r'.length := h2
          omega
        · cases h
    · cases r with
      | nil => simp [loopP]
      | cons x r' =>
        rw [loopP]
        split
        · simp; omega
        · split
          · simp
          · split
            · simp
            · rename_i s r'' he
              have h1 := ihN _ _ _ _ he
              split
              · simp only [List.length_cons]; omega
              · simp only [List.length_cons]
                exact Nat.le_trans (ihL L _ r'') (by omega)

end Go.Proofs.YtgnillmhpockkaaGreatDoor

namespace Go.Proofs.YtgnillmhpockkaaGreatDoor
open Go.ChangeShapes Go.WideShapes Go.RowKit

structure Fm where
  kids : Int
  strength : Int
  token : Int
  text : List UInt8

def formsL : List Fm := [⟨0, 7, 0, []⟩, ⟨0, 7, 0, []⟩, ⟨0, 7, 0, []⟩, ⟨0, 7, 0, wTrue⟩, ⟨0, 7, 0, wFalse⟩, ⟨0, 7, 0, wNull⟩, ⟨1, 3, 0, wNot⟩, ⟨1, 4, 0, wIs⟩, ⟨2, 2, 0, wAnd⟩, ⟨2, 1, 0, wOr⟩,
  ⟨2, 4, 4, [61]⟩, ⟨2, 4, 4, [60, 62]⟩, ⟨2, 4, 4, [60]⟩, ⟨2, 4, 4, [60, 61]⟩, ⟨2, 4, 4, [62]⟩, ⟨2, 4, 4, [62, 61]⟩, ⟨2, 5, 4, [43]⟩, ⟨2, 5, 4, [45]⟩, ⟨2, 6, 4, [42]⟩]

def Fm.d {H : Type} (f : Fm) : DataW H := .agg [.lit (.int .i64 f.kids), .lit (.int .i64 f.strength), .lit (.int .i64 f.token), .lit (.string f.text)]

theorem forms_laid : (Rows.laid_loop_example_g00751_impl_exprForms : DataW Unit) = .agg (formsL.map Fm.d) := rfl

theorem gForms : Tryz.prog.globalNamed "loop.example/g00751/impl.exprForms" = some 0 := by kernel_rfl
theorem gFormsType : (Tryz.prog.globals[0]?).map (·.type) = some 108 := by kernel_rfl
theorem cellsForms : Tryz.prog.cellsOf 108 = 76 := by kernel_rfl
theorem cellsForm : Tryz.prog.cellsOf 107 = 4 := by kernel_rfl
theorem cellsIntF : Tryz.prog.cellsOf 3 = 1 := by kernel_rfl
theorem cellsStrF : Tryz.prog.cellsOf 9 = 1 := by kernel_rfl

def fm (i : Nat) : Fm := formsL.getD i ⟨0, 0, 0, []⟩

/-- The table lies as the text lays it. -/
def FormsAt (w : World) : Prop := 0 < w.heap.size ∧ ∀ i, i < 19 →
  w.cell? ⟨0, i * 4, none⟩ = some (.int .i64 (fm i).kids) ∧ w.cell? ⟨0, i * 4 + 1, none⟩ = some (.int .i64 (fm i).strength) ∧
  w.cell? ⟨0, i * 4 + 2, none⟩ = some (.int .i64 (fm i).token) ∧ w.cell? ⟨0, i * 4 + 3, none⟩ = some (.string (txt (fm i).text))

theorem FormsAt.below {w w' : World} {B : Nat} (h : FormsAt w) (hb : Below B w w') (hB : 0 < B) : FormsAt w' := by
  refine ⟨Nat.lt_of_lt_of_le h.1 hb.size, fun i hi => ?_⟩
  obtain ⟨h0, h1, h2, h3⟩ := h.2 i hi
  have e := fun o => hb.cell (p := ⟨0, o, none⟩) hB
  exact ⟨(e _).trans h0, (e _).trans h1, (e _).trans h2, (e _).trans h3⟩

set_option maxRecDepth 100000 in
theorem form_cells {H : Type} {enc : TypeId × Value → H} {W : World} {base : Nat} {sp : Nat → Bool} {held : Bool} {fuel : Nat} {cs : List Value} {x : DataW H × List MemPlace} (h : DataW.trod enc Tryz.prog W base sp held fuel 107 cs = some x) {f : Fm} (hx : x.1 = f.d) :
    cs = [.int .i64 f.kids, .int .i64 f.strength, .int .i64 f.token, .string (txt f.text)] := by
  obtain ⟨ys, n, hn, hxe, hl, hyl, hf⟩ := DataW.trod_struct Tryz.underlying107 h
  subst hn
  rw [cellsForm] at hl
  match cs, hl with
  | [c0, c1, c2, c3], _ =>
    have hs : ys.length = 4 := hyl
    match ys, hs with
    | [y0, y1, y2, y3], _ =>
      have f0 : DataW.trod enc Tryz.prog W base sp held n 3 (([c0, c1, c2, c3].drop 0).take (Tryz.prog.cellsOf 3)) = some y0 := hf 0 _ rfl
      have f1 : DataW.trod enc Tryz.prog W base sp held n 3 (([c0, c1, c2, c3].drop 1).take (Tryz.prog.cellsOf 3)) = some y1 := hf 1 _ rfl
      have f2 : DataW.trod enc Tryz.prog W base sp held n 3 (([c0, c1, c2, c3].drop 2).take (Tryz.prog.cellsOf 3)) = some y2 := hf 2 _ rfl
      have f3 : DataW.trod enc Tryz.prog W base sp held n 9 (([c0, c1, c2, c3].drop 3).take (Tryz.prog.cellsOf 9)) = some y3 := hf 3 _ rfl
      rw [cellsIntF] at f0 f1 f2
      rw [cellsStrF] at f3
      obtain ⟨k0, e0, d0, _⟩ := DataW.trod_int Tryz.underlying3 f0
      obtain ⟨k1, e1, d1, _⟩ := DataW.trod_int Tryz.underlying3 f1
      obtain ⟨k2, e2, d2, _⟩ := DataW.trod_int Tryz.underlying3 f2
      obtain ⟨s, e3, d3, _⟩ := DataW.trod_string Tryz.underlying9 f3
      simp at e0 e1 e2 e3
      subst e0 e1 e2 e3 d0 d1 d2 d3
      rw [hxe] at hx
      simp only [List.map_cons, List.map_nil, Fm.d, DataW.agg.injEq, List.cons.injEq, DataW.lit.injEq, Lit.int.injEq, Lit.string.injEq, true_and, and_true] at hx
      obtain ⟨rfl, rfl, rfl, h3⟩ := hx
      have : s = txt f.text := by rw [← h3]; obtain ⟨⟨l⟩⟩ := s; rfl
      rw [this]

set_option maxRecDepth 100000 in
theorem formsAt_of {W : World} {rest : List (String × DataW Unit)} (h : laidMet Tryz.prog (("loop.example/g00751/impl.exprForms", Rows.laid_loop_example_g00751_impl_exprForms) :: rest) W) : FormsAt W := by
  obtain ⟨ps, hL, _, _⟩ := h
  obtain ⟨g, t, cs, fuel, p, q, h1, h2, h3, h4, _, _⟩ := hL
  obtain rfl := Option.some.inj (gForms.symm.trans h1)
  obtain rfl := Option.some.inj (gFormsType.symm.trans h2)
  obtain ⟨xs, m, hm, hx, hl, hxl, hel⟩ := DataW.trod_array Tryz.underlying108 h4
  have hd : xs.map (·.1) = formsL.map Fm.d := by
    have := congrArg Prod.fst hx
    rw [forms_laid] at this
    exact (DataW.agg.inj this).symm
  rw [cellsForms] at hl
  have hvar : ∀ o (ho : o < 76), W.cell? ⟨0, o, none⟩ = cs.toList[o]? := by
    intro o ho
    unfold World.var? at h3
    rw [gForms, Option.bind_some] at h3
    unfold World.cell?
    split at h3
    · rename_i c tt fr hb
      cases h3
      simp [hb]
    · cases h3
  have hlt : 0 < W.heap.size := by
    have h0 := hvar 0 (by omega)
    rw [List.getElem?_eq_getElem (by omega)] at h0
    exact World.block_lt_of_cell? W ⟨0, 0, none⟩ h0
  refine ⟨hlt, fun i hi => ?_⟩
  have hxi : i < xs.length := by omega
  have hfi : i < formsL.length := by have : formsL.length = 19 := rfl
                                     omega
  have he := hel i hi
  rw [cellsForm, List.getElem?_eq_getElem hxi] at he
  have hfm : fm i = formsL[i] := by unfold fm; rw [List.getD_eq_getElem?_getD, List.getElem?_eq_getElem hfi]; rfl
  have hdi : xs[i].1 = (fm i).d := by
    have : (xs.map (·.1))[i]? = (formsL.map Fm.d)[i]? := by rw [hd]
    rw [List.getElem?_map, List.getElem?_map, List.getElem?_eq_getElem hxi, List.getElem?_eq_getElem hfi] at this
    rw [hfm]
    simpa using this
  have hc := form_cells he hdi
  have at' : ∀ j, j < 4 → cs.toList[i * 4 + j]? = [Value.int .i64 (fm i).kids, .int .i64 (fm i).strength, .int .i64 (fm i).token, .string (txt (fm i).text)][j]? := by
    intro j hj
    rw [← hc, List.getElem?_take, if_pos hj, List.getElem?_drop]
  exact ⟨(hvar _ (by omega)).trans (at' 0 (by omega)), (hvar _ (by omega)).trans (at' 1 (by omega)), (hvar _ (by omega)).trans (at' 2 (by omega)), (hvar _ (by omega)).trans (at' 3 (by omega))⟩

end Go.Proofs.YtgnillmhpockkaaGreatDoor

namespace Go.Proofs.YtgnillmhpockkaaGreatDoor
open Go.RowKit

def bcells (l : List UInt8) : List Value := l.map fun b => Value.int .u8 b.toNat

def OwnB (w : World) (B : Nat) (a : Option Addr) (c : Nat) (l : List UInt8) : Prop :=
  w.ownsRow B 5 1 (.slice a l.length c) l.length (bcells l)

theorem Tryz.infoByte : (Tryz.prog.info? 5).map (fun i => (i.zero, i.size, i.bytes)) = some (some (.int .u8 0), 1, 1) := by kernel_rfl

theorem OwnB.lt {w : World} {B : Nat} {a : Option Addr} {c : Nat} {l : List UInt8} (h : OwnB w B a c l) {g : Nat} (hg : (Value.slice a l.length c).ownBlock = some g) : B ≤ g ∧ g < w.heap.size :=
  World.ownsRow.lt h g hg

theorem OwnB.below {w w' : World} {B : Nat} {a : Option Addr} {c : Nat} {l : List UInt8} (h : OwnB w B a c l) (hb : Below w.heap.size w w') : OwnB w' B a c l := by
  unfold OwnB at h ⊢
  refine ⟨h.1, ?_⟩
  rcases h.2 with h2 | ⟨g, cap, cur, hv, hB, hg, r⟩
  · exact .inl h2
  · refine .inr ⟨g, cap, cur, hv, hB, ?_, r⟩
    have : g < w.heap.size := by
      rcases Nat.lt_or_ge g w.heap.size with hlt | hge
      · exact hlt
      · rw [Array.getElem?_eq_none hge] at hg; cases hg
    rw [hb.block g this, hg]

theorem ownBEmpty (w : World) : OwnB (w.alloc (.cells #[] 5)) w.heap.size (some ⟨w.heap.size, 0, none⟩) 0 [] :=
  World.ownsRow_lit (base := w.heap.size) (e := 5) (size := 1) w #[] 0 (Nat.le_refl _) (by unfold maxLen; omega) rfl

theorem strCells_eq (s : ByteArray) : Lib.strCells s = bcells s.data.toList := rfl

/-- append of a text's bytes to a row of the call's own. -/
theorem wpAppendText {w : World} {ops : Array Oper} {rest : List Oper} {o : Oper} {A : Act} {Q : Exit → Act → World → Prop} (hgd : o.guard = none) (sl x : Operand)
    (ho : o.op = .call { callee := .builtin .append, args := #[sl, x], argTypes := #[22, 9] })
    (i0 : TypeInfo) (hi0 : Tryz.prog.info? 5 = some i0) (hz0 : i0.zero = some (.int .u8 0)) (hz1 : i0.size = 1) (hz2 : i0.bytes = 1)
    (B : Nat) (a : Option Addr) (c : Nat) (l : List UInt8) (s : ByteArray) (hs : A.eval sl = .slice a l.length c) (hown : OwnB w B a c l) (hx : A.eval x = .string s)
    (hn : l.length + s.size ≤ 140737488355328) (hB : B ≤ w.heap.size)
    (h : ∀ a' c' w', OwnB w' B a' c' (l ++ s.data.toList) → w.grownBy w' (Value.slice a l.length c).ownBlock → wpList Tryz.prog ops Q rest (A.put o.dst (.slice a' (l ++ s.data.toList).length c')) w') :
    wpList Tryz.prog ops Q (o :: rest) A w := by
  refine Lib.wpList_append_own_string _ hgd sl x 22 9 ho B 5 i0 Tryz.underlying22 Tryz.underlying9 hi0 hz0 hz1 hz2 (.slice a l.length c) l.length (bcells l) hs hown s hx (by unfold maxLen; omega) hn hB ?_
  intro v' w' hown' hg _
  have hl : s.size = s.data.toList.length := by simp
  have hf : ∃ a' c', v' = .slice a' (l.length + s.size) c' := by
    rcases hown'.2 with ⟨rfl, h0⟩ | ⟨g, cap, cur, rfl, _⟩
    · exact ⟨none, 0, by rw [h0]⟩
    · exact ⟨_, _, rfl⟩
  obtain ⟨a', c', rfl⟩ := hf
  have hb : bcells l ++ Lib.strCells s = bcells (l ++ s.data.toList) := by rw [strCells_eq]; simp [bcells]
  rw [hb] at hown'
  have := h a' c' w' (by unfold OwnB; rw [List.length_append, ← hl]; exact hown') hg
  rw [List.length_append, ← hl] at this
  exact this

theorem foldl_push (l : List UInt8) (r : ByteArray) : (l.map fun b => (b.toNat : Int)).foldl (fun r n => r.push (UInt8.ofNat n.toNat)) r = ⟨(r.data.toList ++ l).toArray⟩ := by
  induction l generalizing r with
  | nil => simp
  | cons b l ih =>
    rw [List.map_cons, List.foldl_cons, ih]
    simp [ByteArray.push]

theorem convBytes {W : World} {B : Nat} {a : Option Addr} {c : Nat} {l : List UInt8} (h : OwnB W B a c l) :
    (convert 22 9 (.slice a l.length c)).run Tryz.prog W = .ok (.string ⟨l.toArray⟩) W := by
  rw [run_convert_bytes_string W _ _ _ _ _ _ Tryz.underlying22 Tryz.underlying5 Tryz.underlying9]
  unfold OwnB at h
  rcases h.2 with ⟨hv, hn⟩ | ⟨g, cap, cur, hv, hb, hg, hnc, hcm, hcs, ht⟩
  · simp only [Value.slice.injEq] at hv
    obtain ⟨rfl, _, rfl⟩ := hv
    have : l = [] := List.eq_nil_of_length_eq_zero hn
    subst this
    simp [Conv.bytesToString]
    rfl
  · simp only [Value.slice.injEq] at hv
    obtain ⟨rfl, _, rfl⟩ := hv
    rw [run_bytesToString W ⟨g, 0, none⟩ l.length c (l.map fun b => (b.toNat : Int))]
    · rw [foldl_push]; rfl
    · have hl : l.length = (bcells l).length := by simp [bcells]
      rw [hl, run_loadCells_list (P := Tryz.prog) W ⟨g, 0, none⟩ (bcells l) (h.cells rfl)]
      simp [bcells]

end Go.Proofs.YtgnillmhpockkaaGreatDoor
