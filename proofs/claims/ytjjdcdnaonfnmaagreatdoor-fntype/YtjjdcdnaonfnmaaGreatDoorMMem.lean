/- Words for slices of texts in memory; nothing of the program but its type of texts. -/
/- Slices of words in memory. -/
/- take of a reader of words, wherever it lies: its list in the block's first cell, its place in the second. -/
/- The program's reader of statements: how it lies, what a step of it leaves; take, sign. -/
import Derived.Test.YtjjdcdnaonfnmaaGreatDoorRows
import Derived.WalkKit
import Derived.WalkLawsBesides
import Derived.WalkSpells
import Derived.Deep.QuietTactic
import Derived.BigQuiet
import Derived.Deep.LoopGhost
import Derived.Deep.AppendLies
import Derived.Deep.Draws
import Derived.Maps.AppendAt
import Derived.Laws.AppendOwnNone
import Derived.Outline
import Derived.Lib.Strings
import Derived.Lib.Hide
import Derived.Laws.OwnMore
import Derived.Deep.RegionHeld3
import Derived.Deep.Light
import Derived.Deep.Upon
namespace Go.Proofs.YtjjdcdnaonfnmaaGreatDoor
open Go.RowKit

/-- The slice (a, length of xs, c) reads as the texts xs. -/
def Strs (w : World) (a : Option Addr) (c : Nat) (xs : List ByteArray) : Prop :=
  xs.length ≤ c ∧ c ≤ maxLen ∧ (∀ s ∈ xs, s.size ≤ maxLen) ∧ (a = none → c = 0) ∧
  (0 < xs.length → ∃ b off, a = some ⟨b, off, none⟩ ∧ b < w.heap.size ∧ ∀ (i : Nat) (h : i < xs.length), w.cell? ⟨b, off + i, none⟩ = some (.string xs[i]))

theorem Strs.spot {w : World} {a : Option Addr} {c : Nat} {xs : List ByteArray} (h : Strs w a c xs) {k : Nat} (hk : k < xs.length) :
    ∃ b off, a = some ⟨b, off, none⟩ ∧ b < w.heap.size ∧ w.cell? ⟨b, off + k, none⟩ = some (.string xs[k]) := by
  obtain ⟨_, _, _, _, h4⟩ := h
  obtain ⟨b, off, ha, hb, hc⟩ := h4 (by omega)
  exact ⟨b, off, ha, hb, hc k hk⟩

theorem Strs.below {w w' : World} {a : Option Addr} {c : Nat} {xs : List ByteArray} (h : Strs w a c xs) (hb : Below w.heap.size w w') : Strs w' a c xs := by
  obtain ⟨h1, h2, h3, h3', h4⟩ := h
  refine ⟨h1, h2, h3, h3', fun hp => ?_⟩
  obtain ⟨b, off, ha, hlt, hc⟩ := h4 hp
  exact ⟨b, off, ha, Nat.lt_of_lt_of_le hlt hb.size, fun i hi => (hb.cell (p := ⟨b, off + i, none⟩) hlt).trans (hc i hi)⟩

theorem Strs.len {w : World} {a : Option Addr} {c : Nat} {xs : List ByteArray} (h : Strs w a c xs) : xs.length ≤ 9223372036854775807 := by
  have h1 := h.1
  have h2 := h.2.1
  unfold maxLen at h2
  omega

theorem Strs.text {w : World} {a : Option Addr} {c : Nat} {xs : List ByteArray} (h : Strs w a c xs) {k : Nat} (hk : k < xs.length) : xs[k].size ≤ 9223372036854775807 := by
  have h2 := h.2.2.1 xs[k] (List.getElem_mem hk)
  unfold maxLen at h2
  omega

/-- What the call itself has made: a slice of texts in blocks from B on. -/
def Own (w : World) (B : Nat) (a : Option Addr) (c : Nat) (xs : List ByteArray) : Prop :=
  w.ownsRow B 9 1 (.slice a xs.length c) xs.length (xs.map Value.string)

theorem Own.strs {w : World} {B : Nat} {a : Option Addr} {c : Nat} {xs : List ByteArray} (h : Own w B a c xs) (hs : ∀ s ∈ xs, s.size ≤ maxLen) : Strs w a c xs := by
  unfold Own at h
  rcases h.2 with ⟨hv, hn⟩ | ⟨g, cap, cur, hv, hb, hg, hnc, hcm, hcs, ht⟩
  · simp only [Value.slice.injEq] at hv
    obtain ⟨rfl, h0, rfl⟩ := hv
    exact ⟨by omega, by unfold maxLen; omega, hs, fun _ => rfl, fun hp => by omega⟩
  · simp only [Value.slice.injEq] at hv
    obtain ⟨rfl, _, rfl⟩ := hv
    refine ⟨hnc, hcm, hs, (fun h => by cases h), fun hp => ⟨g, 0, rfl, ?_, fun i hi => ?_⟩⟩
    · rcases Nat.lt_or_ge g w.heap.size with hlt | hge
      · exact hlt
      · rw [Array.getElem?_eq_none hge] at hg; cases hg
    · have := World.ownsRow.cellAt (w := w) h i (by omega)
      rw [Nat.zero_add, this, List.getElem?_map, List.getElem?_eq_getElem hi]
      rfl

theorem Own.lower {w : World} {B B' : Nat} {a : Option Addr} {c : Nat} {xs : List ByteArray} (h : Own w B a c xs) (hB : B' ≤ B) : Own w B' a c xs := by
  unfold Own at h ⊢
  refine ⟨h.1, ?_⟩
  rcases h.2 with h2 | ⟨g, cap, cur, hv, hb, r⟩
  · exact .inl h2
  · exact .inr ⟨g, cap, cur, hv, by omega, r⟩

theorem Own.below {w w' : World} {B : Nat} {a : Option Addr} {c : Nat} {xs : List ByteArray} (h : Own w B a c xs) (hb : Below w.heap.size w w') : Own w' B a c xs := by
  unfold Own at h ⊢
  refine ⟨h.1, ?_⟩
  rcases h.2 with h2 | ⟨g, cap, cur, hv, hB, hg, r⟩
  · exact .inl h2
  · refine .inr ⟨g, cap, cur, hv, hB, ?_, r⟩
    have : g < w.heap.size := by
      rcases Nat.lt_or_ge g w.heap.size with hlt | hge
      · exact hlt
      · rw [Array.getElem?_eq_none hge] at hg; cases hg
    rw [hb.block g this, hg]

theorem below_drewN {B : Nat} {a w : World} (h : Below B a w) (n : Nat) : Below B a (w.drewN n) := ⟨h.os, h.tape, h.output, h.size, h.block⟩

theorem Own.lt {w : World} {B : Nat} {a : Option Addr} {c : Nat} {xs : List ByteArray} (h : Own w B a c xs) {g : Nat} (hg : (Value.slice a xs.length c).ownBlock = some g) : B ≤ g ∧ g < w.heap.size :=
  World.ownsRow.lt h g hg

theorem Own.kept {w w' : World} {B : Nat} {a : Option Addr} {c : Nat} {xs : List ByteArray} {row : Option Nat} (h : Own w B a c xs) (hg : w.grownBy w' row)
    (hne : ∀ g, (Value.slice a xs.length c).ownBlock = some g → row ≠ some g) : Own w' B a c xs := by
  refine World.ownsRow.kept h hg ?_
  cases ho : (Value.slice a xs.length c).ownBlock with
  | none => exact .inl rfl
  | some g => exact .inr (fun e => hne g ho e.symm)

theorem Own.form {w : World} {B : Nat} {a : Option Addr} {c : Nat} {xs : List ByteArray} (h : Own w B a c xs) : (a = none ∧ c = 0 ∧ xs = []) ∨ ∃ g, a = some ⟨g, 0, none⟩ ∧ B ≤ g ∧ g < w.heap.size := by
  have hl := h
  unfold Own at h
  rcases h.2 with ⟨hv, hn⟩ | ⟨g, cap, cur, hv, hb, hg, _⟩
  · simp only [Value.slice.injEq] at hv
    exact .inl ⟨hv.1, hv.2.2, List.eq_nil_of_length_eq_zero hn⟩
  · simp only [Value.slice.injEq] at hv
    obtain ⟨rfl, _, rfl⟩ := hv
    exact .inr ⟨g, rfl, hl.lt rfl⟩

theorem Own.nil (w : World) (B : Nat) : Own w B none 0 [] := World.ownsRow_nil _ _ _ _

theorem strings_one (ys : List ByteArray) : ∀ u ∈ ys.map Value.string, u.oneCell' = true := by
  intro u hu
  obtain ⟨s, _, rfl⟩ := List.mem_map.1 hu
  rfl

set_option maxRecDepth 100000 in
/-- append of any texts to a row of the call's own. -/
theorem wpAppendStrs {w : World} {ops : Array Oper} {rest : List Oper} {o : Oper} {A : Act} {Q : Exit → Act → World → Prop} (hgd : o.guard = none) (s x : Operand)
    (ho : o.op = .call { callee := .builtin .append, args := #[s, x], argTypes := #[70, 70] })
    (i0 : TypeInfo) (hi0 : Tryz.prog.info? 9 = some i0) (hz0 : i0.zero = some (.string ByteArray.empty)) (hz1 : i0.size = 1) (hz2 : i0.bytes = 16)
    (B : Nat) (a : Option Addr) (c : Nat) (xs : List ByteArray) (a1 : Option Addr) (c1 : Nat) (ys : List ByteArray)
    (hs : A.eval s = .slice a xs.length c) (hown : Own w B a c xs) (hx : A.eval x = .slice a1 ys.length c1) (hy : Strs w a1 c1 ys)
    (hn : xs.length + ys.length ≤ 8388608) (hB : B ≤ w.heap.size)
    (h : ∀ a' c' w', Own w' B a' c' (xs ++ ys) → w.grownBy w' (Value.slice a xs.length c).ownBlock → wpList Tryz.prog ops Q rest (A.put o.dst (.slice a' (xs ++ ys).length c')) w') :
    wpList Tryz.prog ops Q (o :: rest) A w := by
  cases a1 with
  | none =>
    have hc1 : c1 = 0 := hy.2.2.2.1 rfl
    have hl : ys = [] := by
      cases ys with
      | nil => rfl
      | cons y r => obtain ⟨_, _, h0, _⟩ := hy.2.2.2.2 (by simp); cases h0
    subst hc1 hl
    refine wpList_append_own_none hgd s x 70 ho B 9 i0 1 Tryz.underlying70 hi0 (.slice a xs.length c) xs.length (xs.map Value.string) hs hown hx ?_
    have := h a c w (by simpa using hown) (World.grownBy.refl w _)
    simpa using this
  | some ad =>
    refine wpList_append_own_at _ hgd s x 70 ho B 9 i0 (.string ByteArray.empty) 1 16 Tryz.underlying70 hi0 hz0 hz1 hz2 rfl (by decide) (.slice a xs.length c) xs.length (xs.map Value.string) hs hown
      ad ys.length c1 (ys.map Value.string) hx (by simp) ?_ (strings_one ys) (by unfold maxLen; omega) (by omega) hB ?_
    · intro j u hu
      have hj : j < ys.length := by
        rcases Nat.lt_or_ge j ys.length with h | h
        · exact h
        · rw [List.getElem?_eq_none (by simpa using h)] at hu; cases hu
      obtain ⟨b, off, hb, _, hc⟩ := hy.spot hj
      cases hb
      rw [List.getElem?_map, List.getElem?_eq_getElem hj] at hu
      cases hu
      rw [← hc]
      congr 1
      unfold Addr.add
      by_cases h0 : j = 0 <;> simp [h0]
    · intro v' w' hown' hg _ _
      have hf : ∃ a' c', v' = .slice a' (xs.length + ys.length) c' := by
        rcases hown'.2 with ⟨rfl, h0⟩ | ⟨g, cap, cur, rfl, _⟩
        · exact ⟨none, 0, by rw [h0]⟩
        · exact ⟨_, _, rfl⟩
      obtain ⟨a', c', rfl⟩ := hf
      have := h a' c' w' (by unfold Own; simpa using hown') hg
      simpa using this

/-- A call answers a new slice of the texts xs. -/
def NewStrs (w : World) (xs : List ByteArray) (e : Ending) (w' : World) : Prop :=
  ∃ a c, e = .returned (.slice a xs.length c) ∧ Own w' w.heap.size a c xs ∧ Below w.heap.size w w'

/-- A call answers a value and turns nothing. -/
def Quiet (w : World) (v : Value) (e : Ending) (w' : World) : Prop := e = .returned v ∧ ∃ n, w' = w.drewN n

theorem Tryz.infoString : (Tryz.prog.info? 9).map (fun i => (i.zero, i.size, i.bytes)) = some (some (.string ByteArray.empty), 1, 16) := by kernel_rfl

end Go.Proofs.YtjjdcdnaonfnmaaGreatDoor

namespace Go.Proofs.YtjjdcdnaonfnmaaGreatDoor
open Go.RowKit

theorem bcell {W w1 : World} (hb : Below W.heap.size W w1) : (∀ b o, b < W.heap.size → w1.cell? ⟨b, o, none⟩ = W.cell? ⟨b, o, none⟩) ∧ (∀ b o, b < W.heap.size → w1.frozen? ⟨b, o, none⟩ = W.frozen? ⟨b, o, none⟩) :=
  ⟨fun b o h => hb.cell (p := ⟨b, o, none⟩) h, fun b o h => hb.frozen (p := ⟨b, o, none⟩) h⟩

theorem below_drew {B : Nat} {a w : World} (h : Below B a w) : Below B a w.drew := ⟨h.os, h.tape, h.output, h.size, h.block⟩

/-- A word as the program holds it. -/
structure Tk where
  kind : Int
  text : ByteArray
  at_ : Int

def isI64 (n : Int) : Prop := -9223372036854775808 ≤ n ∧ n ≤ 9223372036854775807

/-- The slice (a, length of xs, c) reads as the words xs. -/
def Toks (w : World) (a : Option Addr) (c : Nat) (xs : List Tk) : Prop :=
  xs.length ≤ c ∧ c ≤ maxLen ∧ (∀ x ∈ xs, isI64 x.kind ∧ x.text.size ≤ maxLen ∧ isI64 x.at_) ∧ (a = none → c = 0) ∧
  (0 < xs.length → ∃ b off, a = some ⟨b, off, none⟩ ∧ b < w.heap.size ∧ ∀ (i : Nat) (h : i < xs.length), w.cell? ⟨b, off + i * 3, none⟩ = some (.int .i64 xs[i].kind) ∧ w.cell? ⟨b, off + i * 3 + 1, none⟩ = some (.string xs[i].text) ∧ w.cell? ⟨b, off + i * 3 + 2, none⟩ = some (.int .i64 xs[i].at_))

theorem Toks.spot {w : World} {a : Option Addr} {c : Nat} {xs : List Tk} (h : Toks w a c xs) {k : Nat} (hk : k < xs.length) :
    ∃ b off, a = some ⟨b, off, none⟩ ∧ b < w.heap.size ∧ w.cell? ⟨b, off + k * 3, none⟩ = some (.int .i64 xs[k].kind) ∧ w.cell? ⟨b, off + k * 3 + 1, none⟩ = some (.string xs[k].text) ∧ w.cell? ⟨b, off + k * 3 + 2, none⟩ = some (.int .i64 xs[k].at_) := by
  obtain ⟨_, _, _, _, h4⟩ := h
  obtain ⟨b, off, ha, hb, hc⟩ := h4 (by omega)
  exact ⟨b, off, ha, hb, hc k hk⟩

theorem Toks.below {w w' : World} {a : Option Addr} {c : Nat} {xs : List Tk} (h : Toks w a c xs) (hb : Below w.heap.size w w') : Toks w' a c xs := by
  obtain ⟨h1, h2, h3, h3', h4⟩ := h
  refine ⟨h1, h2, h3, h3', fun hp => ?_⟩
  obtain ⟨b, off, ha, hlt, hc⟩ := h4 hp
  refine ⟨b, off, ha, Nat.lt_of_lt_of_le hlt hb.size, fun i hi => ?_⟩
  obtain ⟨c0, c1, c2⟩ := hc i hi
  exact ⟨(hb.cell (p := ⟨b, off + i * 3, none⟩) hlt).trans c0, (hb.cell (p := ⟨b, off + i * 3 + 1, none⟩) hlt).trans c1, (hb.cell (p := ⟨b, off + i * 3 + 2, none⟩) hlt).trans c2⟩

theorem Toks.len {w : World} {a : Option Addr} {c : Nat} {xs : List Tk} (h : Toks w a c xs) : xs.length ≤ 9223372036854775807 := by
  have h1 := h.1
  have h2 := h.2.1
  unfold maxLen at h2
  omega

theorem Toks.text {w : World} {a : Option Addr} {c : Nat} {xs : List Tk} (h : Toks w a c xs) {k : Nat} (hk : k < xs.length) : xs[k].text.size ≤ 9223372036854775807 := by
  have h2 := (h.2.2.1 xs[k] (List.getElem_mem hk)).2.1
  unfold maxLen at h2
  omega

def tcells (xs : List Tk) : List Value := xs.flatMap fun x => [.int .i64 x.kind, .string x.text, .int .i64 x.at_]

theorem tcells_length (xs : List Tk) : (tcells xs).length = xs.length * 3 := by
  induction xs with
  | nil => rfl
  | cons x r ih => rw [tcells, List.flatMap_cons, List.length_append]; unfold tcells at ih; rw [ih]; simp; omega

theorem tcells_append (xs ys : List Tk) : tcells (xs ++ ys) = tcells xs ++ tcells ys := by simp [tcells]

theorem tcells_at : ∀ (xs : List Tk) (i : Nat) (h : i < xs.length), (tcells xs)[i * 3]? = some (.int .i64 xs[i].kind) ∧ (tcells xs)[i * 3 + 1]? = some (.string xs[i].text) ∧ (tcells xs)[i * 3 + 2]? = some (.int .i64 xs[i].at_)
  | [], i, h => by simp at h
  | x :: r, 0, _ => ⟨rfl, rfl, rfl⟩
  | x :: r, i + 1, h => by
    have ih := tcells_at r i (by simpa using h)
    have e : tcells (x :: r) = [.int .i64 x.kind, .string x.text, .int .i64 x.at_] ++ tcells r := rfl
    rw [e]
    refine ⟨?_, ?_, ?_⟩
    · rw [List.getElem?_append_right (by simp; omega)]; simp only [List.length_cons, List.length_nil, List.getElem_cons_succ]; rw [show (i + 1) * 3 - (0 + 1 + 1 + 1) = i * 3 by omega]; exact ih.1
    · rw [List.getElem?_append_right (by simp; omega)]; simp only [List.length_cons, List.length_nil, List.getElem_cons_succ]; rw [show (i + 1) * 3 + 1 - (0 + 1 + 1 + 1) = i * 3 + 1 by omega]; exact ih.2.1
    · rw [List.getElem?_append_right (by simp; omega)]; simp only [List.length_cons, List.length_nil, List.getElem_cons_succ]; rw [show (i + 1) * 3 + 2 - (0 + 1 + 1 + 1) = i * 3 + 2 by omega]; exact ih.2.2

theorem tcells_set (ys : List Tk) (k : Nat) (x : Tk) (h : k < ys.length) : (((tcells ys).set (k * 3) (.int .i64 x.kind)).set (k * 3 + 1) (.string x.text)).set (k * 3 + 2) (.int .i64 x.at_) = tcells (ys.set k x) := by
  induction ys generalizing k with
  | nil => simp at h
  | cons y r ih =>
    cases k with
    | zero => rfl
    | succ k =>
      have e : ∀ z s, tcells (z :: s) = .int .i64 z.kind :: .string z.text :: .int .i64 z.at_ :: tcells s := fun _ _ => rfl
      rw [List.set_cons_succ, e, e, show (k + 1) * 3 = k * 3 + 1 + 1 + 1 by omega]
      simp only [List.set_cons_succ]
      rw [← ih k (by simpa using h)]

/-- What the call itself has made: a slice of words in blocks from B on. -/
def OwnT (w : World) (B : Nat) (a : Option Addr) (c : Nat) (xs : List Tk) : Prop :=
  w.ownsRow B 56 3 (.slice a xs.length c) xs.length (tcells xs)

def FitsT (xs : List Tk) : Prop := ∀ x ∈ xs, isI64 x.kind ∧ x.text.size ≤ maxLen ∧ isI64 x.at_

theorem OwnT.toks {w : World} {B : Nat} {a : Option Addr} {c : Nat} {xs : List Tk} (h : OwnT w B a c xs) (hs : FitsT xs) : Toks w a c xs := by
  unfold OwnT at h
  rcases h.2 with ⟨hv, hn⟩ | ⟨g, cap, cur, hv, hb, hg, hnc, hcm, hcs, ht⟩
  · simp only [Value.slice.injEq] at hv
    obtain ⟨rfl, h0, rfl⟩ := hv
    exact ⟨by omega, by unfold maxLen; omega, hs, fun _ => rfl, fun hp => by omega⟩
  · simp only [Value.slice.injEq] at hv
    obtain ⟨rfl, _, rfl⟩ := hv
    refine ⟨hnc, hcm, hs, (fun h => by cases h), fun hp => ⟨g, 0, rfl, ?_, fun i hi => ?_⟩⟩
    · rcases Nat.lt_or_ge g w.heap.size with hlt | hge
      · exact hlt
      · rw [Array.getElem?_eq_none hge] at hg; cases hg
    · obtain ⟨c0, c1, c2⟩ := tcells_at xs i hi
      refine ⟨?_, ?_, ?_⟩
      · rw [Nat.zero_add, World.ownsRow.cellAt (w := w) h (i * 3) (by omega)]; exact c0
      · rw [Nat.zero_add, World.ownsRow.cellAt (w := w) h (i * 3 + 1) (by omega)]; exact c1
      · rw [Nat.zero_add, World.ownsRow.cellAt (w := w) h (i * 3 + 2) (by omega)]; exact c2

theorem OwnT.lt {w : World} {B : Nat} {a : Option Addr} {c : Nat} {xs : List Tk} (h : OwnT w B a c xs) {g : Nat} (hg : (Value.slice a xs.length c).ownBlock = some g) : B ≤ g ∧ g < w.heap.size :=
  World.ownsRow.lt h g hg

theorem OwnT.below {w w' : World} {B : Nat} {a : Option Addr} {c : Nat} {xs : List Tk} (h : OwnT w B a c xs) (hb : Below w.heap.size w w') : OwnT w' B a c xs := by
  unfold OwnT at h ⊢
  refine ⟨h.1, ?_⟩
  rcases h.2 with h2 | ⟨g, cap, cur, hv, hB, hg, r⟩
  · exact .inl h2
  · refine .inr ⟨g, cap, cur, hv, hB, ?_, r⟩
    have : g < w.heap.size := by
      rcases Nat.lt_or_ge g w.heap.size with hlt | hge
      · exact hlt
      · rw [Array.getElem?_eq_none hge] at hg; cases hg
    rw [hb.block g this, hg]

theorem OwnT.lower {w : World} {B B' : Nat} {a : Option Addr} {c : Nat} {xs : List Tk} (h : OwnT w B a c xs) (hB : B' ≤ B) : OwnT w B' a c xs := by
  unfold OwnT at h ⊢
  refine ⟨h.1, ?_⟩
  rcases h.2 with h2 | ⟨g, cap, cur, hv, hb, r⟩
  · exact .inl h2
  · exact .inr ⟨g, cap, cur, hv, by omega, r⟩

theorem OwnT.kept {w w' : World} {B : Nat} {a : Option Addr} {c : Nat} {xs : List Tk} {row : Option Nat} (h : OwnT w B a c xs) (hg : w.grownBy w' row)
    (hne : ∀ g, (Value.slice a xs.length c).ownBlock = some g → row ≠ some g) : OwnT w' B a c xs := by
  refine World.ownsRow.kept h hg ?_
  cases ho : (Value.slice a xs.length c).ownBlock with
  | none => exact .inl rfl
  | some g => exact .inr (fun e => hne g ho e.symm)

theorem OwnT.nil (w : World) (B : Nat) : OwnT w B none 0 [] := World.ownsRow_nil _ _ _ _

/-- A call answers a new slice of the words xs. -/
def NewToks (w : World) (xs : List Tk) (e : Ending) (w' : World) : Prop :=
  ∃ a c, e = .returned (.slice a xs.length c) ∧ OwnT w' w.heap.size a c xs ∧ Below w.heap.size w w'

theorem Tryz.infoToken : (Tryz.prog.info? 56).map (fun i => (i.zero, i.size, i.bytes)) = some (some (.agg #[.int .i64 0, .string ByteArray.empty, .int .i64 0]), 3, 32) := by kernel_rfl

end Go.Proofs.YtjjdcdnaonfnmaaGreatDoor

namespace Go.Proofs.YtjjdcdnaonfnmaaGreatDoor
open Go.RowKit

/-- The word at the head is this one. -/
def hitT (l : List Tk) (at_ : Nat) (k : Int) (t : ByteArray) : Bool := match l.drop at_ with
  | x :: _ => x.kind == k && x.text.toList == t.toList
  | [] => false

def TakeP (w : World) (rb at_ : Nat) (v : Bool) (x : Ending) (w' : World) : Prop :=
  x = .returned (.bool v) ∧ ∃ n, w' = if v then (w.drewN n).setCell ⟨rb, 1, none⟩ (.int .i64 ((at_ : Int) + 1)) else w.drewN n

set_option maxRecDepth 100000 in
set_option maxHeartbeats 2000000 in
theorem rdTakeC {w : World} {rb : Nat} {a : Option Addr} {c : Nat} {l : List Tk} {at_ : Nat} (r0 : w.cell? ⟨rb, 0, none⟩ = some (.slice a l.length c)) (r1 : w.cell? ⟨rb, 1, none⟩ = some (.int .i64 (at_ : Int))) (rf : w.frozen? ⟨rb, 1, none⟩ = false) (h : Toks w a c l) (hl : l.length ≤ 1000000) (hat : at_ ≤ 2000000) (k : Int) (t : ByteArray) (v : Bool) (hv : hitT l at_ k t = v) :
    Calls Tryz.prog 88 #[.pointer (some ⟨rb, 0, none⟩), .int .i64 k, .string t] w (TakeP w rb at_ v) := by
  by_cases hlt : at_ < l.length
  · obtain ⟨b, off, rfl, hbl, t0, t1, t2⟩ := h.spot hlt
    have hd : l.drop at_ = l[at_] :: l.drop (at_ + 1) := List.drop_eq_getElem_cons hlt
    unfold hitT at hv
    rw [hd] at hv
    have hv' : (l[at_].kind == k && l[at_].text.toList == t.toList) = v := hv
    have hge : decide (l.length ≤ at_) = false := decide_eq_false (by omega)
    have hi0 : (0 : Int) ≤ (at_ : Int) := by omega
    have hi1 : (at_ : Int) < (l.length : Int) := by omega
    clear h hv hd
    generalize l[at_].kind = kk at *
    generalize l[at_].text = tt at *
    cases hk : (kk == k) with
    | false =>
      have hkn : (kk != k) = true := by simp [bne, hk]
      rw [hk] at hv'
      have hvf : v = false := hv'.symm
      subst hvf
      clear hv' hk
      go_enter Tryz.func88, Tryz.ntmps88
      go_wp2_with fail
      go_quiet (fail)
      go_wp2_with fail
      go_ret
      exact ⟨rfl, nq, rfl⟩
    | true =>
      have hkn : (kk != k) = false := by simp [bne, hk]
      rw [hk, Bool.true_and] at hv'
      cases v with
      | false =>
        have htn : (!(tt.toList == t.toList)) = true := by rw [hv']; rfl
        clear hk
        go_enter Tryz.func88, Tryz.ntmps88
        go_wp2_with fail
        go_quiet (fail)
        go_wp2_with fail
        go_ret
        exact ⟨rfl, nq, rfl⟩
      | true =>
        have htn : (!(tt.toList == t.toList)) = false := by rw [hv']; rfl
        clear hk
        go_enter Tryz.func88, Tryz.ntmps88
        go_wp2_with fail
        go_quiet (fail)
        have r1' : (w.drewN nq).cell? ⟨rb, 1, none⟩ = some (.int .i64 (at_ : Int)) := r1
        have rf' : (w.drewN nq).frozen? ⟨rb, 1, none⟩ = false := rf
        generalize hWW : w.drewN nq = W1 at r1' rf' ⊢
        go_wp2_with fail
        go_ret
        exact ⟨rfl, nq, by rw [hWW]; rfl⟩
  · have hd : l.drop at_ = [] := List.drop_eq_nil_of_le (by omega)
    unfold hitT at hv
    rw [hd] at hv
    have hvf : v = false := hv.symm
    subst hvf
    have hge : decide (l.length ≤ at_) = true := decide_eq_true (by omega)
    clear h hv hd
    go_enter Tryz.func88, Tryz.ntmps88
    go_wp2_with fail
    go_quiet (fail)
    go_wp2_with fail
    go_ret
    exact ⟨rfl, nq, rfl⟩

end Go.Proofs.YtjjdcdnaonfnmaaGreatDoor

namespace Go.Proofs.YtjjdcdnaonfnmaaGreatDoor
open Go.RowKit

theorem setG (w : World) (g j : Nat) (v : Value) : w.grownBy (w.setCell ⟨g, j, none⟩ v) (some g) :=
  ⟨rfl, rfl, rfl, by simp [World.setCell], fun k _ hne => Below.heap_setCell _ _ _ _ (fun e => hne (by rw [e]))⟩

theorem drewG (w : World) (n : Nat) (row : Option Nat) : w.grownBy (w.drewN n) row := ⟨rfl, rfl, rfl, Nat.le_refl _, fun _ _ _ => rfl⟩

theorem belowG {w w' : World} (hb : Below w.heap.size w w') (row : Option Nat) : w.grownBy w' row := ⟨hb.os, hb.tape, hb.output, hb.size, fun k hk _ => hb.block k hk⟩

theorem toksG {w w' : World} {a : Option Addr} {c : Nat} {l : List Tk} {rb : Nat} (h : Toks w a c l) (hg : w.grownBy w' (some rb)) (hne : ∀ b off, 0 < l.length → a = some ⟨b, off, none⟩ → b ≠ rb) : Toks w' a c l := by
  obtain ⟨h1, h2, h3, h4, h5⟩ := h
  refine ⟨h1, h2, h3, h4, fun hp => ?_⟩
  obtain ⟨b, off, ha, hlt, hc⟩ := h5 hp
  have e := fun o => hg.cell_far ⟨b, o, none⟩ hlt (fun e => hne b off hp ha (Option.some.inj e))
  exact ⟨b, off, ha, Nat.lt_of_lt_of_le hlt hg.size, fun i hi => ⟨(e _).trans (hc i hi).1, (e _).trans (hc i hi).2.1, (e _).trans (hc i hi).2.2⟩⟩

/-- A reader of statements in block rb stands at a place in a list of words; whether something was missing. -/
structure SR (w : World) (rb : Nat) (a : Option Addr) (c : Nat) (l : List Tk) (at_ : Nat) (m : Bool) : Prop where
  row : w.heap[rb]? = some (.cells #[.slice a l.length c, .int .i64 (at_ : Int), .bool m] 84 (0, 0))
  tok : Toks w a c l
  ne : ∀ b off, 0 < l.length → a = some ⟨b, off, none⟩ → b ≠ rb
  len : l.length ≤ 1000000
  fit : ∀ x ∈ l, x.text.size ≤ 1048576

theorem SR.cells {w : World} {rb : Nat} {a : Option Addr} {c : Nat} {l : List Tk} {at_ : Nat} {m : Bool} (h : SR w rb a c l at_ m) :
    w.cell? ⟨rb, 0, none⟩ = some (.slice a l.length c) ∧ w.cell? ⟨rb, 1, none⟩ = some (.int .i64 (at_ : Int)) ∧ w.cell? ⟨rb, 2, none⟩ = some (.bool m) ∧ w.frozen? ⟨rb, 1, none⟩ = false ∧ w.frozen? ⟨rb, 2, none⟩ = false := by
  refine ⟨by rw [cell_of_row _ _ _ _ _ _ h.row]; rfl, by rw [cell_of_row _ _ _ _ _ _ h.row]; rfl, by rw [cell_of_row _ _ _ _ _ _ h.row]; rfl, ?_, ?_⟩ <;>
  · unfold World.frozen?
    rw [h.row]
    simp

theorem SR.lt {w : World} {rb : Nat} {a : Option Addr} {c : Nat} {l : List Tk} {at_ : Nat} {m : Bool} (h : SR w rb a c l at_ m) : rb < w.heap.size := by
  rcases Nat.lt_or_ge rb w.heap.size with h' | h'
  · exact h'
  · have := h.row; rw [Array.getElem?_eq_none h'] at this; cases this

theorem SR.drewN {w : World} {rb : Nat} {a : Option Addr} {c : Nat} {l : List Tk} {at_ : Nat} {m : Bool} (h : SR w rb a c l at_ m) (n : Nat) : SR (w.drewN n) rb a c l at_ m := ⟨h.row, h.tok, h.ne, h.len, h.fit⟩

theorem SR.below {w w' : World} {rb : Nat} {a : Option Addr} {c : Nat} {l : List Tk} {at_ : Nat} {m : Bool} (h : SR w rb a c l at_ m) (hb : Below w.heap.size w w') : SR w' rb a c l at_ m :=
  ⟨(hb.block rb h.lt).trans h.row, h.tok.below hb, h.ne, h.len, h.fit⟩

theorem SR.setAt {w : World} {rb : Nat} {a : Option Addr} {c : Nat} {l : List Tk} {at_ : Nat} {m : Bool} (h : SR w rb a c l at_ m) (k : Nat) : SR (w.setCell ⟨rb, 1, none⟩ (.int .i64 (k : Int))) rb a c l k m := by
  refine ⟨?_, toksG h.tok (setG w rb 1 _) h.ne, h.ne, h.len, h.fit⟩
  show (w.heap.modify rb _)[rb]? = _
  rw [Array.getElem?_modify, if_pos rfl, h.row]
  rfl

theorem SR.setM {w : World} {rb : Nat} {a : Option Addr} {c : Nat} {l : List Tk} {at_ : Nat} {m : Bool} (h : SR w rb a c l at_ m) (k : Bool) : SR (w.setCell ⟨rb, 2, none⟩ (.bool k)) rb a c l at_ k := by
  refine ⟨?_, toksG h.tok (setG w rb 2 _) h.ne, h.ne, h.len, h.fit⟩
  show (w.heap.modify rb _)[rb]? = _
  rw [Array.getElem?_modify, if_pos rfl, h.row]
  rfl

/-- What a step of the reader leaves. -/
structure SSt (w : World) (rb : Nat) (a : Option Addr) (c : Nat) (l : List Tk) (at_ : Nat) (m : Bool) (w' : World) : Prop where
  rd : SR w' rb a c l at_ m
  gr : w.grownBy w' (some rb)

theorem SSt.refl {w : World} {rb : Nat} {a : Option Addr} {c : Nat} {l : List Tk} {at_ : Nat} {m : Bool} (h : SR w rb a c l at_ m) : SSt w rb a c l at_ m w := ⟨h, ⟨rfl, rfl, rfl, Nat.le_refl _, fun _ _ _ => rfl⟩⟩
theorem SSt.trans {w w1 w2 : World} {rb : Nat} {a : Option Addr} {c : Nat} {l : List Tk} {at_ k : Nat} {m n : Bool} (h : SSt w rb a c l at_ m w1) (h' : SSt w1 rb a c l k n w2) : SSt w rb a c l k n w2 := ⟨h'.rd, h.gr.trans h'.gr⟩
theorem SSt.drewN {w w1 : World} {rb : Nat} {a : Option Addr} {c : Nat} {l : List Tk} {at_ : Nat} {m : Bool} (h : SSt w rb a c l at_ m w1) (n : Nat) : SSt w rb a c l at_ m (w1.drewN n) := ⟨h.rd.drewN n, h.gr.trans (drewG _ n _)⟩
theorem SSt.setAt {w w1 : World} {rb : Nat} {a : Option Addr} {c : Nat} {l : List Tk} {at_ : Nat} {m : Bool} (h : SSt w rb a c l at_ m w1) (k : Nat) : SSt w rb a c l k m (w1.setCell ⟨rb, 1, none⟩ (.int .i64 (k : Int))) := ⟨h.rd.setAt k, h.gr.trans (setG _ _ _ _)⟩
theorem SSt.setM {w w1 : World} {rb : Nat} {a : Option Addr} {c : Nat} {l : List Tk} {at_ : Nat} {m : Bool} (h : SSt w rb a c l at_ m w1) (k : Bool) : SSt w rb a c l at_ k (w1.setCell ⟨rb, 2, none⟩ (.bool k)) := ⟨h.rd.setM k, h.gr.trans (setG _ _ _ _)⟩
theorem SSt.below {w w1 w2 : World} {rb : Nat} {a : Option Addr} {c : Nat} {l : List Tk} {at_ : Nat} {m : Bool} (h : SSt w rb a c l at_ m w1) (hb : Below w1.heap.size w1 w2) : SSt w rb a c l at_ m w2 := ⟨h.rd.below hb, h.gr.trans (belowG hb _)⟩

/-- What take leaves of a reader of statements. -/
def STake (w : World) (rb : Nat) (a : Option Addr) (c : Nat) (l : List Tk) (i : Nat) (m v : Bool) (x : Ending) (w' : World) : Prop :=
  x = .returned (.bool v) ∧ SSt w rb a c l (if v then i + 1 else i) m w'

theorem stTake {w : World} {rb : Nat} {a : Option Addr} {c : Nat} {l : List Tk} {i : Nat} {m : Bool} (h : SR w rb a c l i m) (hi : i ≤ 2000000) (k : Int) (t : ByteArray) (v : Bool) (hv : hitT l i k t = v) :
    Calls Tryz.prog 88 #[.pointer (some ⟨rb, 0, none⟩), .int .i64 k, .string t] w (STake w rb a c l i m v) := by
  obtain ⟨c0, c1, _, f1, _⟩ := h.cells
  refine (rdTakeC c0 c1 f1 h.tok h.len hi k t v hv).mono ?_
  rintro x w' ⟨rfl, n, rfl⟩
  refine ⟨rfl, ?_⟩
  cases v with
  | true => exact ((SSt.refl h).drewN n).setAt (i + 1)
  | false => exact (SSt.refl h).drewN n

end Go.Proofs.YtjjdcdnaonfnmaaGreatDoor
