/- Words for slices of texts in memory; nothing of the program but its type of texts. -/
/- Expressions: trees, how they lie in memory. -/
/- Expressions in memory: rows of expressions, trees in new blocks. -/
/- How many letters a list of texts has. -/
/- The laws' own helpers over slices of texts: the size that is left, the copy, the equality. -/
/- Lists of structures in memory, told once for all: how cells read, what keeps them, how rows of them are copied. -/
/- Types: how a value of the document's Type is laid; its equality; Turns of the program and of the model. -/
import Derived.Test.YtjjdcdnaonfnmaaGreatRows
import Derived.WalkKit
import Derived.WalkLawsBesides
import Derived.WalkSpells
import Derived.Deep.QuietTactic
import Derived.BigQuiet
import Derived.Deep.LoopGhost
import Derived.Deep.AppendLies
import Derived.Deep.Draws
import Derived.Maps.AppendAt
import Derived.Laws.AppendOwnNone
import Derived.Outline
import Derived.Lib.Strings
import Derived.Lib.Hide
import Derived.Laws.OwnMore
import Derived.Laws.StructEq
namespace Go.Proofs.YtjjdcdnaonfnmaaGreat
open Go.RowKit

/-- The slice (a, length of xs, c) reads as the texts xs. -/
def Strs (w : World) (a : Option Addr) (c : Nat) (xs : List ByteArray) : Prop :=
  xs.length ≤ c ∧ c ≤ maxLen ∧ (∀ s ∈ xs, s.size ≤ maxLen) ∧ (a = none → c = 0) ∧
  (0 < xs.length → ∃ b off, a = some ⟨b, off, none⟩ ∧ b < w.heap.size ∧ ∀ (i : Nat) (h : i < xs.length), w.cell? ⟨b, off + i, none⟩ = some (.string xs[i]))

theorem Strs.spot {w : World} {a : Option Addr} {c : Nat} {xs : List ByteArray} (h : Strs w a c xs) {k : Nat} (hk : k < xs.length) :
    ∃ b off, a = some ⟨b, off, none⟩ ∧ b < w.heap.size ∧ w.cell? ⟨b, off + k, none⟩ = some (.string xs[k]) := by
  obtain ⟨_, _, _, _, h4⟩ := h
  obtain ⟨b, off, ha, hb, hc⟩ := h4 (by omega)
  exact ⟨b, off, ha, hb, hc k hk⟩

theorem Strs.below {w w' : World} {a : Option Addr} {c : Nat} {xs : List ByteArray} (h : Strs w a c xs) (hb : Below w.heap.size w w') : Strs w' a c xs := by
  obtain ⟨h1, h2, h3, h3', h4⟩ := h
  refine ⟨h1, h2, h3, h3', fun hp => ?_⟩
  obtain ⟨b, off, ha, hlt, hc⟩ := h4 hp
  exact ⟨b, off, ha, Nat.lt_of_lt_of_le hlt hb.size, fun i hi => (hb.cell (p := ⟨b, off + i, none⟩) hlt).trans (hc i hi)⟩

theorem Strs.len {w : World} {a : Option Addr} {c : Nat} {xs : List ByteArray} (h : Strs w a c xs) : xs.length ≤ 9223372036854775807 := by
  have h1 := h.1
  have h2 := h.2.1
  unfold maxLen at h2
  omega

theorem Strs.text {w : World} {a : Option Addr} {c : Nat} {xs : List ByteArray} (h : Strs w a c xs) {k : Nat} (hk : k < xs.length) : xs[k].size ≤ 9223372036854775807 := by
  have h2 := h.2.2.1 xs[k] (List.getElem_mem hk)
  unfold maxLen at h2
  omega

/-- What the call itself has made: a slice of texts in blocks from B on. -/
def Own (w : World) (B : Nat) (a : Option Addr) (c : Nat) (xs : List ByteArray) : Prop :=
  w.ownsRow B 9 1 (.slice a xs.length c) xs.length (xs.map Value.string)

theorem Own.strs {w : World} {B : Nat} {a : Option Addr} {c : Nat} {xs : List ByteArray} (h : Own w B a c xs) (hs : ∀ s ∈ xs, s.size ≤ maxLen) : Strs w a c xs := by
  unfold Own at h
  rcases h.2 with ⟨hv, hn⟩ | ⟨g, cap, cur, hv, hb, hg, hnc, hcm, hcs, ht⟩
  · simp only [Value.slice.injEq] at hv
    obtain ⟨rfl, h0, rfl⟩ := hv
    exact ⟨by omega, by unfold maxLen; omega, hs, fun _ => rfl, fun hp => by omega⟩
  · simp only [Value.slice.injEq] at hv
    obtain ⟨rfl, _, rfl⟩ := hv
    refine ⟨hnc, hcm, hs, (fun h => by cases h), fun hp => ⟨g, 0, rfl, ?_, fun i hi => ?_⟩⟩
    · rcases Nat.lt_or_ge g w.heap.size with hlt | hge
      · exact hlt
      · rw [Array.getElem?_eq_none hge] at hg; cases hg
    · have := World.ownsRow.cellAt (w := w) h i (by omega)
      rw [Nat.zero_add, this, List.getElem?_map, List.getElem?_eq_getElem hi]
      rfl

theorem Own.lower {w : World} {B B' : Nat} {a : Option Addr} {c : Nat} {xs : List ByteArray} (h : Own w B a c xs) (hB : B' ≤ B) : Own w B' a c xs := by
  unfold Own at h ⊢
  refine ⟨h.1, ?_⟩
  rcases h.2 with h2 | ⟨g, cap, cur, hv, hb, r⟩
  · exact .inl h2
  · exact .inr ⟨g, cap, cur, hv, by omega, r⟩

theorem Own.below {w w' : World} {B : Nat} {a : Option Addr} {c : Nat} {xs : List ByteArray} (h : Own w B a c xs) (hb : Below w.heap.size w w') : Own w' B a c xs := by
  unfold Own at h ⊢
  refine ⟨h.1, ?_⟩
  rcases h.2 with h2 | ⟨g, cap, cur, hv, hB, hg, r⟩
  · exact .inl h2
  · refine .inr ⟨g, cap, cur, hv, hB, ?_, r⟩
    have : g < w.heap.size := by
      rcases Nat.lt_or_ge g w.heap.size with hlt | hge
      · exact hlt
      · rw [Array.getElem?_eq_none hge] at hg; cases hg
    rw [hb.block g this, hg]

theorem below_drewN {B : Nat} {a w : World} (h : Below B a w) (n : Nat) : Below B a (w.drewN n) := ⟨h.os, h.tape, h.output, h.size, h.block⟩

theorem Own.lt {w : World} {B : Nat} {a : Option Addr} {c : Nat} {xs : List ByteArray} (h : Own w B a c xs) {g : Nat} (hg : (Value.slice a xs.length c).ownBlock = some g) : B ≤ g ∧ g < w.heap.size :=
  World.ownsRow.lt h g hg

theorem Own.kept {w w' : World} {B : Nat} {a : Option Addr} {c : Nat} {xs : List ByteArray} {row : Option Nat} (h : Own w B a c xs) (hg : w.grownBy w' row)
    (hne : ∀ g, (Value.slice a xs.length c).ownBlock = some g → row ≠ some g) : Own w' B a c xs := by
  refine World.ownsRow.kept h hg ?_
  cases ho : (Value.slice a xs.length c).ownBlock with
  | none => exact .inl rfl
  | some g => exact .inr (fun e => hne g ho e.symm)

theorem Own.form {w : World} {B : Nat} {a : Option Addr} {c : Nat} {xs : List ByteArray} (h : Own w B a c xs) : (a = none ∧ c = 0 ∧ xs = []) ∨ ∃ g, a = some ⟨g, 0, none⟩ ∧ B ≤ g ∧ g < w.heap.size := by
  have hl := h
  unfold Own at h
  rcases h.2 with ⟨hv, hn⟩ | ⟨g, cap, cur, hv, hb, hg, _⟩
  · simp only [Value.slice.injEq] at hv
    exact .inl ⟨hv.1, hv.2.2, List.eq_nil_of_length_eq_zero hn⟩
  · simp only [Value.slice.injEq] at hv
    obtain ⟨rfl, _, rfl⟩ := hv
    exact .inr ⟨g, rfl, hl.lt rfl⟩

theorem Own.nil (w : World) (B : Nat) : Own w B none 0 [] := World.ownsRow_nil _ _ _ _

theorem strings_one (ys : List ByteArray) : ∀ u ∈ ys.map Value.string, u.oneCell' = true := by
  intro u hu
  obtain ⟨s, _, rfl⟩ := List.mem_map.1 hu
  rfl

set_option maxRecDepth 100000 in
/-- append of any texts to a row of the call's own. -/
theorem wpAppendStrs {w : World} {ops : Array Oper} {rest : List Oper} {o : Oper} {A : Act} {Q : Exit → Act → World → Prop} (hgd : o.guard = none) (s x : Operand)
    (ho : o.op = .call { callee := .builtin .append, args := #[s, x], argTypes := #[30, 30] })
    (i0 : TypeInfo) (hi0 : Tryz.prog.info? 9 = some i0) (hz0 : i0.zero = some (.string ByteArray.empty)) (hz1 : i0.size = 1) (hz2 : i0.bytes = 16)
    (B : Nat) (a : Option Addr) (c : Nat) (xs : List ByteArray) (a1 : Option Addr) (c1 : Nat) (ys : List ByteArray)
    (hs : A.eval s = .slice a xs.length c) (hown : Own w B a c xs) (hx : A.eval x = .slice a1 ys.length c1) (hy : Strs w a1 c1 ys)
    (hn : xs.length + ys.length ≤ 8388608) (hB : B ≤ w.heap.size)
    (h : ∀ a' c' w', Own w' B a' c' (xs ++ ys) → w.grownBy w' (Value.slice a xs.length c).ownBlock → wpList Tryz.prog ops Q rest (A.put o.dst (.slice a' (xs ++ ys).length c')) w') :
    wpList Tryz.prog ops Q (o :: rest) A w := by
  cases a1 with
  | none =>
    have hc1 : c1 = 0 := hy.2.2.2.1 rfl
    have hl : ys = [] := by
      cases ys with
      | nil => rfl
      | cons y r => obtain ⟨_, _, h0, _⟩ := hy.2.2.2.2 (by simp); cases h0
    subst hc1 hl
    refine wpList_append_own_none hgd s x 30 ho B 9 i0 1 Tryz.underlying30 hi0 (.slice a xs.length c) xs.length (xs.map Value.string) hs hown hx ?_
    have := h a c w (by simpa using hown) (World.grownBy.refl w _)
    simpa using this
  | some ad =>
    refine wpList_append_own_at _ hgd s x 30 ho B 9 i0 (.string ByteArray.empty) 1 16 Tryz.underlying30 hi0 hz0 hz1 hz2 rfl (by decide) (.slice a xs.length c) xs.length (xs.map Value.string) hs hown
      ad ys.length c1 (ys.map Value.string) hx (by simp) ?_ (strings_one ys) (by unfold maxLen; omega) (by omega) hB ?_
    · intro j u hu
      have hj : j < ys.length := by
        rcases Nat.lt_or_ge j ys.length with h | h
        · exact h
        · rw [List.getElem?_eq_none (by simpa using h)] at hu; cases hu
      obtain ⟨b, off, hb, _, hc⟩ := hy.spot hj
      cases hb
      rw [List.getElem?_map, List.getElem?_eq_getElem hj] at hu
      cases hu
      rw [← hc]
      congr 1
      unfold Addr.add
      by_cases h0 : j = 0 <;> simp [h0]
    · intro v' w' hown' hg _ _
      have hf : ∃ a' c', v' = .slice a' (xs.length + ys.length) c' := by
        rcases hown'.2 with ⟨rfl, h0⟩ | ⟨g, cap, cur, rfl, _⟩
        · exact ⟨none, 0, by rw [h0]⟩
        · exact ⟨_, _, rfl⟩
      obtain ⟨a', c', rfl⟩ := hf
      have := h a' c' w' (by unfold Own; simpa using hown') hg
      simpa using this

/-- A call answers a new slice of the texts xs. -/
def NewStrs (w : World) (xs : List ByteArray) (e : Ending) (w' : World) : Prop :=
  ∃ a c, e = .returned (.slice a xs.length c) ∧ Own w' w.heap.size a c xs ∧ Below w.heap.size w w'

/-- A call answers a value and turns nothing. -/
def Quiet (w : World) (v : Value) (e : Ending) (w' : World) : Prop := e = .returned v ∧ ∃ n, w' = w.drewN n

theorem Tryz.infoString : (Tryz.prog.info? 9).map (fun i => (i.zero, i.size, i.bytes)) = some (some (.string ByteArray.empty), 1, 16) := by kernel_rfl

end Go.Proofs.YtjjdcdnaonfnmaaGreat

namespace Go.Proofs.YtjjdcdnaonfnmaaGreat
open Go.RowKit

/-- An expression as the program holds it. -/
inductive Ex where
  | mk (kind : Int) (text : ByteArray) (num : Int) (kids : List Ex)

def Ex.kind : Ex → Int | .mk k _ _ _ => k
def Ex.text : Ex → ByteArray | .mk _ t _ _ => t
def Ex.num : Ex → Int | .mk _ _ n _ => n
def Ex.kids : Ex → List Ex | .mk _ _ _ l => l

def Ex.v (e : Ex) (a : Option Addr) (c : Nat) : Value := .agg #[.int .i64 e.kind, .string e.text, .int .i64 e.num, .slice a e.kids.length c]

def i64E (n : Int) : Prop := -9223372036854775808 ≤ n ∧ n ≤ 9223372036854775807
def Ex.fit (e : Ex) : Prop := e.text.size ≤ maxLen ∧ i64E e.kind ∧ i64E e.num

/-- One expression lies at the cells from ⟨b, o⟩ on; P says of its kids' slice. -/
def At1 (w : World) (b o : Nat) (e : Ex) (P : Option Addr → Nat → Prop) : Prop :=
  w.cell? ⟨b, o, none⟩ = some (.int .i64 e.kind) ∧ w.cell? ⟨b, o + 1, none⟩ = some (.string e.text) ∧ w.cell? ⟨b, o + 2, none⟩ = some (.int .i64 e.num) ∧ e.fit ∧
  ∃ a c, w.cell? ⟨b, o + 3, none⟩ = some (.slice a e.kids.length c) ∧ P a c

/-- The slice (a, length of kids, c) reads as the expressions kids, no deeper than d. -/
def KidsAt (w : World) : Nat → Option Addr → Nat → List Ex → Prop
  | 0, _, _, _ => False
  | d + 1, a, c, kids => kids.length ≤ c ∧ c ≤ maxLen ∧ (a = none → c = 0) ∧
    (0 < kids.length → ∃ b off, a = some ⟨b, off, none⟩ ∧ b < w.heap.size ∧ ∀ (i : Nat) (h : i < kids.length), At1 w b (off + i * 4) kids[i] (fun a' c' => KidsAt w d a' c' kids[i].kids))

theorem At1.mono {w : World} {b o : Nat} {e : Ex} {P Q : Option Addr → Nat → Prop} (h : At1 w b o e P) (hpq : ∀ a c, P a c → Q a c) : At1 w b o e Q := by
  obtain ⟨h1, h2, h3, h4, a, c, h5, h6⟩ := h
  exact ⟨h1, h2, h3, h4, a, c, h5, hpq a c h6⟩

theorem KidsAt.below {w w' : World} (hb : Below w.heap.size w w') : ∀ {d : Nat} {a : Option Addr} {c : Nat} {kids : List Ex}, KidsAt w d a c kids → KidsAt w' d a c kids
  | 0, _, _, _, h => h
  | d + 1, a, c, kids, h => by
    obtain ⟨h1, h2, h3, h4⟩ := h
    refine ⟨h1, h2, h3, fun hp => ?_⟩
    obtain ⟨b, off, ha, hlt, hc⟩ := h4 hp
    refine ⟨b, off, ha, Nat.lt_of_lt_of_le hlt hb.size, fun i hi => ?_⟩
    obtain ⟨c1, c2, c3, hf, a', c', c4, hk⟩ := hc i hi
    have e : ∀ o, w'.cell? ⟨b, o, none⟩ = w.cell? ⟨b, o, none⟩ := fun o => hb.cell (p := ⟨b, o, none⟩) hlt
    exact ⟨(e _).trans c1, (e _).trans c2, (e _).trans c3, hf, a', c', (e _).trans c4, KidsAt.below hb hk⟩

theorem KidsAt.len {w : World} {d : Nat} {a : Option Addr} {c : Nat} {kids : List Ex} (h : KidsAt w d a c kids) : kids.length ≤ 9223372036854775807 := by
  cases d with
  | zero => exact h.elim
  | succ d => have h1 := h.1; have h2 := h.2.1; unfold maxLen at h2; omega

theorem KidsAt.spot {w : World} {d : Nat} {a : Option Addr} {c : Nat} {kids : List Ex} (h : KidsAt w (d + 1) a c kids) {i : Nat} (hi : i < kids.length) :
    ∃ b off, a = some ⟨b, off, none⟩ ∧ b < w.heap.size ∧ At1 w b (off + i * 4) kids[i] (fun a' c' => KidsAt w d a' c' kids[i].kids) := by
  obtain ⟨_, _, _, h4⟩ := h
  obtain ⟨b, off, ha, hlt, hc⟩ := h4 (by omega)
  exact ⟨b, off, ha, hlt, hc i hi⟩

theorem KidsAt.mono {w : World} : ∀ {d d' : Nat} {a : Option Addr} {c : Nat} {kids : List Ex}, d ≤ d' → KidsAt w d a c kids → KidsAt w d' a c kids
  | 0, _, _, _, _, _, h => h.elim
  | d + 1, 0, _, _, _, hd, _ => by omega
  | d + 1, d' + 1, a, c, kids, hd, h => by
    obtain ⟨h1, h2, h3, h4⟩ := h
    refine ⟨h1, h2, h3, fun hp => ?_⟩
    obtain ⟨b, off, ha, hlt, hc⟩ := h4 hp
    exact ⟨b, off, ha, hlt, fun i hi => (hc i hi).mono fun a' c' hk => KidsAt.mono (by omega) hk⟩

mutual
/-- What the laws' measure counts: letters and kids. -/
def Ex.wt : Ex → Nat
  | .mk _ t _ kids => t.size + (kids.length + wtL kids)
def wtL : List Ex → Nat
  | [] => 0
  | e :: r => e.wt + wtL r
end

theorem Ex.wt_eq (e : Ex) : e.wt = e.text.size + (e.kids.length + wtL e.kids) := by
  cases e; rw [Ex.wt]; rfl

mutual
def Ex.nodes : Ex → Nat
  | .mk _ _ _ kids => 1 + nodesL kids
def nodesL : List Ex → Nat
  | [] => 0
  | e :: r => e.nodes + nodesL r
end

theorem Ex.nodes_eq (e : Ex) : e.nodes = 1 + nodesL e.kids := by
  cases e; rw [Ex.nodes]; rfl

theorem wtL_take (l : List Ex) (k : Nat) (h : k < l.length) : wtL (l.take (k + 1)) = wtL (l.take k) + l[k].wt := by
  induction l generalizing k with
  | nil => simp at h
  | cons e r ih =>
    cases k with
    | zero => simp [wtL]
    | succ k =>
      simp only [List.take_succ_cons, wtL, List.getElem_cons_succ]
      rw [ih k (by simpa using h)]
      omega

theorem wtL_mono (l : List Ex) (k : Nat) : wtL (l.take k) ≤ wtL l := by
  induction l generalizing k with
  | nil => simp
  | cons e r ih =>
    cases k with
    | zero => simp [wtL]
    | succ k => simp only [List.take_succ_cons, wtL]; have := ih k; omega

theorem nodesL_take (l : List Ex) (k : Nat) (h : k < l.length) : nodesL (l.take (k + 1)) = nodesL (l.take k) + l[k].nodes := by
  induction l generalizing k with
  | nil => simp at h
  | cons e r ih =>
    cases k with
    | zero => simp [nodesL]
    | succ k =>
      simp only [List.take_succ_cons, nodesL, List.getElem_cons_succ]
      rw [ih k (by simpa using h)]
      omega

mutual
theorem nodes_wt : (e : Ex) → e.nodes ≤ 1 + e.wt
  | .mk _ t _ kids => by rw [Ex.nodes, Ex.wt]; have := nodesL_wt kids; omega
theorem nodesL_wt : (l : List Ex) → nodesL l ≤ l.length + wtL l
  | [] => by simp [nodesL]
  | e :: r => by rw [nodesL, wtL, List.length_cons]; have := nodes_wt e; have := nodesL_wt r; omega
end

end Go.Proofs.YtjjdcdnaonfnmaaGreat

namespace Go.Proofs.YtjjdcdnaonfnmaaGreat
open Go.RowKit

theorem bcellE {W w1 : World} (hb : Below W.heap.size W w1) : (∀ b o, b < W.heap.size → w1.cell? ⟨b, o, none⟩ = W.cell? ⟨b, o, none⟩) ∧ (∀ b o, b < W.heap.size → w1.frozen? ⟨b, o, none⟩ = W.frozen? ⟨b, o, none⟩) :=
  ⟨fun b o h => hb.cell (p := ⟨b, o, none⟩) h, fun b o h => hb.frozen (p := ⟨b, o, none⟩) h⟩

/-- An expression with the slice of its kids. -/
structure Es where
  e : Ex
  a : Option Addr
  c : Nat

def Es.k (x : Es) : Value := .int .i64 x.e.kind
def Es.t (x : Es) : Value := .string x.e.text
def Es.n (x : Es) : Value := .int .i64 x.e.num
def Es.s (x : Es) : Value := .slice x.a x.e.kids.length x.c
def es0 : Es := ⟨.mk 0 ByteArray.empty 0 [], none, 0⟩

def ecells (xs : List Es) : List Value := xs.flatMap fun x => [x.k, x.t, x.n, x.s]

theorem ecells_length (xs : List Es) : (ecells xs).length = xs.length * 4 := by
  induction xs with
  | nil => rfl
  | cons x r ih => rw [ecells, List.flatMap_cons, List.length_append]; unfold ecells at ih; rw [ih]; simp; omega

theorem ecells_append (xs ys : List Es) : ecells (xs ++ ys) = ecells xs ++ ecells ys := by simp [ecells]

theorem ecells_at : ∀ (xs : List Es) (i : Nat) (h : i < xs.length), (ecells xs)[i * 4]? = some xs[i].k ∧ (ecells xs)[i * 4 + 1]? = some xs[i].t ∧ (ecells xs)[i * 4 + 2]? = some xs[i].n ∧ (ecells xs)[i * 4 + 3]? = some xs[i].s
  | [], i, h => by simp at h
  | x :: r, 0, _ => ⟨rfl, rfl, rfl, rfl⟩
  | x :: r, i + 1, h => by
    have ih := ecells_at r i (by simpa using h)
    have e : ecells (x :: r) = [x.k, x.t, x.n, x.s] ++ ecells r := rfl
    rw [e]
    refine ⟨?_, ?_, ?_, ?_⟩
    · rw [List.getElem?_append_right (by simp; omega)]; simp only [List.length_cons, List.length_nil, List.getElem_cons_succ]; rw [show (i + 1) * 4 - (0 + 1 + 1 + 1 + 1) = i * 4 by omega]; exact ih.1
    · rw [List.getElem?_append_right (by simp; omega)]; simp only [List.length_cons, List.length_nil, List.getElem_cons_succ]; rw [show (i + 1) * 4 + 1 - (0 + 1 + 1 + 1 + 1) = i * 4 + 1 by omega]; exact ih.2.1
    · rw [List.getElem?_append_right (by simp; omega)]; simp only [List.length_cons, List.length_nil, List.getElem_cons_succ]; rw [show (i + 1) * 4 + 2 - (0 + 1 + 1 + 1 + 1) = i * 4 + 2 by omega]; exact ih.2.2.1
    · rw [List.getElem?_append_right (by simp; omega)]; simp only [List.length_cons, List.length_nil, List.getElem_cons_succ]; rw [show (i + 1) * 4 + 3 - (0 + 1 + 1 + 1 + 1) = i * 4 + 3 by omega]; exact ih.2.2.2

theorem ecells_set (ys : List Es) (k : Nat) (x : Es) (h : k < ys.length) : ((((ecells ys).set (k * 4) x.k).set (k * 4 + 1) x.t).set (k * 4 + 2) x.n).set (k * 4 + 3) x.s = ecells (ys.set k x) := by
  induction ys generalizing k with
  | nil => simp at h
  | cons y r ih =>
    cases k with
    | zero => rfl
    | succ k =>
      have e : ∀ (z : Es) s, ecells (z :: s) = z.k :: z.t :: z.n :: z.s :: ecells s := fun _ _ => rfl
      rw [List.set_cons_succ, e, e, show (k + 1) * 4 = k * 4 + 1 + 1 + 1 + 1 by omega]
      simp only [List.set_cons_succ]
      rw [← ih k (by simpa using h)]

/-- The expressions put so far, then empty ones. -/
def efill (xs : List Es) (n : Nat) : List Value := ecells (xs ++ List.replicate (n - xs.length) es0)

theorem efill_set (xs : List Es) (n : Nat) (x : Es) (h : xs.length < n) : (((((efill xs n).set (xs.length * 4) x.k).set (xs.length * 4 + 1) x.t).set (xs.length * 4 + 2) x.n).set (xs.length * 4 + 3) x.s) = efill (xs ++ [x]) n := by
  unfold efill
  rw [ecells_set _ xs.length x (by simp; omega), List.set_append_right _ _ (Nat.le_refl _), Nat.sub_self, show n - xs.length = (n - (xs ++ [x]).length) + 1 by simp; omega, List.replicate_succ, List.set_cons_zero, List.append_assoc]
  rfl

theorem efill_at (xs : List Es) (n : Nat) (h : xs.length < n) : (efill xs n)[xs.length * 4]? = some (.int .i64 0) ∧ (efill xs n)[xs.length * 4 + 1]? = some (.string ByteArray.empty) ∧ (efill xs n)[xs.length * 4 + 2]? = some (.int .i64 0) ∧ (efill xs n)[xs.length * 4 + 3]? = some (.slice none 0 0) := by
  unfold efill
  have h0 := ecells_at (xs ++ List.replicate (n - xs.length) es0) xs.length (by simp; omega)
  have hx : (xs ++ List.replicate (n - xs.length) es0)[xs.length]'(by simp; omega) = es0 := by
    rw [List.getElem_append_right (Nat.le_refl _)]; simp
  rw [hx] at h0
  exact h0

theorem efill_all (xs : List Es) : efill xs xs.length = ecells xs := by simp [efill]

theorem ecells_none (n : Nat) : ecells (List.replicate n es0) = (madeCells #[.int .i64 0, .string ByteArray.empty, .int .i64 0, .slice none 0 0] (n * 4)).toList := by
  apply List.ext_getElem?
  intro j
  by_cases hj : j < n * 4
  · have hq : j / 4 < n := by omega
    have := ecells_at (List.replicate n es0) (j / 4) (by simpa using hq)
    simp only [List.getElem_replicate] at this
    have hm : j % 4 = 0 ∨ j % 4 = 1 ∨ j % 4 = 2 ∨ j % 4 = 3 := by omega
    have hm3 : ∀ i, j / 4 * 4 + i < n * 4 → (madeCells #[Value.int .i64 0, .string ByteArray.empty, .int .i64 0, .slice none 0 0] (n * 4)).toList[j / 4 * 4 + i]? = #[Value.int .i64 0, .string ByteArray.empty, .int .i64 0, .slice none 0 0][i % 4]? := by
      intro i hi
      have e : (j / 4 * 4 + i) % 4 = i % 4 := by omega
      have h3 : i % 4 < [Value.int .i64 0, .string ByteArray.empty, .int .i64 0, .slice none 0 0].length := by simp; omega
      simp [madeCells, hi, e]
      rw [List.getElem?_eq_getElem h3]
      rfl
    rcases hm with hm | hm | hm | hm
    · have hj' : j / 4 * 4 + 0 = j := by omega
      rw [← hj', hm3 0 (by omega)]; exact this.1
    · have hj' : j / 4 * 4 + 1 = j := by omega
      rw [← hj', hm3 1 (by omega)]; exact this.2.1
    · have hj' : j / 4 * 4 + 2 = j := by omega
      rw [← hj', hm3 2 (by omega)]; exact this.2.2.1
    · have hj' : j / 4 * 4 + 3 = j := by omega
      rw [← hj', hm3 3 (by omega)]; exact this.2.2.2
  · rw [List.getElem?_eq_none (by rw [ecells_length]; simpa using hj), List.getElem?_eq_none (by simp [madeCells]; omega)]

/-- As KidsAt, and every block of the tree is one from lo on. -/
def KidsB (lo : Nat) (w : World) : Nat → Option Addr → Nat → List Ex → Prop
  | 0, _, _, _ => False
  | d + 1, a, c, kids => kids.length ≤ c ∧ c ≤ maxLen ∧ (a = none → c = 0) ∧
    (0 < kids.length → ∃ b off, a = some ⟨b, off, none⟩ ∧ lo ≤ b ∧ b < w.heap.size ∧ ∀ (i : Nat) (h : i < kids.length), At1 w b (off + i * 4) kids[i] (fun a' c' => KidsB lo w d a' c' kids[i].kids))

theorem KidsB.agree {lo : Nat} {w w' : World} (hs : w.heap.size ≤ w'.heap.size) (hc : ∀ b, lo ≤ b → b < w.heap.size → ∀ o, w'.cell? ⟨b, o, none⟩ = w.cell? ⟨b, o, none⟩) :
    ∀ {d : Nat} {a : Option Addr} {c : Nat} {kids : List Ex}, KidsB lo w d a c kids → KidsB lo w' d a c kids
  | 0, _, _, _, h => h
  | d + 1, a, c, kids, h => by
    obtain ⟨h1, h2, h3, h4⟩ := h
    refine ⟨h1, h2, h3, fun hp => ?_⟩
    obtain ⟨b, off, ha, hlo, hlt, hcs⟩ := h4 hp
    refine ⟨b, off, ha, hlo, Nat.lt_of_lt_of_le hlt hs, fun i hi => ?_⟩
    obtain ⟨c1, c2, c3, hf, a', c', c4, hk⟩ := hcs i hi
    have e := hc b hlo hlt
    exact ⟨(e _).trans c1, (e _).trans c2, (e _).trans c3, hf, a', c', (e _).trans c4, KidsB.agree hs hc hk⟩

theorem KidsB.below {lo : Nat} {w w' : World} {d : Nat} {a : Option Addr} {c : Nat} {kids : List Ex} (h : KidsB lo w d a c kids) (hb : Below w.heap.size w w') : KidsB lo w' d a c kids :=
  h.agree hb.size fun b _ hlt o => hb.cell (p := ⟨b, o, none⟩) hlt

theorem KidsB.lower {lo lo' : Nat} {w : World} (hl : lo' ≤ lo) : ∀ {d : Nat} {a : Option Addr} {c : Nat} {kids : List Ex}, KidsB lo w d a c kids → KidsB lo' w d a c kids
  | 0, _, _, _, h => h
  | d + 1, a, c, kids, h => by
    obtain ⟨h1, h2, h3, h4⟩ := h
    refine ⟨h1, h2, h3, fun hp => ?_⟩
    obtain ⟨b, off, ha, hlo, hlt, hcs⟩ := h4 hp
    exact ⟨b, off, ha, Nat.le_trans hl hlo, hlt, fun i hi => (hcs i hi).mono fun a' c' hk => KidsB.lower hl hk⟩

theorem KidsB.at {lo : Nat} {w : World} : ∀ {d : Nat} {a : Option Addr} {c : Nat} {kids : List Ex}, KidsB lo w d a c kids → KidsAt w d a c kids
  | 0, _, _, _, h => h
  | d + 1, a, c, kids, h => by
    obtain ⟨h1, h2, h3, h4⟩ := h
    refine ⟨h1, h2, h3, fun hp => ?_⟩
    obtain ⟨b, off, ha, hlo, hlt, hcs⟩ := h4 hp
    exact ⟨b, off, ha, hlt, fun i hi => (hcs i hi).mono fun a' c' hk => hk.at⟩

theorem KidsAt.b0 {w : World} : ∀ {d : Nat} {a : Option Addr} {c : Nat} {kids : List Ex}, KidsAt w d a c kids → KidsB 0 w d a c kids
  | 0, _, _, _, h => h
  | d + 1, a, c, kids, h => by
    obtain ⟨h1, h2, h3, h4⟩ := h
    refine ⟨h1, h2, h3, fun hp => ?_⟩
    obtain ⟨b, off, ha, hlt, hcs⟩ := h4 hp
    exact ⟨b, off, ha, Nat.zero_le _, hlt, fun i hi => (hcs i hi).mono fun a' c' hk => hk.b0⟩

theorem KidsB.nil (lo : Nat) (w : World) (d : Nat) : KidsB lo w (d + 1) none 0 [] :=
  ⟨Nat.le_refl _, by unfold maxLen; omega, fun _ => rfl, fun h => absurd h (by simp)⟩

theorem KidsB.mono {lo : Nat} {w : World} : ∀ {d d' : Nat} {a : Option Addr} {c : Nat} {kids : List Ex}, d ≤ d' → KidsB lo w d a c kids → KidsB lo w d' a c kids
  | 0, _, _, _, _, _, h => h.elim
  | d + 1, 0, _, _, _, hd, _ => by omega
  | d + 1, d' + 1, a, c, kids, hd, h => by
    obtain ⟨h1, h2, h3, h4⟩ := h
    refine ⟨h1, h2, h3, fun hp => ?_⟩
    obtain ⟨b, off, ha, hlo, hlt, hc⟩ := h4 hp
    exact ⟨b, off, ha, hlo, hlt, fun i hi => (hc i hi).mono fun a' c' hk => KidsB.mono (by omega) hk⟩

end Go.Proofs.YtjjdcdnaonfnmaaGreat

namespace Go.Proofs.YtjjdcdnaonfnmaaGreat

/-- How many letters the texts have together. -/
def lets (xs : List ByteArray) : Nat := (xs.map ByteArray.size).sum

theorem lets_take (xs : List ByteArray) (k : Nat) (h : k < xs.length) : lets (xs.take (k + 1)) = lets (xs.take k) + xs[k].size := by
  unfold lets
  rw [List.take_succ_eq_append_getElem h, List.map_append, List.sum_append]
  simp only [List.map_cons, List.map_nil, List.sum_cons, List.sum_nil, Nat.add_zero]

theorem lets_le (xs : List ByteArray) (k : Nat) : lets (xs.take k) ≤ lets xs := by
  unfold lets
  conv => rhs; rw [← List.take_append_drop k xs, List.map_append, List.sum_append]
  omega

theorem lets_mem {xs : List ByteArray} {s : ByteArray} (h : s ∈ xs) : s.size ≤ lets xs := by
  unfold lets
  induction xs with
  | nil => simp at h
  | cons x r ih =>
    simp only [List.map_cons, List.sum_cons]
    rcases List.mem_cons.1 h with rfl | h
    · omega
    · have := ih h; omega

end Go.Proofs.YtjjdcdnaonfnmaaGreat

namespace Go.Proofs.YtjjdcdnaonfnmaaGreat
open Go.RowKit

/-- What is left of 'left' behind the texts: -1 where it is not enough. -/
def leftOf (xs : List ByteArray) (left : Int) : Int := if left < xs.length + lets xs then -1 else left - xs.length - lets xs

set_option maxHeartbeats 400000 in
theorem szStrs (a : Option Addr) (c : Nat) (xs : List ByteArray) (left : Int) (w : World) (hx : Strs w a c xs) (h0 : 0 ≤ left) (h1 : left ≤ 1048576) :
    Calls Tryz.prog 92 #[.slice a xs.length c, .int .i64 left] w fun e w' => e = .returned (.int .i64 (leftOf xs left)) ∧ w = w' := by
  have hl := hx.len
  by_cases hs : left < xs.length
  · have H : Hid (leftOf xs left = -1) := by unfold Hid leftOf; rw [if_pos (by omega)]
    go_enter Tryz.func92, Tryz.ntmps92
    go_wp2
    go_ret
    exact ⟨by rw [H.out]; rfl, rfl⟩
  · have hs' : (xs.length : Int) ≤ left := by omega
    go_enter Tryz.func92, Tryz.ntmps92
    go_wp2
    go_loop [1, 5] (fun l i => ∃ k : Nat, k ≤ xs.length ∧ i = .int .i64 k ∧ lets (xs.take k) ≤ left - xs.length ∧ l = .int .i64 (left - xs.length - lets (xs.take k))) (fun _ i => xs.length - (intOf i).toNat)
    case atStart => exact ⟨0, Nat.zero_le _, rfl, by simp [lets]; omega, by simp [lets]⟩
    case round =>
      obtain ⟨k, hk, rfl, hsm, rfl⟩ := hrel
      by_cases hlt : k < xs.length
      · obtain ⟨b, off, rfl, hb, hc⟩ := hx.spot hlt
        have ht := hx.text hlt
        have HT := Lib.hid (lets_take xs k hlt)
        have HL := Lib.hid (lets_le xs (k + 1))
        by_cases hle : left - xs.length - lets (xs.take k) - xs[k].size < 0
        · have H : Hid (leftOf xs left = -1) := by unfold Hid leftOf; rw [if_pos (by have := HT.out; have := HL.out; omega)]
          go_wp2
          go_ret
          exact ⟨by rw [H.out]; rfl, rfl⟩
        · go_wp2
          go_round
          case rel => exact ⟨k + 1, by omega, by go_num, by have := HT.out; omega, by rw [HT.out]; go_num⟩
          case measure => simp [intOf]; omega
      · obtain rfl : k = xs.length := by omega
        have H : Hid (leftOf xs left = left - xs.length - lets xs) := by
          unfold Hid leftOf; rw [List.take_length] at hsm; rw [if_neg (by omega)]
        go_wp2
        go_ret
        exact ⟨by rw [H.out]; rfl, rfl⟩

def filled (xs : List ByteArray) (k : Nat) : List Value := (xs.take k).map Value.string ++ List.replicate (xs.length - k) (Value.string ByteArray.empty)

theorem filled_set (xs : List ByteArray) (k : Nat) (h : k < xs.length) : (filled xs k).set k (.string xs[k]) = filled xs (k + 1) := by
  unfold filled
  have hl : ((xs.take k).map Value.string).length = k := by simp; omega
  rw [List.set_append_right _ _ (by omega), hl, Nat.sub_self, show xs.length - k = (xs.length - (k + 1)) + 1 by omega, List.replicate_succ, List.set_cons_zero, List.take_succ_eq_append_getElem h, List.map_append, List.append_assoc]
  rfl

theorem filled_at (xs : List ByteArray) (k : Nat) (h : k < xs.length) : ∃ s, (filled xs k)[k]? = some (.string s) := by
  unfold filled
  have hl : ((xs.take k).map Value.string).length = k := by simp; omega
  rw [List.getElem?_append_right (by omega), hl, Nat.sub_self, List.getElem?_replicate, if_pos (by omega)]
  exact ⟨_, rfl⟩

theorem filled_all (xs : List ByteArray) : filled xs xs.length = xs.map Value.string := by simp [filled]
theorem filled_none (xs : List ByteArray) : filled xs 0 = List.replicate xs.length (Value.string ByteArray.empty) := by simp [filled]

set_option maxHeartbeats 400000 in
theorem toStrs (a : Option Addr) (c : Nat) (xs : List ByteArray) (w : World) (hx : Strs w a c xs) (hn : xs.length ≤ 1048576) :
    Calls Tryz.prog 96 #[.slice a xs.length c] w (NewStrs w xs) := by
  obtain ⟨i0, hi0, hz0, hz1, hz2⟩ := info_parts Tryz.infoString
  have hb16 : i0.bytes * xs.length ≤ 281474976710656 := by rw [hz2]; omega
  go_enter Tryz.func96, Tryz.ntmps96
  go_wp2_with (at_make; refine wpList_make_full _ rfl _ _ 30 rfl w.heap.size 9 i0 (.string ByteArray.empty) 1 Tryz.underlying30 hi0 hz0 hz1 .i64 .i64 _ _ xs.length rfl rfl rfl rfl hb16 (by unfold maxLen; omega) (Nat.le_refl _) ?_; intro w1 hown hg)
  have hown1 : w1.ownsRow w.heap.size 9 1 (.slice (some ⟨w.heap.size, 0, none⟩) xs.length xs.length) xs.length (filled xs 0) := by
    rw [filled_none]
    have := toList_madeCells_one (.string ByteArray.empty) (xs.length * 1)
    simp only [Nat.mul_one] at this hown
    rw [← this]
    exact hown
  have hbel : Below w.heap.size w w1 := (Below.refl _ _).grown hg (Nat.le_refl _) (fun k hk => by cases hk)
  clear hown hg
  go_loopw [4] (fun i wr => ∃ k : Nat, k ≤ xs.length ∧ i = .int .i64 k ∧ wr.ownsRow w.heap.size 9 1 (.slice (some ⟨w.heap.size, 0, none⟩) xs.length xs.length) xs.length (filled xs k) ∧ Below w.heap.size w wr) (fun i _ => xs.length - (intOf i).toNat)
  case atStart => exact ⟨0, Nat.zero_le _, rfl, hown1, hbel⟩
  case round =>
    obtain ⟨k, hk, rfl, hown, hbw⟩ := hrel
    by_cases hlt : k < xs.length
    · obtain ⟨b, off, rfl, hb, hc⟩ := (hx.below hbw).spot hlt
      obtain ⟨s0, hs0⟩ := filled_at xs k hlt
      have hcell : wr.cell? ⟨w.heap.size, k, none⟩ = some (.string s0) := (hown.cellAt k (by omega)).trans hs0
      have hfz : wr.frozen? ⟨w.heap.size, k, none⟩ = false := hown.frozenAt k
      have R := hown.stored k (.string xs[k])
      rw [filled_set xs k hlt] at R
      have RB := hbw.setCell (p := ⟨w.heap.size, k, none⟩) (Nat.le_refl _) (.string xs[k])
      have R1 := R.1
      clear R hown hbel hown1 hs0 hb
      go_wp2
      go_roundw
      case rel => exact ⟨k + 1, by omega, by go_num, R1, RB⟩
      case measure => simp [intOf]; omega
    · obtain rfl : k = xs.length := by omega
      rw [filled_all] at hown
      go_wp2
      go_ret
      exact ⟨_, _, rfl, hown, hbw⟩

/-- The two lists hold the same texts. -/
def eqB (xs ys : List ByteArray) : Bool := xs.map ByteArray.toList == ys.map ByteArray.toList

set_option maxHeartbeats 400000 in
theorem eqStrs (a a' : Option Addr) (c c' : Nat) (xs ys : List ByteArray) (w : World) (hx : Strs w a c xs) (hy : Strs w a' c' ys) (he : xs = ys) :
    Calls Tryz.prog 10 #[.slice a xs.length c, .slice a' ys.length c'] w (Quiet w (.bool true)) := by
  subst he
  have hl := hx.len
  have hne : (((xs.length : Int)) != (xs.length : Int)) = false := by simp
  go_enter Tryz.func10, Tryz.ntmps10
  go_wp2
  go_loopw [5] (fun i wr => ∃ k n : Nat, k ≤ xs.length ∧ i = .int .i64 k ∧ wr = w.drewN n) (fun i _ => xs.length - (intOf i).toNat)
  case atStart => exact ⟨0, 0, Nat.zero_le _, rfl, rfl⟩
  case round =>
    obtain ⟨k, n, hk, rfl, rfl⟩ := hrel
    by_cases hlt : k < xs.length
    · obtain ⟨b, off, rfl, hb, hc⟩ := hx.spot hlt
      obtain ⟨b', off', rfl, hb', hc'⟩ := hy.spot hlt
      have hs : (!(xs[k].toList == xs[k].toList)) = false := by simp
      go_wp2
      go_quiet (fail)
      go_wp2
      go_roundw
      case rel => exact ⟨k + 1, n + nq, by omega, by go_num, rfl⟩
      case measure => simp [intOf]; omega
    · go_wp2
      go_ret
      exact ⟨rfl, _, rfl⟩

end Go.Proofs.YtjjdcdnaonfnmaaGreat

namespace Go.Proofs.YtjjdcdnaonfnmaaGreat
open Go.RowKit

/-- How something reads: R lo w vs x says that the cells vs read as x in w, with every block that they reach from lo on. -/
abbrev Rd (X : Type) := Nat → World → List Value → X → Prop

/-- Every block from lo on that w has is in w' as in w. -/
def Kept (lo : Nat) (w w' : World) : Prop := w.heap.size ≤ w'.heap.size ∧ ∀ b, lo ≤ b → b < w.heap.size → w'.heap[b]? = w.heap[b]?
theorem Kept.cell {lo : Nat} {w w' : World} (h : Kept lo w w') (b : Nat) (hl : lo ≤ b) (hb : b < w.heap.size) (o : Nat) : w'.cell? ⟨b, o, none⟩ = w.cell? ⟨b, o, none⟩ := World.cell?_of_block (a := ⟨b, o, none⟩) (h.2 b hl hb)

theorem Kept.refl (lo : Nat) (w : World) : Kept lo w w := ⟨Nat.le_refl _, fun _ _ _ => rfl⟩
theorem Kept.trans {lo : Nat} {w w1 w2 : World} (h : Kept lo w w1) (h' : Kept lo w1 w2) : Kept lo w w2 :=
  ⟨Nat.le_trans h.1 h'.1, fun b hl hb => (h'.2 b hl (Nat.lt_of_lt_of_le hb h.1)).trans (h.2 b hl hb)⟩
theorem Kept.below {lo : Nat} {w w' : World} (hb : Below w.heap.size w w') : Kept lo w w' :=
  ⟨hb.size, fun b _ hlt => hb.block b hlt⟩
theorem Kept.set {lo : Nat} {w w' : World} (h : Kept lo w w') {p : Addr} (hp : p.block < lo) (v : Value) : Kept lo w (w'.setCell p v) :=
  ⟨by simpa [World.setCell] using h.1, fun b hl hb => (Below.heap_setCell _ _ _ _ (by omega)).trans (h.2 b hl hb)⟩
theorem Kept.up {lo lo' : Nat} {w w' : World} (h : Kept lo w w') (hl : lo ≤ lo') : Kept lo' w w' := ⟨h.1, fun b h1 h2 => h.2 b (Nat.le_trans hl h1) h2⟩

structure Good {X : Type} (R : Rd X) : Prop where
  kept : ∀ {lo : Nat} {w w' : World} {vs : List Value} {x : X}, R lo w vs x → Kept lo w w' → R lo w' vs x
  lower : ∀ {lo lo' : Nat} {w : World} {vs : List Value} {x : X}, R lo w vs x → lo' ≤ lo → R lo' w vs x

/-- The slice (a, length of xs, c) holds the things xs, each of K cells. -/
def Sl {X : Type} (K : Nat) (R : Rd X) (lo : Nat) (w : World) (a : Option Addr) (c : Nat) (xs : List X) : Prop :=
  xs.length ≤ c ∧ c ≤ maxLen ∧ (a = none → c = 0) ∧
  (0 < xs.length → ∃ b off, a = some ⟨b, off, none⟩ ∧ lo ≤ b ∧ b < w.heap.size ∧ ∀ (i : Nat) (h : i < xs.length), ∃ vs : List Value, (∀ (j : Nat) (hj : j < vs.length), w.cell? ⟨b, off + i * K + j, none⟩ = some vs[j]) ∧ R lo w vs xs[i])

theorem Sl.len {X : Type} {K : Nat} {R : Rd X} {lo : Nat} {w : World} {a : Option Addr} {c : Nat} {xs : List X} (h : Sl K R lo w a c xs) : xs.length ≤ 9223372036854775807 := by
  have h1 := h.1
  have h2 := h.2.1
  unfold maxLen at h2
  omega

theorem Sl.spot {X : Type} {K : Nat} {R : Rd X} {lo : Nat} {w : World} {a : Option Addr} {c : Nat} {xs : List X} (h : Sl K R lo w a c xs) {i : Nat} (hi : i < xs.length) :
    ∃ b off vs, a = some ⟨b, off, none⟩ ∧ b < w.heap.size ∧ (∀ (j : Nat) (hj : j < vs.length), w.cell? ⟨b, off + i * K + j, none⟩ = some vs[j]) ∧ R lo w vs xs[i] := by
  obtain ⟨b, off, ha, _, hb, hc⟩ := h.2.2.2 (by omega)
  obtain ⟨vs, h1, h2⟩ := hc i hi
  exact ⟨b, off, vs, ha, hb, h1, h2⟩

theorem Sl.kept {X : Type} {K : Nat} {R : Rd X} (G : Good R) {lo : Nat} {w w' : World} {a : Option Addr} {c : Nat} {xs : List X} (h : Sl K R lo w a c xs) (hk : Kept lo w w') : Sl K R lo w' a c xs := by
  obtain ⟨h1, h2, h3, h4⟩ := h
  refine ⟨h1, h2, h3, fun hp => ?_⟩
  obtain ⟨b, off, ha, hl, hb, hc⟩ := h4 hp
  refine ⟨b, off, ha, hl, Nat.lt_of_lt_of_le hb hk.1, fun i hi => ?_⟩
  obtain ⟨vs, h5, h6⟩ := hc i hi
  exact ⟨vs, fun j hj => (hk.cell b hl hb _).trans (h5 j hj), G.kept h6 hk⟩

theorem Sl.lower {X : Type} {K : Nat} {R : Rd X} (G : Good R) {lo lo' : Nat} {w : World} {a : Option Addr} {c : Nat} {xs : List X} (h : Sl K R lo w a c xs) (hl : lo' ≤ lo) : Sl K R lo' w a c xs := by
  obtain ⟨h1, h2, h3, h4⟩ := h
  refine ⟨h1, h2, h3, fun hp => ?_⟩
  obtain ⟨b, off, ha, hlb, hb, hc⟩ := h4 hp
  refine ⟨b, off, ha, Nat.le_trans hl hlb, hb, fun i hi => ?_⟩
  obtain ⟨vs, h5, h6⟩ := hc i hi
  exact ⟨vs, h5, G.lower h6 hl⟩

theorem Sl.nil {X : Type} (K : Nat) (R : Rd X) (lo : Nat) (w : World) : Sl K R lo w none 0 ([] : List X) :=
  ⟨Nat.le_refl _, by unfold maxLen; omega, fun _ => rfl, fun h => absurd h (by simp)⟩

/-- Texts in a slice, in a block from lo on. -/
def Ss (lo : Nat) (w : World) (a : Option Addr) (c : Nat) (xs : List ByteArray) : Prop :=
  Strs w a c xs ∧ (0 < xs.length → ∃ b off, a = some ⟨b, off, none⟩ ∧ lo ≤ b)

theorem Ss.kept {lo : Nat} {w w' : World} {a : Option Addr} {c : Nat} {xs : List ByteArray} (h : Ss lo w a c xs) (hk : Kept lo w w') : Ss lo w' a c xs := by
  obtain ⟨⟨h1, h2, h3, h3', h4⟩, h5⟩ := h
  refine ⟨⟨h1, h2, h3, h3', fun hp => ?_⟩, h5⟩
  obtain ⟨b, off, ha, hlt, hc⟩ := h4 hp
  obtain ⟨b', off', ha', hl⟩ := h5 hp
  rw [ha] at ha'
  cases ha'
  exact ⟨b, off, ha, Nat.lt_of_lt_of_le hlt hk.1, fun i hi => (hk.cell b hl hlt _).trans (hc i hi)⟩

theorem Ss.lower {lo lo' : Nat} {w : World} {a : Option Addr} {c : Nat} {xs : List ByteArray} (h : Ss lo w a c xs) (hl : lo' ≤ lo) : Ss lo' w a c xs :=
  ⟨h.1, fun hp => by obtain ⟨b, off, ha, hb⟩ := h.2 hp; exact ⟨b, off, ha, Nat.le_trans hl hb⟩⟩

theorem Own.ss {w : World} {B : Nat} {a : Option Addr} {c : Nat} {xs : List ByteArray} (h : Own w B a c xs) (hs : ∀ s ∈ xs, s.size ≤ maxLen) : Ss B w a c xs := by
  refine ⟨h.strs hs, fun hp => ?_⟩
  rcases h.form with ⟨_, _, rfl⟩ | ⟨g, ha, hb, _⟩
  · simp at hp
  · exact ⟨g, 0, ha, hb⟩

theorem Strs.ss0 {w : World} {a : Option Addr} {c : Nat} {xs : List ByteArray} (h : Strs w a c xs) : Ss 0 w a c xs :=
  ⟨h, fun hp => by obtain ⟨b, off, ha, _⟩ := h.2.2.2.2 hp; exact ⟨b, off, ha, Nat.zero_le _⟩⟩

/-- Expressions in a slice, in blocks from lo on, however deep. -/
def Ks (lo : Nat) (w : World) (a : Option Addr) (c : Nat) (kids : List Ex) : Prop := ∃ d, KidsB lo w (d + 1) a c kids

theorem Ks.kept {lo : Nat} {w w' : World} {a : Option Addr} {c : Nat} {kids : List Ex} (h : Ks lo w a c kids) (hk : Kept lo w w') : Ks lo w' a c kids := by
  obtain ⟨d, h⟩ := h
  exact ⟨d, h.agree hk.1 fun b hl hb o => hk.cell b hl hb o⟩

theorem Ks.lower {lo lo' : Nat} {w : World} {a : Option Addr} {c : Nat} {kids : List Ex} (h : Ks lo w a c kids) (hl : lo' ≤ lo) : Ks lo' w a c kids := by
  obtain ⟨d, h⟩ := h
  exact ⟨d, h.lower hl⟩

theorem Ks.len {lo : Nat} {w : World} {a : Option Addr} {c : Nat} {kids : List Ex} (h : Ks lo w a c kids) : kids.length ≤ 9223372036854775807 := by
  obtain ⟨d, h⟩ := h
  exact h.at.len

theorem KidsAt.ks {w : World} {d : Nat} {a : Option Addr} {c : Nat} {kids : List Ex} (h : KidsAt w d a c kids) : Ks 0 w a c kids := ⟨d, (h.mono (Nat.le_succ d)).b0⟩

/-- What the things of a list weigh together. -/
def wtS {X : Type} (f : X → Nat) (xs : List X) : Nat := (xs.map f).sum

theorem wtS_take {X : Type} (f : X → Nat) (xs : List X) (k : Nat) (h : k < xs.length) : wtS f (xs.take (k + 1)) = wtS f (xs.take k) + f xs[k] := by
  unfold wtS
  rw [List.take_succ_eq_append_getElem h, List.map_append, List.sum_append]
  simp only [List.map_cons, List.map_nil, List.sum_cons, List.sum_nil, Nat.add_zero]

theorem wtS_le {X : Type} (f : X → Nat) (xs : List X) (k : Nat) : wtS f (xs.take k) ≤ wtS f xs := by
  unfold wtS
  conv => rhs; rw [← List.take_append_drop k xs, List.map_append, List.sum_append]
  omega

theorem wtS_get {X : Type} (f : X → Nat) {xs : List X} {k : Nat} (h : k < xs.length) : f xs[k] ≤ wtS f xs := by
  have h1 := wtS_take f xs k h
  have h2 := wtS_le f xs (k + 1)
  omega

/-- The cells of a block, all of them free to be written. -/
def Blk (w : World) (b : Nat) (vs : List Value) : Prop := b < w.heap.size ∧ ∀ (j : Nat) (h : j < vs.length), w.cell? ⟨b, j, none⟩ = some vs[j] ∧ w.frozen? ⟨b, j, none⟩ = false

theorem Blk.below {w w' : World} {b : Nat} {vs : List Value} (h : Blk w b vs) (hb : Below w.heap.size w w') : Blk w' b vs :=
  ⟨Nat.lt_of_lt_of_le h.1 hb.size, fun j hj => ⟨(hb.cell (p := ⟨b, j, none⟩) h.1).trans (h.2 j hj).1, (hb.frozen (p := ⟨b, j, none⟩) h.1).trans (h.2 j hj).2⟩⟩

/-- The cells o, o + 1, .. of a block are written one after the other. -/
def stores (w : World) (b : Nat) : Nat → List Value → World
  | _, [] => w
  | o, v :: r => stores (w.setCell ⟨b, o, none⟩ v) b (o + 1) r

def setAll (l : List Value) : Nat → List Value → List Value
  | _, [] => l
  | o, v :: r => setAll (l.set o v) (o + 1) r

theorem setAll_mid : ∀ (vs p r q : List Value), vs.length = r.length → setAll (p ++ (r ++ q)) p.length vs = p ++ (vs ++ q)
  | [], p, r, q, h => by
    have : r = [] := List.eq_nil_of_length_eq_zero h.symm
    subst this
    rfl
  | v :: vt, p, [], q, h => by simp at h
  | v :: vt, p, y :: rt, q, h => by
    have e : (p ++ (y :: rt ++ q)).set p.length v = (p ++ [v]) ++ (rt ++ q) := by
      rw [List.set_append_right _ _ (Nat.le_refl _), Nat.sub_self, List.cons_append, List.set_cons_zero, List.append_assoc]
      rfl
    rw [setAll, e, show p.length + 1 = (p ++ [v]).length by simp, setAll_mid vt (p ++ [v]) rt q (by simpa using h), List.append_assoc]
    rfl

theorem stores_own {B : Nat} {T : TypeId} {K n b c : Nat} : ∀ (vs : List Value) {w : World} {cs : List Value} (o : Nat), w.ownsRow B T K (.slice (some ⟨b, 0, none⟩) n c) n cs →
    (stores w b o vs).ownsRow B T K (.slice (some ⟨b, 0, none⟩) n c) n (setAll cs o vs)
  | [], _, _, _, h => h
  | v :: r, _, _, o, h => stores_own r (o + 1) (h.stored o v).1

theorem stores_kept {lo b : Nat} (hb : b < lo) : ∀ (vs : List Value) {w w' : World} (o : Nat), Kept lo w w' → Kept lo w (stores w' b o vs)
  | [], _, _, _, h => h
  | v :: r, _, _, o, h => stores_kept hb r (o + 1) (h.set (p := ⟨b, o, none⟩) hb v)

theorem stores_below {B b : Nat} (hb : B ≤ b) : ∀ (vs : List Value) {w w' : World} (o : Nat), Below B w w' → Below B w (stores w' b o vs)
  | [], _, _, _, h => h
  | v :: r, _, _, o, h => stores_below hb r (o + 1) (h.setCell (p := ⟨b, o, none⟩) hb v)

theorem stores_size (b : Nat) : ∀ (vs : List Value) (w : World) (o : Nat), (stores w b o vs).heap.size = w.heap.size
  | [], _, _ => rfl
  | v :: r, w, o => by rw [stores, stores_size b r]; simp [World.setCell]

/-- The rows put so far, then empty ones. -/
def rfill (rows : List (List Value)) (z : List Value) (n : Nat) : List Value := (rows ++ List.replicate (n - rows.length) z).flatten

theorem flat_len {K : Nat} : ∀ {rows : List (List Value)}, (∀ r ∈ rows, r.length = K) → rows.flatten.length = rows.length * K
  | [], _ => by simp
  | r :: rs, h => by
    rw [List.flatten_cons, List.length_append, flat_len fun x hx => h x (List.mem_cons_of_mem _ hx), h r (List.mem_cons_self ..), List.length_cons, Nat.add_mul]
    omega

theorem flat_at {K : Nat} : ∀ {rows : List (List Value)}, (∀ r ∈ rows, r.length = K) → ∀ (i : Nat) (h : i < rows.length) (j : Nat), j < K → rows.flatten[i * K + j]? = rows[i][j]?
  | [], _, i, h, _, _ => by simp at h
  | r :: rs, hr, 0, _, j, hj => by
    rw [List.flatten_cons, Nat.zero_mul, Nat.zero_add, List.getElem?_append_left (by rw [hr r (List.mem_cons_self ..)]; exact hj)]
    rfl
  | r :: rs, hr, i + 1, h, j, hj => by
    have hl := hr r (List.mem_cons_self ..)
    rw [List.flatten_cons, List.getElem?_append_right (by rw [hl, Nat.add_mul]; omega), hl, show (i + 1) * K + j - K = i * K + j by rw [Nat.add_mul]; omega, flat_at (fun x hx => hr x (List.mem_cons_of_mem _ hx)) i (by simpa using h) j hj]
    rfl

theorem rfill_set {K : Nat} {rows : List (List Value)} {z vs : List Value} {n : Nat} (hr : ∀ r ∈ rows, r.length = K) (hz : z.length = K) (hv : vs.length = K) (h : rows.length < n) :
    setAll (rfill rows z n) (rows.length * K) vs = rfill (rows ++ [vs]) z n := by
  unfold rfill
  rw [show n - rows.length = (n - (rows ++ [vs]).length) + 1 by simp; omega, List.replicate_succ, List.flatten_append, List.flatten_cons, ← flat_len hr, setAll_mid vs rows.flatten z _ (by rw [hv, hz])]
  simp

theorem rfill_at {K : Nat} {rows : List (List Value)} {z : List Value} {n : Nat} (hr : ∀ r ∈ rows, r.length = K) (h : rows.length < n) (j : Nat) (hj : j < z.length) :
    (rfill rows z n)[rows.length * K + j]? = some z[j] := by
  unfold rfill
  rw [show n - rows.length = (n - rows.length - 1) + 1 by omega, List.replicate_succ, List.flatten_append, List.flatten_cons, List.getElem?_append_right (by rw [flat_len hr]; omega), flat_len hr, Nat.add_sub_cancel_left, List.getElem?_append_left hj, List.getElem?_eq_getElem hj]

theorem rfill_none (z : List Value) (n : Nat) (hz : 0 < z.length) : rfill [] z n = (madeCells z.toArray (n * z.length)).toList := by
  unfold rfill
  rw [List.nil_append, List.length_nil, Nat.sub_zero]
  have hr : ∀ r ∈ List.replicate n z, r.length = z.length := fun r h => by rw [List.eq_of_mem_replicate h]
  apply List.ext_getElem?
  intro j
  by_cases hj : j < n * z.length
  · have hq : j / z.length < n := Nat.div_lt_of_lt_mul (by rw [Nat.mul_comm]; exact hj)
    have hm : j % z.length < z.length := Nat.mod_lt _ hz
    have hdm : j / z.length * z.length + j % z.length = j := by rw [Nat.mul_comm]; exact Nat.div_add_mod _ _
    have h1 := flat_at hr (j / z.length) (by simpa using hq) (j % z.length) hm
    rw [hdm] at h1
    rw [h1, List.getElem_replicate]
    simp [madeCells, hj]
    rw [List.getElem?_eq_getElem hm]
    rfl
  · rw [List.getElem?_eq_none (by rw [flat_len hr]; simpa using hj), List.getElem?_eq_none (by simp [madeCells]; omega)]

/-- What has been copied of a row of things. -/
def DoneR {X : Type} (T : TypeId) (K : Nat) (R : Rd X) (z : List Value) (w : World) (xs : List X) (k : Nat) (wr : World) : Prop :=
  k ≤ xs.length ∧ (∃ rows : List (List Value), rows.length = k ∧ (∀ r ∈ rows, r.length = K) ∧ (∀ (j : Nat) (h : j < rows.length) (h' : j < xs.length), R (w.heap.size + 1) wr rows[j] xs[j]) ∧
    wr.ownsRow w.heap.size T K (.slice (some ⟨w.heap.size, 0, none⟩) xs.length xs.length) xs.length (rfill rows z xs.length)) ∧ w.heap.size < wr.heap.size ∧ Below w.heap.size w wr

theorem ownsRow_size {w : World} {B : Nat} {T : TypeId} {K n g l c : Nat} {cs : List Value} (h : w.ownsRow B T K (.slice (some ⟨g, 0, none⟩) l c) n cs) : g < w.heap.size := by
  rcases h.2 with ⟨h, _⟩ | ⟨g', cap, cur, hv, _, hgg, _⟩
  · cases h
  · simp only [Value.slice.injEq, Option.some.injEq, Addr.mk.injEq] at hv
    rcases Nat.lt_or_ge g w.heap.size with h | h
    · exact h
    · rw [← hv.1.1, Array.getElem?_eq_none h] at hgg; cases hgg

theorem DoneR.new {X : Type} {T : TypeId} {R : Rd X} {z : List Value} {w w1 : World} {xs : List X} (hz : 0 < z.length)
    (hown : w1.ownsRow w.heap.size T z.length (.slice (some ⟨w.heap.size, 0, none⟩) xs.length xs.length) xs.length (madeCells z.toArray (xs.length * z.length)).toList) (hg : w.grownBy w1 none) : DoneR T z.length R z w xs 0 w1 := by
  refine ⟨Nat.zero_le _, ⟨[], rfl, fun r h => by simp at h, fun j h => by simp at h, ?_⟩, ownsRow_size hown, (Below.refl _ _).grown hg (Nat.le_refl _) (fun k hk => by cases hk)⟩
  rw [rfill_none z _ hz]
  exact hown

theorem ownsRow_below {w w2 : World} {B : Nat} {T : TypeId} {K n g c : Nat} {cs : List Value} (h : w.ownsRow B T K (.slice (some ⟨g, 0, none⟩) n c) n cs) (hb2 : Below w.heap.size w w2) : w2.ownsRow B T K (.slice (some ⟨g, 0, none⟩) n c) n cs :=
  World.ownsRow.kept (row := none) h ⟨hb2.os, hb2.tape, hb2.output, hb2.size, fun k hk _ => hb2.block k hk⟩ (.inr (fun e => by cases e))

theorem DoneR.cells {X : Type} {T : TypeId} {K : Nat} {R : Rd X} {z : List Value} {w wr w2 : World} {xs : List X} {k : Nat} (h : DoneR T K R z w xs k wr) (hz : z.length = K) (hlt : k < xs.length) (hb2 : Below wr.heap.size wr w2) :
    (∀ (j : Nat) (hj : j < z.length), w2.cell? ⟨w.heap.size, k * K + j, none⟩ = some z[j]) ∧ ∀ o, w2.frozen? ⟨w.heap.size, o, none⟩ = false := by
  obtain ⟨_, ⟨rows, rfl, hr, _, hown⟩, _, _⟩ := h
  have hown2 := ownsRow_below hown hb2
  refine ⟨fun j hj => ?_, fun o => hown2.frozenAt o⟩
  have hlt' : rows.length * K + j < xs.length * K := by
    have : (rows.length + 1) * K ≤ xs.length * K := Nat.mul_le_mul_right K hlt
    rw [Nat.add_mul] at this
    omega
  exact (hown2.cellAt _ hlt').trans (rfill_at hr hlt j hj)

theorem DoneR.step {X : Type} {T : TypeId} {K : Nat} {R : Rd X} (G : Good R) {z : List Value} {w wr w2 w3 : World} {xs : List X} {k : Nat} (h : DoneR T K R z w xs k wr) (hz : z.length = K) (hlt : k < xs.length) {vs : List Value}
    (hv : vs.length = K) (hR : R wr.heap.size w2 vs xs[k]) (hb2 : Below wr.heap.size wr w2) (h3 : w3 = stores w2 w.heap.size (k * K) vs) : DoneR T K R z w xs (k + 1) w3 := by
  subst h3
  obtain ⟨hle, ⟨rows, rfl, hr, hd, hown⟩, hlw, hbw⟩ := h
  have hown2 := ownsRow_below hown hb2
  have hst := stores_own vs (rows.length * K) hown2
  rw [rfill_set hr hz hv hlt] at hst
  have hkk : Kept (w.heap.size + 1) w2 (stores w2 w.heap.size (rows.length * K) vs) := stores_kept (Nat.lt_succ_self _) vs _ (Kept.refl _ _)
  refine ⟨hlt, ⟨rows ++ [vs], by simp, ?_, fun j hj hj' => ?_, hst⟩, by rw [stores_size]; exact Nat.lt_of_lt_of_le hlw hb2.size, stores_below (Nat.le_refl _) vs _ (hbw.trans (hb2.mono hbw.size))⟩
  · intro r hm
    rcases List.mem_append.1 hm with h | h
    · exact hr r h
    · rw [List.mem_singleton.1 h, hv]
  · by_cases hjl : j < rows.length
    · rw [List.getElem_append_left hjl]
      exact G.kept (G.kept (hd j hjl hj') (Kept.below hb2)) hkk
    · have hje : j = rows.length := by simp at hj; omega
      subst hje
      rw [List.getElem_append_right (Nat.le_refl _)]
      simp only [Nat.sub_self, List.getElem_cons_zero]
      exact G.kept (G.lower hR hlw) hkk

theorem DoneR.end {X : Type} {T : TypeId} {K : Nat} {R : Rd X} (G : Good R) {z : List Value} {w wr : World} {xs : List X} (h : DoneR T K R z w xs xs.length wr) (hm : xs.length ≤ maxLen) :
    Sl K R w.heap.size wr (some ⟨w.heap.size, 0, none⟩) xs.length xs := by
  obtain ⟨_, ⟨rows, hl, hr, hd, hown⟩, hlt, hb⟩ := h
  refine ⟨Nat.le_refl _, hm, (fun h => by cases h), fun hp => ⟨w.heap.size, 0, rfl, Nat.le_refl _, hlt, fun i hi => ⟨rows[i]'(by omega), fun j hj => ?_, G.lower (hd i (by omega) hi) (by omega)⟩⟩⟩
  have hK : rows[i].length = K := hr _ (List.getElem_mem (by omega))
  have hlt' : i * K + j < xs.length * K := by
    have : (i + 1) * K ≤ xs.length * K := Nat.mul_le_mul_right K hi
    rw [Nat.add_mul] at this
    omega
  have := (World.ownsRow.cellAt (w := wr) hown (i * K + j) hlt')
  rw [Nat.zero_add, this, rfill, ← hl, Nat.sub_self, List.replicate_zero, List.append_nil, flat_at hr i (by omega) j (by omega), List.getElem?_eq_getElem hj]

end Go.Proofs.YtjjdcdnaonfnmaaGreat

namespace Go.Proofs.YtjjdcdnaonfnmaaGreat
open Go.RowKit

structure Ty where
  kind : Int
  len : Int
  name : ByteArray

def Ty.v (t : Ty) : Value := .agg #[.int .i64 t.kind, .int .i64 t.len, .string t.name]
/-- The name is a text that fits; the numbers are ints. -/
def Ty.ok (t : Ty) : Prop := t.name.size ≤ maxLen ∧ (Lit.int .i64 t.kind).wf = true ∧ (Lit.int .i64 t.len).wf = true
def tyEq (t u : Ty) : Bool := t.kind == u.kind && (t.len == u.len && t.name.toList == u.name.toList)

theorem tyEq_refl (t : Ty) : tyEq t t = true := by simp [tyEq]
theorem tyEq_kind {t u : Ty} (h : tyEq t u = true) : t.kind = u.kind := by simp [tyEq] at h; exact h.1

def turnsB (t u : Ty) : Bool := tyEq t u || (u.kind == 1 || (t.kind == 1 && (u.kind == 3 || u.kind == 4)))

theorem eqlTy (k l : Int) (s : ByteArray) (k' l' : Int) (s' : ByteArray) (w : World) :
    (binOp .eql 57 (.agg #[.int .i64 k, .int .i64 l, .string s]) (.agg #[.int .i64 k', .int .i64 l', .string s'])).run Tryz.prog w = .ok (.bool (tyEq ⟨k, l, s⟩ ⟨k', l', s'⟩)) w := by
  have u3 := Tryz.underlying3
  have u9 := Tryz.underlying9
  have hS : Tryz.prog.underlying 57 = some (.struct (Tryz.prog.fieldsOf 57)) := by kernel_rfl
  have hp : Tryz.prog.stoodInHeld 57 = false := by kernel_rfl
  rw [run_eql_struct, show (10000 : Nat) = 9999 + 1 from rfl, run_equalIn_agg w 9999 57 _ _ hS hp]
  simp only [Program.fieldsOf, Tryz.underlying57]
  unfold tyEq
  go_simp
  by_cases h1 : k = k' <;> by_cases h2 : l = l' <;> by_cases h3 : s.toList = s'.toList <;> simp [h1, h2, h3]

theorem guardTy (x y : Operand) (k l : Int) (s : ByteArray) (k' l' : Int) (s' : ByteArray) (w : World) :
    (eqGuard .eql 57 x y (.agg #[.int .i64 k, .int .i64 l, .string s]) (.agg #[.int .i64 k', .int .i64 l', .string s'])).run Tryz.prog w = .ok () w :=
  run_eqGuard_agg w .eql 57 x y _ _ (by kernel_rfl)

theorem below2 (w : World) (o o' : Obj) : Below w.heap.size w ((w.alloc o).alloc o') := ((Below.refl _ _).alloc (Nat.le_refl _) _).alloc (by simp) _

end Go.Proofs.YtjjdcdnaonfnmaaGreat
