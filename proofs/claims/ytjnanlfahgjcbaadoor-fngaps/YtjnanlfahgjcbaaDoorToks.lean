/- Slices of words in memory. -/
import Derived.Test.YtjnanlfahgjcbaaDoorMem
import Derived.Laws.OwnMore
namespace Go.Proofs.YtjnanlfahgjcbaaDoor
open Go.RowKit

theorem bcell {W w1 : World} (hb : Below W.heap.size W w1) : (∀ b o, b < W.heap.size → w1.cell? ⟨b, o, none⟩ = W.cell? ⟨b, o, none⟩) ∧ (∀ b o, b < W.heap.size → w1.frozen? ⟨b, o, none⟩ = W.frozen? ⟨b, o, none⟩) :=
  ⟨fun b o h => hb.cell (p := ⟨b, o, none⟩) h, fun b o h => hb.frozen (p := ⟨b, o, none⟩) h⟩

theorem below_drew {B : Nat} {a w : World} (h : Below B a w) : Below B a w.drew := ⟨h.os, h.tape, h.output, h.size, h.block⟩

/-- A word as the program holds it. -/
structure Tk where
  kind : Int
  text : ByteArray
  at_ : Int

def isI64 (n : Int) : Prop := -9223372036854775808 ≤ n ∧ n ≤ 9223372036854775807

/-- The slice (a, length of xs, c) reads as the words xs. -/
def Toks (w : World) (a : Option Addr) (c : Nat) (xs : List Tk) : Prop :=
  xs.length ≤ c ∧ c ≤ maxLen ∧ (∀ x ∈ xs, isI64 x.kind ∧ x.text.size ≤ maxLen ∧ isI64 x.at_) ∧ (a = none → c = 0) ∧
  (0 < xs.length → ∃ b off, a = some ⟨b, off, none⟩ ∧ b < w.heap.size ∧ ∀ (i : Nat) (h : i < xs.length), w.cell? ⟨b, off + i * 3, none⟩ = some (.int .i64 xs[i].kind) ∧ w.cell? ⟨b, off + i * 3 + 1, none⟩ = some (.string xs[i].text) ∧ w.cell? ⟨b, off + i * 3 + 2, none⟩ = some (.int .i64 xs[i].at_))

theorem Toks.spot {w : World} {a : Option Addr} {c : Nat} {xs : List Tk} (h : Toks w a c xs) {k : Nat} (hk : k < xs.length) :
    ∃ b off, a = some ⟨b, off, none⟩ ∧ b < w.heap.size ∧ w.cell? ⟨b, off + k * 3, none⟩ = some (.int .i64 xs[k].kind) ∧ w.cell? ⟨b, off + k * 3 + 1, none⟩ = some (.string xs[k].text) ∧ w.cell? ⟨b, off + k * 3 + 2, none⟩ = some (.int .i64 xs[k].at_) := by
  obtain ⟨_, _, _, _, h4⟩ := h
  obtain ⟨b, off, ha, hb, hc⟩ := h4 (by omega)
  exact ⟨b, off, ha, hb, hc k hk⟩

theorem Toks.below {w w' : World} {a : Option Addr} {c : Nat} {xs : List Tk} (h : Toks w a c xs) (hb : Below w.heap.size w w') : Toks w' a c xs := by
  obtain ⟨h1, h2, h3, h3', h4⟩ := h
  refine ⟨h1, h2, h3, h3', fun hp => ?_⟩
  obtain ⟨b, off, ha, hlt, hc⟩ := h4 hp
  refine ⟨b, off, ha, Nat.lt_of_lt_of_le hlt hb.size, fun i hi => ?_⟩
  obtain ⟨c0, c1, c2⟩ := hc i hi
  exact ⟨(hb.cell (p := ⟨b, off + i * 3, none⟩) hlt).trans c0, (hb.cell (p := ⟨b, off + i * 3 + 1, none⟩) hlt).trans c1, (hb.cell (p := ⟨b, off + i * 3 + 2, none⟩) hlt).trans c2⟩

theorem Toks.len {w : World} {a : Option Addr} {c : Nat} {xs : List Tk} (h : Toks w a c xs) : xs.length ≤ 9223372036854775807 := by
  have h1 := h.1
  have h2 := h.2.1
  unfold maxLen at h2
  omega

theorem Toks.text {w : World} {a : Option Addr} {c : Nat} {xs : List Tk} (h : Toks w a c xs) {k : Nat} (hk : k < xs.length) : xs[k].text.size ≤ 9223372036854775807 := by
  have h2 := (h.2.2.1 xs[k] (List.getElem_mem hk)).2.1
  unfold maxLen at h2
  omega

def tcells (xs : List Tk) : List Value := xs.flatMap fun x => [.int .i64 x.kind, .string x.text, .int .i64 x.at_]

theorem tcells_length (xs : List Tk) : (tcells xs).length = xs.length * 3 := by
  induction xs with
  | nil => rfl
  | cons x r ih => rw [tcells, List.flatMap_cons, List.length_append]; unfold tcells at ih; rw [ih]; simp; omega

theorem tcells_append (xs ys : List Tk) : tcells (xs ++ ys) = tcells xs ++ tcells ys := by simp [tcells]

theorem tcells_at : ∀ (xs : List Tk) (i : Nat) (h : i < xs.length), (tcells xs)[i * 3]? = some (.int .i64 xs[i].kind) ∧ (tcells xs)[i * 3 + 1]? = some (.string xs[i].text) ∧ (tcells xs)[i * 3 + 2]? = some (.int .i64 xs[i].at_)
  | [], i, h => by simp at h
  | x :: r, 0, _ => ⟨rfl, rfl, rfl⟩
  | x :: r, i + 1, h => by
    have ih := tcells_at r i (by simpa using h)
    have e : tcells (x :: r) = [.int .i64 x.kind, .string x.text, .int .i64 x.at_] ++ tcells r := rfl
    rw [e]
    refine ⟨?_, ?_, ?_⟩
    · rw [List.getElem?_append_right (by simp; omega)]; simp only [List.length_cons, List.length_nil, List.getElem_cons_succ]; rw [show (i + 1) * 3 - (0 + 1 + 1 + 1) = i * 3 by omega]; exact ih.1
    · rw [List.getElem?_append_right (by simp; omega)]; simp only [List.length_cons, List.length_nil, List.getElem_cons_succ]; rw [show (i + 1) * 3 + 1 - (0 + 1 + 1 + 1) = i * 3 + 1 by omega]; exact ih.2.1
    · rw [List.getElem?_append_right (by simp; omega)]; simp only [List.length_cons, List.length_nil, List.getElem_cons_succ]; rw [show (i + 1) * 3 + 2 - (0 + 1 + 1 + 1) = i * 3 + 2 by omega]; exact ih.2.2

theorem tcells_set (ys : List Tk) (k : Nat) (x : Tk) (h : k < ys.length) : (((tcells ys).set (k * 3) (.int .i64 x.kind)).set (k * 3 + 1) (.string x.text)).set (k * 3 + 2) (.int .i64 x.at_) = tcells (ys.set k x) := by
  induction ys generalizing k with
  | nil => simp at h
  | cons y r ih =>
    cases k with
    | zero => rfl
    | succ k =>
      have e : ∀ z s, tcells (z :: s) = .int .i64 z.kind :: .string z.text :: .int .i64 z.at_ :: tcells s := fun _ _ => rfl
      rw [List.set_cons_succ, e, e, show (k + 1) * 3 = k * 3 + 1 + 1 + 1 by omega]
      simp only [List.set_cons_succ]
      rw [← ih k (by simpa using h)]

/-- What the call itself has made: a slice of words in blocks from B on. -/
def OwnT (w : World) (B : Nat) (a : Option Addr) (c : Nat) (xs : List Tk) : Prop :=
  w.ownsRow B 29 3 (.slice a xs.length c) xs.length (tcells xs)

def FitsT (xs : List Tk) : Prop := ∀ x ∈ xs, isI64 x.kind ∧ x.text.size ≤ maxLen ∧ isI64 x.at_

theorem OwnT.toks {w : World} {B : Nat} {a : Option Addr} {c : Nat} {xs : List Tk} (h : OwnT w B a c xs) (hs : FitsT xs) : Toks w a c xs := by
  unfold OwnT at h
  rcases h.2 with ⟨hv, hn⟩ | ⟨g, cap, cur, hv, hb, hg, hnc, hcm, hcs, ht⟩
  · simp only [Value.slice.injEq] at hv
    obtain ⟨rfl, h0, rfl⟩ := hv
    exact ⟨by omega, by unfold maxLen; omega, hs, fun _ => rfl, fun hp => by omega⟩
  · simp only [Value.slice.injEq] at hv
    obtain ⟨rfl, _, rfl⟩ := hv
    refine ⟨hnc, hcm, hs, (fun h => by cases h), fun hp => ⟨g, 0, rfl, ?_, fun i hi => ?_⟩⟩
    · rcases Nat.lt_or_ge g w.heap.size with hlt | hge
      · exact hlt
      · rw [Array.getElem?_eq_none hge] at hg; cases hg
    · obtain ⟨c0, c1, c2⟩ := tcells_at xs i hi
      refine ⟨?_, ?_, ?_⟩
      · rw [Nat.zero_add, World.ownsRow.cellAt (w := w) h (i * 3) (by omega)]; exact c0
      · rw [Nat.zero_add, World.ownsRow.cellAt (w := w) h (i * 3 + 1) (by omega)]; exact c1
      · rw [Nat.zero_add, World.ownsRow.cellAt (w := w) h (i * 3 + 2) (by omega)]; exact c2

theorem OwnT.lt {w : World} {B : Nat} {a : Option Addr} {c : Nat} {xs : List Tk} (h : OwnT w B a c xs) {g : Nat} (hg : (Value.slice a xs.length c).ownBlock = some g) : B ≤ g ∧ g < w.heap.size :=
  World.ownsRow.lt h g hg

theorem OwnT.below {w w' : World} {B : Nat} {a : Option Addr} {c : Nat} {xs : List Tk} (h : OwnT w B a c xs) (hb : Below w.heap.size w w') : OwnT w' B a c xs := by
  unfold OwnT at h ⊢
  refine ⟨h.1, ?_⟩
  rcases h.2 with h2 | ⟨g, cap, cur, hv, hB, hg, r⟩
  · exact .inl h2
  · refine .inr ⟨g, cap, cur, hv, hB, ?_, r⟩
    have : g < w.heap.size := by
      rcases Nat.lt_or_ge g w.heap.size with hlt | hge
      · exact hlt
      · rw [Array.getElem?_eq_none hge] at hg; cases hg
    rw [hb.block g this, hg]

theorem OwnT.lower {w : World} {B B' : Nat} {a : Option Addr} {c : Nat} {xs : List Tk} (h : OwnT w B a c xs) (hB : B' ≤ B) : OwnT w B' a c xs := by
  unfold OwnT at h ⊢
  refine ⟨h.1, ?_⟩
  rcases h.2 with h2 | ⟨g, cap, cur, hv, hb, r⟩
  · exact .inl h2
  · exact .inr ⟨g, cap, cur, hv, by omega, r⟩

theorem OwnT.kept {w w' : World} {B : Nat} {a : Option Addr} {c : Nat} {xs : List Tk} {row : Option Nat} (h : OwnT w B a c xs) (hg : w.grownBy w' row)
    (hne : ∀ g, (Value.slice a xs.length c).ownBlock = some g → row ≠ some g) : OwnT w' B a c xs := by
  refine World.ownsRow.kept h hg ?_
  cases ho : (Value.slice a xs.length c).ownBlock with
  | none => exact .inl rfl
  | some g => exact .inr (fun e => hne g ho e.symm)

theorem OwnT.nil (w : World) (B : Nat) : OwnT w B none 0 [] := World.ownsRow_nil _ _ _ _

/-- A call answers a new slice of the words xs. -/
def NewToks (w : World) (xs : List Tk) (e : Ending) (w' : World) : Prop :=
  ∃ a c, e = .returned (.slice a xs.length c) ∧ OwnT w' w.heap.size a c xs ∧ Below w.heap.size w w'

theorem Tryd.infoToken : (Tryd.prog.info? 29).map (fun i => (i.zero, i.size, i.bytes)) = some (some (.agg #[.int .i64 0, .string ByteArray.empty, .int .i64 0]), 3, 32) := by kernel_rfl

end Go.Proofs.YtjnanlfahgjcbaaDoor
