/- The draws of expressions: rows of expressions that a draw makes. -/
import Derived.Test.YtdggcgipchijjaaExWalk
import Derived.Test.YtdggcgipchijjaaDrawQuote
import Derived.Test.YtdggcgipchijjaaDrawPick
import Derived.Test.YtdggcgipchijjaaExTo
namespace Go.Proofs.Ytdggcgipchijjaa
open Go.RowKit

theorem KidsQ.mono {q : Nat → Prop} {w : World} : ∀ {d d' : Nat} {a : Option Addr} {c : Nat} {kids : List Ex}, d ≤ d' → KidsQ q w d a c kids → KidsQ q w d' a c kids
  | 0, _, _, _, _, _, h => h.elim
  | d + 1, 0, _, _, _, hd, _ => by omega
  | d + 1, d' + 1, a, c, kids, hd, h => by
    obtain ⟨h1, h2, h3, h4⟩ := h
    refine ⟨h1, h2, h3, fun hp => ?_⟩
    obtain ⟨b, off, ha, hq, hlt, hc⟩ := h4 hp
    exact ⟨b, off, ha, hq, hlt, fun i hi => (hc i hi).mono fun a' c' hk => KidsQ.mono (by omega) hk⟩

theorem KidsQ.toB {lo : Nat} {q : Nat → Prop} {w : World} (hq : ∀ b, q b → lo ≤ b) : ∀ {d : Nat} {a : Option Addr} {c : Nat} {kids : List Ex}, KidsQ q w d a c kids → KidsB lo w d a c kids
  | 0, _, _, _, h => h
  | d + 1, a, c, kids, h => by
    obtain ⟨h1, h2, h3, h4⟩ := h
    refine ⟨h1, h2, h3, fun hp => ?_⟩
    obtain ⟨b, off, ha, hb, hlt, hc⟩ := h4 hp
    exact ⟨b, off, ha, hq b hb, hlt, fun i hi => (hc i hi).mono fun a' c' hk => KidsQ.toB hq hk⟩

theorem KidsB.toQ {lo : Nat} {w : World} : ∀ {d : Nat} {a : Option Addr} {c : Nat} {kids : List Ex}, KidsB lo w d a c kids → KidsQ (fun b => lo ≤ b) w d a c kids
  | 0, _, _, _, h => h
  | d + 1, a, c, kids, h => by
    obtain ⟨h1, h2, h3, h4⟩ := h
    refine ⟨h1, h2, h3, fun hp => ?_⟩
    obtain ⟨b, off, ha, hb, hlt, hc⟩ := h4 hp
    exact ⟨b, off, ha, hb, hlt, fun i hi => (hc i hi).mono fun a' c' hk => hk.toQ⟩

/-- A row of expressions that the call itself has made. -/
structure Row (lo : Nat) (w : World) (a : Option Addr) (c : Nat) (es : List Es) : Prop where
  own : w.ownsRow lo 26 4 (.slice a es.length c) es.length (ecells es)
  kid : ∀ x ∈ es, x.e.fit ∧ ∃ d, KidsQ (fun b => lo ≤ b ∧ (Value.slice a es.length c).ownBlock ≠ some b) w d x.a x.c x.e.kids

theorem Row.nil (lo : Nat) (w : World) : Row lo w none 0 [] := ⟨World.ownsRow_nil _ _ _ _, fun x hx => by simp at hx⟩

theorem Row.grown {lo : Nat} {w w' : World} {a : Option Addr} {c : Nat} {es : List Es} {row : Option Nat} (h : Row lo w a c es) (hg : w.grownBy w' row) (hr : ∀ k, row = some k → k < lo) : Row lo w' a c es := by
  refine ⟨h.own.kept hg ?_, fun x hx => ⟨(h.kid x hx).1, ?_⟩⟩
  · cases ho : (Value.slice a es.length c).ownBlock with
    | none => exact .inl rfl
    | some g =>
      right
      intro e
      have h1 := (h.own.lt g ho).1
      have h2 := hr g e.symm
      omega
  · obtain ⟨d, hk⟩ := (h.kid x hx).2
    exact ⟨d, hk.agree hg.size fun b hq hb o => cell_grown hg hb (fun e => by have := hr b e; omega) o⟩

theorem Row.alloc {lo : Nat} {w : World} {a : Option Addr} {c : Nat} {es : List Es} (h : Row lo w a c es) (o : Obj) : Row lo (w.alloc o) a c es := by
  have hb : Below w.heap.size w (w.alloc o) := (Below.refl _ _).alloc (Nat.le_refl _) o
  exact h.grown (row := none) ⟨hb.os, hb.tape, hb.output, hb.size, fun k hk _ => hb.block k hk⟩ (by simp)

theorem Row.below {lo : Nat} {w w' : World} {a : Option Addr} {c : Nat} {es : List Es} (h : Row lo w a c es) (hb : Below w.heap.size w w') : Row lo w' a c es :=
  h.grown (row := none) ⟨hb.os, hb.tape, hb.output, hb.size, fun k hk _ => hb.block k hk⟩ (by simp)

theorem Row.set {lo : Nat} {w : World} {a : Option Addr} {c : Nat} {es : List Es} (h : Row lo w a c es) {R : Nat} (hR : R < lo) (j : Nat) (v : Value) : Row lo (w.setCell ⟨R, j, none⟩ v) a c es :=
  h.grown (grown_set w R j v) (fun k hk => by cases hk; exact hR)

theorem Row.lower {lo lo' : Nat} {w : World} {a : Option Addr} {c : Nat} {es : List Es} (h : Row lo w a c es) (hl : lo' ≤ lo) : Row lo' w a c es := by
  refine ⟨⟨h.own.1, ?_⟩, fun x hx => ⟨(h.kid x hx).1, ?_⟩⟩
  · rcases h.own.2 with h2 | ⟨g, cap, cur, hv, hb, r⟩
    · exact .inl h2
    · exact .inr ⟨g, cap, cur, hv, by omega, r⟩
  · obtain ⟨d, hk⟩ := (h.kid x hx).2
    exact ⟨d, hk.imp fun b h _ => ⟨by omega, h.2⟩⟩

theorem Row.push {lo : Nat} {w w' : World} {a a' : Option Addr} {c c' : Nat} {es : List Es} (h : Row lo w a c es) (x : Es) (hf : x.e.fit) {d : Nat} (hk : KidsQ (fun b => lo ≤ b ∧ (Value.slice a es.length c).ownBlock ≠ some b) w d x.a x.c x.e.kids)
    (hown : w'.ownsRow lo 26 4 (.slice a' (es.length + 1) c') (es.length + 1) (ecells es ++ [x.k, x.t, x.n, x.s])) (hg : w.grownBy w' (Value.slice a es.length c).ownBlock)
    (hat : (Value.slice a' (es.length + 1) c').ownBlock = (Value.slice a es.length c).ownBlock ∨ (Value.slice a' (es.length + 1) c').ownBlock = some w.heap.size) : Row lo w' a' c' (es ++ [x]) := by
  have hll : (es ++ [x]).length = es.length + 1 := by simp
  have turn : ∀ {d : Nat} {p : Option Addr} {q : Nat} {kids : List Ex}, KidsQ (fun b => lo ≤ b ∧ (Value.slice a es.length c).ownBlock ≠ some b) w d p q kids → KidsQ (fun b => lo ≤ b ∧ (Value.slice a' (es ++ [x]).length c').ownBlock ≠ some b) w' d p q kids := by
    intro d p q kids hk
    have h1 := hk.imp (q' := fun b => (lo ≤ b ∧ (Value.slice a es.length c).ownBlock ≠ some b) ∧ b < w.heap.size) fun b h hb => ⟨h, hb⟩
    have h2 := h1.agree (w' := w') hg.size fun b hq hb o => cell_grown hg hb (fun e => hq.1.2 e) o
    refine h2.imp fun b hq _ => ⟨hq.1.1, ?_⟩
    rw [hll]
    rcases hat with e | e
    · rw [e]; exact hq.1.2
    · rw [e]; intro e2; have := Option.some.inj e2; omega
  refine ⟨?_, fun y hy => ?_⟩
  · rw [hll, ecells_append]
    exact hown
  · rcases List.mem_append.1 hy with hy | hy
    · obtain ⟨d, hk⟩ := (h.kid y hy).2
      exact ⟨(h.kid y hy).1, d, turn hk⟩
    · rw [List.mem_singleton] at hy
      subst hy
      exact ⟨hf, d, turn hk⟩

theorem Row.kids {lo : Nat} {w : World} {a : Option Addr} {c : Nat} {es : List Es} (h : Row lo w a c es) : ∃ d, KidsB lo w d a c (es.map Es.e) := by
  have hd : ∀ l : List Es, (∀ x ∈ l, ∃ d, KidsQ (fun b => lo ≤ b ∧ (Value.slice a es.length c).ownBlock ≠ some b) w d x.a x.c x.e.kids) → ∃ D, ∀ x ∈ l, KidsQ (fun b => lo ≤ b ∧ (Value.slice a es.length c).ownBlock ≠ some b) w D x.a x.c x.e.kids := by
    intro l
    induction l with
    | nil => intro _; exact ⟨0, fun x hx => by simp at hx⟩
    | cons y r ih =>
      intro hl
      obtain ⟨D, hD⟩ := ih fun x hx => hl x (List.mem_cons_of_mem _ hx)
      obtain ⟨d, hd⟩ := hl y (List.mem_cons_self ..)
      refine ⟨max D d, fun x hx => ?_⟩
      rcases List.mem_cons.1 hx with rfl | hx
      · exact hd.mono (Nat.le_max_right ..)
      · exact (hD x hx).mono (Nat.le_max_left ..)
  obtain ⟨D, hD⟩ := hd es fun x hx => (h.kid x hx).2
  refine ⟨D + 1, ?_⟩
  rcases h.own.2 with ⟨hv, hn⟩ | ⟨g, cap, cur, hv, hB, hg, hnc, hcm, hcs, ht⟩
  · simp only [Value.slice.injEq] at hv
    obtain ⟨rfl, _, rfl⟩ := hv
    have : es = [] := List.eq_nil_of_length_eq_zero hn
    subst this
    exact KidsB.nil _ _ _
  · simp only [Value.slice.injEq] at hv
    obtain ⟨rfl, _, rfl⟩ := hv
    have hgl : g < w.heap.size := by
      rcases Nat.lt_or_ge g w.heap.size with hlt | hge
      · exact hlt
      · rw [Array.getElem?_eq_none hge] at hg; cases hg
    refine ⟨by rw [List.length_map]; exact hnc, hcm, (fun h => by cases h), fun hp => ⟨g, 0, rfl, hB, hgl, fun i hi => ?_⟩⟩
    rw [List.length_map] at hi
    obtain ⟨c0, c1, c2, c3⟩ := ecells_at es i hi
    have hown := h.own
    have e0 := (World.ownsRow.cellAt (w := w) hown (i * 4) (by omega)).trans c0
    have e1 := (World.ownsRow.cellAt (w := w) hown (i * 4 + 1) (by omega)).trans c1
    have e2 := (World.ownsRow.cellAt (w := w) hown (i * 4 + 2) (by omega)).trans c2
    have e3 := (World.ownsRow.cellAt (w := w) hown (i * 4 + 3) (by omega)).trans c3
    have hx := h.kid es[i] (List.getElem_mem hi)
    rw [Nat.zero_add]
    simp only [List.getElem_map]
    exact ⟨e0, e1, e2, hx.1, _, _, e3, (hD es[i] (List.getElem_mem hi)).toB fun b hb => hb.1⟩

/-- One expression in a block of its own. -/
def ExRow (W : World) (R : Nat) (k : Int) (t : ByteArray) (n : Int) (v : Value) : Prop := W.heap[R]? = some (.cells #[.int .i64 k, .string t, .int .i64 n, v] 26 (0, 0))

theorem ExRow.cells {W : World} {R : Nat} {k : Int} {t : ByteArray} {n : Int} {v : Value} (h : ExRow W R k t n v) :
    W.cell? ⟨R, 0, none⟩ = some (.int .i64 k) ∧ W.cell? ⟨R, 1, none⟩ = some (.string t) ∧ W.cell? ⟨R, 2, none⟩ = some (.int .i64 n) ∧ W.cell? ⟨R, 3, none⟩ = some v ∧ ∀ o, W.frozen? ⟨R, o, none⟩ = false := by
  refine ⟨by rw [cell_of_row _ _ _ _ _ _ h]; rfl, by rw [cell_of_row _ _ _ _ _ _ h]; rfl, by rw [cell_of_row _ _ _ _ _ _ h]; rfl, by rw [cell_of_row _ _ _ _ _ _ h]; rfl, fun o => ?_⟩
  unfold World.frozen?
  rw [h]
  simp

theorem ExRow.lt {W : World} {R : Nat} {k : Int} {t : ByteArray} {n : Int} {v : Value} (h : ExRow W R k t n v) : R < W.heap.size := by
  rcases Nat.lt_or_ge R W.heap.size with hlt | hge
  · exact hlt
  · unfold ExRow at h; rw [Array.getElem?_eq_none hge] at h; cases h

theorem ExRow.kept {W W' : World} {R : Nat} {k : Int} {t : ByteArray} {n : Int} {v : Value} {row : Option Nat} (h : ExRow W R k t n v) (hg : W.grownBy W' row) (hne : row ≠ some R) : ExRow W' R k t n v :=
  (hg.block R h.lt (fun e => hne e.symm)).trans h

theorem exRow_new (W : World) (k : Int) (t : ByteArray) (n : Int) (v : Value) : ExRow (W.alloc (.cells #[.int .i64 k, .string t, .int .i64 n, v] 26)) W.heap.size k t n v := heap_alloc_new W _

theorem ExRow.alloc {W : World} {R : Nat} {k : Int} {t : ByteArray} {n : Int} {v : Value} (h : ExRow W R k t n v) (o : Obj) : ExRow (W.alloc o) R k t n v := by
  have hb : Below W.heap.size W (W.alloc o) := (Below.refl _ _).alloc (Nat.le_refl _) o
  exact h.kept (row := none) ⟨hb.os, hb.tape, hb.output, hb.size, fun k hk _ => hb.block k hk⟩ (by simp)

theorem ExRow.below {W W' : World} {R : Nat} {k : Int} {t : ByteArray} {n : Int} {v : Value} (h : ExRow W R k t n v) (hb : Below W.heap.size W W') : ExRow W' R k t n v :=
  h.kept (row := none) ⟨hb.os, hb.tape, hb.output, hb.size, fun k hk _ => hb.block k hk⟩ (by simp)

theorem ExRow.set3 {W : World} {R : Nat} {k : Int} {t : ByteArray} {n : Int} {v : Value} (h : ExRow W R k t n v) (u : Value) : ExRow (W.setCell ⟨R, 3, none⟩ u) R k t n u := by
  unfold ExRow at h ⊢
  show (W.heap.modify R _)[R]? = _
  rw [Array.getElem?_modify, if_pos rfl, h]
  rfl

theorem ExRow.set1 {W : World} {R : Nat} {k : Int} {t : ByteArray} {n : Int} {v : Value} (h : ExRow W R k t n v) (u : ByteArray) : ExRow (W.setCell ⟨R, 1, none⟩ (.string u)) R k u n v := by
  unfold ExRow at h ⊢
  show (W.heap.modify R _)[R]? = _
  rw [Array.getElem?_modify, if_pos rfl, h]
  rfl

theorem ExRow.set2 {W : World} {R : Nat} {k : Int} {t : ByteArray} {n : Int} {v : Value} (h : ExRow W R k t n v) (u : Int) : ExRow (W.setCell ⟨R, 2, none⟩ (.int .i64 u)) R k t u v := by
  unfold ExRow at h ⊢
  show (W.heap.modify R _)[R]? = _
  rw [Array.getElem?_modify, if_pos rfl, h]
  rfl

theorem ExRow.set0 {W : World} {R : Nat} {k : Int} {t : ByteArray} {n : Int} {v : Value} (h : ExRow W R k t n v) (u : Int) : ExRow (W.setCell ⟨R, 0, none⟩ (.int .i64 u)) R u t n v := by
  unfold ExRow at h ⊢
  show (W.heap.modify R _)[R]? = _
  rw [Array.getElem?_modify, if_pos rfl, h]
  rfl

theorem ExRow.setO {W : World} {R R' : Nat} {k : Int} {t : ByteArray} {n : Int} {v : Value} (h : ExRow W R k t n v) (hne : R' ≠ R) (j : Nat) (u : Value) : ExRow (W.setCell ⟨R', j, none⟩ u) R k t n v :=
  h.kept (grown_set W R' j u) (fun e => hne (by cases e; rfl))

/-- The draw's state, and what has turned since w. -/
def DGE (w0 : World) (a : Option Addr) (c : Nat) (l : List UInt8) (g : Nat) (w W : World) : Prop := Deck w0 a c l g W ∧ w.grownBy W (some g)

theorem DGE.set {w0 : World} {a : Option Addr} {c : Nat} {l : List UInt8} {g : Nat} {w W : World} (h : DGE w0 a c l g w W) (hw0 : w0.heap.size ≤ w.heap.size) {R : Nat} (hR : w.heap.size ≤ R) (hne : R ≠ g) (j : Nat) (v : Value) : DGE w0 a c l g w (W.setCell ⟨R, j, none⟩ v) :=
  ⟨h.1.kept (grown_set W R j v) (fun k hk => by cases hk; exact ⟨by omega, hne⟩), h.2.andThen (grown_set W R j v) (fun k hk => by cases hk; exact .inl hR)⟩

theorem DGE.alloc {w0 : World} {a : Option Addr} {c : Nat} {l : List UInt8} {g : Nat} {w W : World} (h : DGE w0 a c l g w W) (o : Obj) : DGE w0 a c l g w (W.alloc o) := ⟨h.1.alloc o, grown_alloc h.2 o⟩
theorem DGE.below {w0 : World} {a : Option Addr} {c : Nat} {l : List UInt8} {g : Nat} {w W W' : World} (h : DGE w0 a c l g w W) (hb : Below W.heap.size W W') : DGE w0 a c l g w W' := ⟨h.1.belowed hb, grown_below h.2 hb⟩
theorem DGE.next {w0 : World} {a : Option Addr} {c : Nat} {l : List UInt8} {g : Nat} {w W W' : World} (h : DGE w0 a c l g w W) (hd : Deck w0 a c l g W') (hg : W.grownBy W' (some g)) : DGE w0 a c l g w W' := ⟨hd, grown_trans h.2 hg⟩
theorem DGE.start {w0 : World} {a : Option Addr} {c : Nat} {l : List UInt8} {g : Nat} {w : World} (h : Deck w0 a c l g w) : DGE w0 a c l g w w := ⟨h, ⟨rfl, rfl, rfl, Nat.le_refl _, fun _ _ _ => rfl⟩⟩
theorem DGE.row {w0 : World} {a : Option Addr} {c : Nat} {l : List UInt8} {g : Nat} {w W W' : World} {row : Option Nat} (h : DGE w0 a c l g w W) (hw0 : w0.heap.size ≤ w.heap.size) (hg : W.grownBy W' row) (hr : ∀ k, row = some k → w.heap.size ≤ k ∧ k ≠ g) : DGE w0 a c l g w W' :=
  ⟨h.1.kept hg (fun k hk => ⟨by have := (hr k hk).1; omega, (hr k hk).2⟩), h.2.andThen hg (fun k hk => .inl (hr k hk).1)⟩

def eOf (k : Int) (t : ByteArray) (n : Int) (es : List Es) : Ex := .mk k t n (es.map Es.e)

/-- A small tree. -/
def Sm (e : Ex) (N : Nat) : Prop := e.fit ∧ e.wt ≤ 64 * e.nodes ∧ e.nodes ≤ N

/-- A small tree, and its kids are. -/
def SmM (e : Ex) (N : Nat) : Prop := Sm e N ∧ e.text.size ≤ 60 ∧ e.kids.length ≤ 2 ∧ wtL e.kids ≤ 64 * nodesL e.kids

/-- What a draw of an expression answers. -/
def MadeE (w0 : World) (a : Option Addr) (c : Nat) (l : List UInt8) (g : Nat) (w : World) (P : Ex → Prop) (x : Ending) (w' : World) : Prop :=
  ∃ (k : Int) (t : ByteArray) (n : Int) (es : List Es) (a' : Option Addr) (c' : Nat), x = .returned (.agg #[.int .i64 k, .string t, .int .i64 n, .slice a' es.length c']) ∧ Row w.heap.size w' a' c' es ∧ P (eOf k t n es) ∧ DGE w0 a c l g w w'

def texts10n : List ByteArray := [⟨#[97]⟩, ⟨#[98]⟩, ⟨#[105, 100]⟩, ⟨#[110, 97, 109, 101]⟩, ⟨#[116, 49]⟩, ⟨#[105, 116, 101, 109]⟩, ⟨#[66, 105, 103]⟩, ⟨#[116, 119, 111, 32, 119, 111, 114, 100, 115]⟩, ⟨#[116, 97, 98, 108, 101]⟩, ⟨#[120, 95, 49]⟩]
theorem texts10n_small : ∀ s ∈ texts10n, s.size ≤ 60 := by unfold texts10n; decide

set_option maxHeartbeats 1000000 in
theorem l03NameS {w0 : World} {a : Option Addr} {c : Nat} {l : List UInt8} {g : Nat} {w : World} (hd : Deck w0 a c l g w) :
    Calls Try.prog 36 #[.pointer (some ⟨g, 0, none⟩)] w (Drawn w0 a c l g w (fun v => ∃ s, v = .string s ∧ s.size ≤ 60)) := by
  go_enter Try.func36, Try.ntmps36
  go_wp2_with fail
  refine (pickLit hd texts10n 10 rfl (fun s hs => by have := texts10n_small s hs; unfold maxLen; omega) (by decide) (by decide) _ rfl).mono ?_
  rintro e w1 ⟨v, ⟨s, rfl, hs⟩, rfl, hd1, hg1⟩
  have hss := texts10n_small s hs
  go_wp2_with fail
  go_ret
  exact ⟨_, ⟨s, rfl, hss⟩, rfl, hd1, (DGE.start hd).alloc _ |>.next hd1 hg1 |>.2⟩

theorem size_allocE (w : World) (o : Obj) : (w.alloc o).heap.size = w.heap.size + 1 := by simp

/-- A list laid behind one new block. -/
theorem pickLit1 {w0 : World} {a : Option Addr} {c : Nat} {l : List UInt8} {g : Nat} {w : World} (hd : Deck w0 a c l g w) (o : Obj) (xs : List ByteArray) (n : Nat) (hl : n = xs.length) (hs : ∀ s ∈ xs, s.size ≤ maxLen) (h0 : 1 ≤ xs.length) (h1 : xs.length ≤ 1000000) (cs : Array Value) (hcs : cs = (xs.map Value.string).toArray) :
    Calls Try.prog 53 #[.pointer (some ⟨g, 0, none⟩), .slice (some ⟨w.heap.size + 1, 0, none⟩) n n] ((w.alloc o).alloc (.cells cs 9)) (Drawn w0 a c l g ((w.alloc o).alloc (.cells cs 9)) (TextIn xs)) := by
  have := pickLit (hd.alloc o) xs n hl hs h0 h1 cs hcs
  rw [size_allocE] at this
  exact this

end Go.Proofs.Ytdggcgipchijjaa
