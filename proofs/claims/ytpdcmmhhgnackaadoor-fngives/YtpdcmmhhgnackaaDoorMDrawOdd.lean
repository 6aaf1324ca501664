/- spec.l04Odd: an expression that may be none; spec.DrawNodes. -/
/- spec.DrawNodes. -/
/- Types: how a value of the document's Type is laid; its equality; Turns of the program and of the model. -/
/- The laws' own helpers over types: the size and the copy. -/
/- What FnTurns draws: types. -/
/- Operands: what impl.sorter knows of an expression; impl.allOf. -/
/- How many letters a list of texts has. -/
import Derived.Test.YtpdcmmhhgnackaaDoorMDrawMk
import Derived.Test.YtpdcmmhhgnackaaDoorMMem
import Derived.Laws.StructEq
import Derived.Test.YtpdcmmhhgnackaaDoorMDrawPick
import Derived.Deep.RegionHeld3
import Derived.Handy
namespace Go.Proofs.YtpdcmmhhgnackaaDoor
open Go.RowKit

def oddsE : List ByteArray := [⟨#[]⟩, ⟨#[97]⟩, ⟨#[65]⟩, ⟨#[49, 97]⟩, ⟨#[97, 34, 98]⟩, ⟨#[99, 97, 102, 195, 169]⟩, ⟨#[115, 101, 108, 101, 99, 116]⟩, ⟨#[97, 97, 97, 97, 97, 97, 97, 97, 97, 97, 97, 97, 97, 97, 97, 97, 97, 97, 97, 97, 97, 97, 97, 97, 97, 97, 97, 97, 97, 97, 97, 97, 97, 97, 97, 97, 97, 97, 97, 97]⟩, ⟨#[97, 97, 97, 97, 97, 97, 97, 97, 97, 97, 97, 97, 97, 97, 97, 97, 97, 97, 97, 97, 97, 97, 97, 97, 97, 97, 97, 97, 97, 97, 97, 97, 97, 97, 97, 97, 97, 97, 97, 97, 97]⟩, ⟨#[97, 0]⟩, ⟨#[95]⟩, ⟨#[32]⟩]
theorem oddsE_small : ∀ s ∈ oddsE, s.size ≤ 60 := by unfold oddsE; decide

set_option maxRecDepth 100000 in
set_option maxHeartbeats 1000000 in
theorem l03OddS {w0 : World} {a : Option Addr} {c : Nat} {l : List UInt8} {g : Nat} {w : World} (hd : Deck w0 a c l g w) :
    Calls Tryd.prog 68 #[.pointer (some ⟨g, 0, none⟩)] w (Drawn w0 a c l g w (fun v => ∃ s, v = .string s ∧ s.size ≤ 60)) := by
  go_enter Tryd.func68, Tryd.ntmps68
  go_wp2_with fail
  refine (pickLit hd oddsE 12 rfl (fun s hs' => by have := oddsE_small s hs'; unfold maxLen; omega) (by decide) (by decide) _ rfl).mono ?_
  rintro e w1 ⟨v, ⟨s, rfl, hs⟩, rfl, hd1, hg1⟩
  have hss := oddsE_small s hs
  have HD := Lib.hid ((DGE.start hd).alloc _ |>.next hd1 hg1)
  clear hd1 hg1
  go_wp2_with fail
  go_ret
  exact ⟨_, ⟨s, rfl, hss⟩, rfl, HD.out.1, HD.out.2⟩

theorem own_form {w : World} {lo n : Nat} {T : TypeId} {v : Value} {xs : List Value} (h : w.ownsRow lo T 4 v (n + 1) xs) : ∃ a c, v = .slice a (n + 1) c := by
  rcases h.2 with ⟨_, h0⟩ | ⟨g', cap, cur, rfl, _⟩
  · omega
  · exact ⟨_, _, rfl⟩

/-- A row beside a box R of its own. -/
structure RowR (lo R : Nat) (w : World) (a : Option Addr) (c : Nat) (es : List Es) : Prop where
  own : w.ownsRow lo 26 4 (.slice a es.length c) es.length (ecells es)
  ne : (Value.slice a es.length c).ownBlock ≠ some R
  kid : ∀ x ∈ es, x.e.fit ∧ ∃ d, KidsQ (fun b => lo ≤ b ∧ b ≠ R ∧ (Value.slice a es.length c).ownBlock ≠ some b) w d x.a x.c x.e.kids

theorem Row.beside {lo : Nat} {w w' : World} {a : Option Addr} {c : Nat} {es : List Es} (h : Row lo w a c es) (hb : Below w.heap.size w w') : RowR lo w.heap.size w' a c es := by
  have h' := h.below hb
  refine ⟨h'.own, fun e => by have := (h.own.lt _ e).2; omega, fun x hx => ⟨(h.kid x hx).1, ?_⟩⟩
  obtain ⟨d, hk⟩ := (h.kid x hx).2
  have h1 := hk.imp (q' := fun b => lo ≤ b ∧ b ≠ w.heap.size ∧ (Value.slice a es.length c).ownBlock ≠ some b) fun b h hlt => ⟨h.1, by omega, h.2⟩
  exact ⟨d, h1.agree hb.size fun b _ hlt o => hb.cell (p := ⟨b, o, none⟩) hlt⟩

theorem RowR.grown {lo R : Nat} {w w' : World} {a : Option Addr} {c : Nat} {es : List Es} {row : Option Nat} (h : RowR lo R w a c es) (hg : w.grownBy w' row) (hr : ∀ k, row = some k → k < lo ∨ k = R) : RowR lo R w' a c es := by
  refine ⟨h.own.kept hg ?_, h.ne, fun x hx => ⟨(h.kid x hx).1, ?_⟩⟩
  · cases ho : (Value.slice a es.length c).ownBlock with
    | none => exact .inl rfl
    | some g =>
      right
      intro e
      have h1 := (h.own.lt g ho).1
      rcases hr g e.symm with h2 | h2
      · omega
      · exact h.ne (by rw [ho, h2])
  · obtain ⟨d, hk⟩ := (h.kid x hx).2
    exact ⟨d, hk.agree hg.size fun b hq hb o => cell_grown hg hb (fun e => by rcases hr b e with h2 | h2; omega; exact hq.2.1 h2) o⟩

theorem RowR.row {lo R : Nat} {w : World} {a : Option Addr} {c : Nat} {es : List Es} (h : RowR lo R w a c es) : Row lo w a c es :=
  ⟨h.own, fun x hx => ⟨(h.kid x hx).1, by obtain ⟨d, hk⟩ := (h.kid x hx).2; exact ⟨d, hk.imp fun b hb _ => ⟨hb.1, hb.2.2⟩⟩⟩⟩

theorem RowR.set {lo R : Nat} {w : World} {a : Option Addr} {c : Nat} {es : List Es} (h : RowR lo R w a c es) {B : Nat} (hB : B < lo ∨ B = R) (j : Nat) (v : Value) : RowR lo R (w.setCell ⟨B, j, none⟩ v) a c es :=
  h.grown (grown_set w B j v) (fun k hk => by cases hk; exact hB)

theorem RowR.below {lo R : Nat} {w w' : World} {a : Option Addr} {c : Nat} {es : List Es} (h : RowR lo R w a c es) (hb : Below w.heap.size w w') : RowR lo R w' a c es :=
  h.grown (row := none) ⟨hb.os, hb.tape, hb.output, hb.size, fun k hk _ => hb.block k hk⟩ (by simp)

/-- The tree of a row lies beside R. -/
theorem RowR.kids {lo R : Nat} {w : World} {a : Option Addr} {c : Nat} {es : List Es} (h : RowR lo R w a c es) : ∃ d, KidsQ (fun b => lo ≤ b ∧ b ≠ R) w d a c (es.map Es.e) := by
  have hd : ∀ l : List Es, (∀ x ∈ l, ∃ d, KidsQ (fun b => lo ≤ b ∧ b ≠ R) w d x.a x.c x.e.kids) → ∃ D, ∀ x ∈ l, KidsQ (fun b => lo ≤ b ∧ b ≠ R) w D x.a x.c x.e.kids := by
    intro l
    induction l with
    | nil => intro _; exact ⟨0, fun x hx => by simp at hx⟩
    | cons y r ih =>
      intro hl
      obtain ⟨D, hD⟩ := ih fun x hx => hl x (List.mem_cons_of_mem _ hx)
      obtain ⟨d, hd⟩ := hl y (List.mem_cons_self ..)
      refine ⟨max D d, fun x hx => ?_⟩
      rcases List.mem_cons.1 hx with rfl | hx
      · exact hd.mono (Nat.le_max_right ..)
      · exact (hD x hx).mono (Nat.le_max_left ..)
  obtain ⟨D, hD⟩ := hd es fun x hx => by obtain ⟨d, hk⟩ := (h.kid x hx).2; exact ⟨d, hk.imp fun b hb _ => ⟨hb.1, hb.2.1⟩⟩
  refine ⟨D + 1, ?_⟩
  rcases h.own.2 with ⟨hv, hn⟩ | ⟨g, cap, cur, hv, hB, hg, hnc, hcm, hcs, ht⟩
  · simp only [Value.slice.injEq] at hv
    obtain ⟨rfl, _, rfl⟩ := hv
    have : es = [] := List.eq_nil_of_length_eq_zero hn
    subst this
    exact ⟨Nat.le_refl _, by unfold maxLen; omega, fun _ => rfl, fun h => absurd h (by simp)⟩
  · have hne := h.ne
    simp only [Value.slice.injEq] at hv
    obtain ⟨rfl, _, rfl⟩ := hv
    have hgl : g < w.heap.size := by
      rcases Nat.lt_or_ge g w.heap.size with hlt | hge
      · exact hlt
      · rw [Array.getElem?_eq_none hge] at hg; cases hg
    refine ⟨by rw [List.length_map]; exact hnc, hcm, (fun h => by cases h), fun hp => ⟨g, 0, rfl, ⟨hB, fun e => hne (by rw [← e]; rfl)⟩, hgl, fun i hi => ?_⟩⟩
    rw [List.length_map] at hi
    obtain ⟨c0, c1, c2, c3⟩ := ecells_at es i hi
    have hown := h.own
    have e0 := (World.ownsRow.cellAt (w := w) hown (i * 4) (by omega)).trans c0
    have e1 := (World.ownsRow.cellAt (w := w) hown (i * 4 + 1) (by omega)).trans c1
    have e2 := (World.ownsRow.cellAt (w := w) hown (i * 4 + 2) (by omega)).trans c2
    have e3 := (World.ownsRow.cellAt (w := w) hown (i * 4 + 3) (by omega)).trans c3
    rw [Nat.zero_add]
    simp only [List.getElem_map]
    exact ⟨e0, e1, e2, (h.kid es[i] (List.getElem_mem hi)).1, _, _, e3, hD es[i] (List.getElem_mem hi)⟩

/-- What stands in l04Odd behind the first draw. -/
structure Odd (w0 : World) (a : Option Addr) (c : Nat) (l : List UInt8) (g : Nat) (w : World) (R : Nat) (k : Int) (t : ByteArray) (n : Int) (N : Nat) (es : List Es) (ak : Option Addr) (ck : Nat) (wr : World) : Prop where
  er : ExRow wr R k t n (.slice ak es.length ck)
  rb : ExRow wr w.heap.size 0 ⟨#[]⟩ 0 (.slice none 0 0)
  dg : DGE w0 a c l g w wr
  row : RowR (w.heap.size + 1) R wr ak ck es
  lt : w.heap.size < R
  kr : i64E k
  nr : i64E n
  ts : t.size ≤ 60
  len : es.length ≤ 3
  wt : wtL (es.map Es.e) ≤ 64 * nodesL (es.map Es.e)
  nd : 1 + nodesL (es.map Es.e) ≤ N

theorem Odd.below {w0 : World} {a : Option Addr} {c : Nat} {l : List UInt8} {g : Nat} {w : World} {R : Nat} {k : Int} {t : ByteArray} {n : Int} {N : Nat} {es : List Es} {ak : Option Addr} {ck : Nat} {wr wr' : World}
    (h : Odd w0 a c l g w R k t n N es ak ck wr) (hb : Below wr.heap.size wr wr') : Odd w0 a c l g w R k t n N es ak ck wr' :=
  ⟨h.er.below hb, h.rb.below hb, h.dg.below hb, h.row.below hb, h.lt, h.kr, h.nr, h.ts, h.len, h.wt, h.nd⟩

theorem Odd.draw {w0 : World} {a : Option Addr} {c : Nat} {l : List UInt8} {g : Nat} {w : World} {R : Nat} {k : Int} {t : ByteArray} {n : Int} {N : Nat} {es : List Es} {ak : Option Addr} {ck : Nat} {wr wr' : World}
    (h : Odd w0 a c l g w R k t n N es ak ck wr) (hgl : g < w.heap.size) (hd : Deck w0 a c l g wr') (hg : wr.grownBy wr' (some g)) : Odd w0 a c l g w R k t n N es ak ck wr' := by
  have hl := h.lt
  exact ⟨h.er.kept hg (fun e => by have := Option.some.inj e; omega), h.rb.kept hg (fun e => by have := Option.some.inj e; omega), h.dg.next hd hg, h.row.grown hg (fun q hq => by cases hq; omega), h.lt, h.kr, h.nr, h.ts, h.len, h.wt, h.nd⟩

/-- The end: the box is copied into the answer's. -/
theorem Odd.done {w0 : World} {a : Option Addr} {c : Nat} {l : List UInt8} {g : Nat} {w : World} {R : Nat} {k : Int} {t : ByteArray} {n : Int} {N : Nat} {es : List Es} {ak : Option Addr} {ck : Nat} {wr : World}
    (h : Odd w0 a c l g w R k t n N es ak ck wr) (hw0 : w0.heap.size ≤ w.heap.size) (hgl : g < w.heap.size) {v0 v1 v2 v3 : Value} {W : World} (hW : W = (((wr.setCell ⟨w.heap.size, 0, none⟩ v0).setCell ⟨w.heap.size, 1, none⟩ v1).setCell ⟨w.heap.size, 2, none⟩ v2).setCell ⟨w.heap.size, 3, none⟩ v3) :
    MadeE w0 a c l g w (fun e => Sm e N) (.returned (.agg #[.int .i64 k, .string t, .int .i64 n, .slice ak es.length ck])) W := by
  subst hW
  exact ⟨k, t, n, es, ak, ck, rfl, ((((h.row.set (.inl (by omega)) _ _).set (.inl (by omega)) _ _).set (.inl (by omega)) _ _).set (.inl (by omega)) _ _).row.lower (by omega), sm_node h.kr h.nr h.ts h.len h.wt h.nd,
    (((h.dg.set hw0 (Nat.le_refl _) (by omega) _ _).set hw0 (Nat.le_refl _) (by omega) _ _).set hw0 (Nat.le_refl _) (by omega) _ _).set hw0 (Nat.le_refl _) (by omega) _ _⟩

/-- A kid more. -/
theorem Odd.push {w0 : World} {a : Option Addr} {c : Nat} {l : List UInt8} {g : Nat} {w : World} {R : Nat} {k : Int} {t : ByteArray} {n : Int} {N : Nat} {es : List Es} {ak : Option Addr} {ck : Nat} {wr w4 : World}
    (h : Odd w0 a c l g w R k t n N es ak ck wr) (hw0 : w0.heap.size ≤ w.heap.size) (hgl : g < w.heap.size) (h2 : es.length ≤ 2) {a4 : Option Addr} {c4 : Nat}
    (hown : w4.ownsRow (w.heap.size + 1) 26 4 (.slice a4 (es.length + 1) c4) (es.length + 1) (ecells es ++ [.int .i64 5, .string ⟨#[]⟩, .int .i64 0, .slice none 0 0])) (hg : wr.grownBy w4 (Value.slice ak es.length ck).ownBlock)
    (hat : (Value.slice a4 (es.length + 1) c4).ownBlock = (Value.slice ak es.length ck).ownBlock ∨ (Value.slice a4 (es.length + 1) c4).ownBlock = some wr.heap.size) :
    Odd w0 a c l g w R k t n (N + 1) (es ++ [⟨.mk 5 ⟨#[]⟩ 0 [], none, 0⟩]) a4 c4 (w4.setCell ⟨R, 3, none⟩ (.slice a4 (es.length + 1) c4)) := by
  have hl := h.lt
  have hRl := h.er.lt
  have hl1 : (es ++ [(⟨.mk 5 ⟨#[]⟩ 0 [], none, 0⟩ : Es)]).length = es.length + 1 := by simp
  have hbk : ∀ b, (Value.slice ak es.length ck).ownBlock = some b → w.heap.size + 1 ≤ b ∧ b < wr.heap.size := fun b hb => h.row.own.lt b hb
  have hneR : (Value.slice ak es.length ck).ownBlock ≠ some R := h.row.ne
  have e4 : ExRow w4 R k t n (.slice ak es.length ck) := h.er.kept hg hneR
  have b4 : ExRow w4 w.heap.size 0 ⟨#[]⟩ 0 (.slice none 0 0) := h.rb.kept hg (fun e => by have := (hbk _ e).1; omega)
  have d4 : DGE w0 a c l g w w4 := h.dg.row hw0 hg (fun q hq => by have := (hbk q hq).1; omega)
  have n4 : (Value.slice a4 (es.length + 1) c4).ownBlock ≠ some R := by
    rcases hat with e | e
    · rw [e]; exact hneR
    · rw [e]; intro e2; have := Option.some.inj e2; omega
  have turn : ∀ {d : Nat} {p : Option Addr} {q : Nat} {kids : List Ex}, KidsQ (fun b => w.heap.size + 1 ≤ b ∧ b ≠ R ∧ (Value.slice ak es.length ck).ownBlock ≠ some b) wr d p q kids → KidsQ (fun b => w.heap.size + 1 ≤ b ∧ b ≠ R ∧ (Value.slice a4 (es.length + 1) c4).ownBlock ≠ some b) w4 d p q kids := by
    intro d p q kids hk
    have h1 := hk.imp (q' := fun b => (w.heap.size + 1 ≤ b ∧ b ≠ R ∧ (Value.slice ak es.length ck).ownBlock ≠ some b) ∧ b < wr.heap.size) fun b h hb => ⟨h, hb⟩
    have h2 := h1.agree (w' := w4) hg.size fun b hq hb o => cell_grown hg hb (fun e => hq.1.2.2 e) o
    refine h2.imp fun b hq _ => ⟨hq.1.1, hq.1.2.1, ?_⟩
    rcases hat with e | e
    · rw [e]; exact hq.1.2.2
    · rw [e]; intro e2; have := Option.some.inj e2; omega
  have r4 : RowR (w.heap.size + 1) R w4 a4 c4 (es ++ [⟨.mk 5 ⟨#[]⟩ 0 [], none, 0⟩]) := by
    refine ⟨by rw [hl1, ecells_append]; exact hown, by rw [hl1]; exact n4, fun y hy => ?_⟩
    rw [hl1]
    rcases List.mem_append.1 hy with hy | hy
    · obtain ⟨d, hk⟩ := (h.row.kid y hy).2
      exact ⟨(h.row.kid y hy).1, d, turn hk⟩
    · rw [List.mem_singleton] at hy
      subst hy
      exact ⟨⟨by show (0 : Nat) ≤ maxLen; unfold maxLen; omega, by unfold i64E; exact ⟨by decide, by decide⟩, by unfold i64E; exact ⟨by decide, by decide⟩⟩, 1, Nat.le_refl _, by show (0 : Nat) ≤ maxLen; unfold maxLen; omega, fun _ => rfl, fun h => absurd h (by simp [Ex.kids])⟩
  obtain ⟨n1, n2⟩ := smL_snoc es ⟨.mk 5 ⟨#[]⟩ 0 [], none, 0⟩
  refine ⟨by rw [hl1]; exact e4.set3 _, b4.setO (by omega) _ _, d4.set hw0 (by omega) (by omega) _ _, r4.set (.inr rfl) _ _, h.lt, h.kr, h.nr, h.ts, by rw [hl1]; omega, ?_, ?_⟩
  · rw [n1, n2]; have := h.wt; show wtL (es.map Es.e) + (Ex.mk 5 ⟨#[]⟩ 0 []).wt ≤ 64 * (nodesL (es.map Es.e) + (Ex.mk 5 ⟨#[]⟩ 0 []).nodes)
    have z : (Ex.mk 5 ⟨#[]⟩ 0 []).wt = 0 := by rw [Ex.wt]; rfl
    omega
  · rw [n1]; have := h.nd; show 1 + (nodesL (es.map Es.e) + (Ex.mk 5 ⟨#[]⟩ 0 []).nodes) ≤ _
    have z : (Ex.mk 5 ⟨#[]⟩ 0 []).nodes = 1 := by rw [Ex.nodes]; rfl
    omega

/-- One and more. -/
theorem Odd.wrap {w0 : World} {a : Option Addr} {c : Nat} {l : List UInt8} {g : Nat} {w : World} {R : Nat} {k : Int} {t : ByteArray} {n : Int} {N : Nat} {es : List Es} {ak : Option Addr} {ck : Nat} {wr W : World}
    (h : Odd w0 a c l g w R k t n N es ak ck wr) (hw0 : w0.heap.size ≤ w.heap.size) (hgl : g < w.heap.size)
    (hW0 : W = ((((wr.setCell ⟨R, 0, none⟩ (.int .i64 8)).setCell ⟨R, 1, none⟩ (.string ⟨#[]⟩)).setCell ⟨R, 2, none⟩ (.int .i64 0)).setCell ⟨R, 3, none⟩ (.slice (some ⟨wr.heap.size, 0, none⟩) 2 2)).alloc (.cells #[.int .i64 k, .string t, .int .i64 n, .slice ak es.length ck, .int .i64 3, .string ⟨#[]⟩, .int .i64 0, .slice none 0 0] 26)) :
    Odd w0 a c l g w R 8 ⟨#[]⟩ 0 (N + 2) [⟨eOf k t n es, ak, ck⟩, ⟨.mk 3 ⟨#[]⟩ 0 [], none, 0⟩] (some ⟨wr.heap.size, 0, none⟩) 2 W := by
  have hl := h.lt
  have hRl := h.er.lt
  have hW : W = ((((wr.alloc (.cells #[.int .i64 k, .string t, .int .i64 n, .slice ak es.length ck, .int .i64 3, .string ⟨#[]⟩, .int .i64 0, .slice none 0 0] 26)).setCell ⟨R, 0, none⟩ (.int .i64 8)).setCell ⟨R, 1, none⟩ (.string ⟨#[]⟩)).setCell ⟨R, 2, none⟩ (.int .i64 0)).setCell ⟨R, 3, none⟩ (.slice (some ⟨wr.heap.size, 0, none⟩) 2 2) := by
    rw [hW0]; simp [go_sem, hRl]
  have hll : (es.map Es.e).length = es.length := List.length_map ..
  have hsm := sm_node h.kr h.nr h.ts h.len h.wt h.nd
  generalize ho : (Obj.cells #[.int .i64 k, .string t, .int .i64 n, .slice ak es.length ck, .int .i64 3, .string ⟨#[]⟩, .int .i64 0, .slice none 0 0] 26) = o at hW
  have hb : Below wr.heap.size wr (wr.alloc o) := (Below.refl _ _).alloc (Nat.le_refl _) o
  have h1 := h.below hb
  obtain ⟨dd, hk⟩ := h.row.kids
  have r1 : RowR (w.heap.size + 1) R (wr.alloc o) (some ⟨wr.heap.size, 0, none⟩) 2 [⟨eOf k t n es, ak, ck⟩, ⟨.mk 3 ⟨#[]⟩ 0 [], none, 0⟩] := by
    refine ⟨?_, ?_, fun y hy => ?_⟩
    · have := World.ownsRow_lit (base := w.heap.size + 1) (e := 26) (size := 4) wr #[.int .i64 k, .string t, .int .i64 n, .slice ak es.length ck, .int .i64 3, .string ⟨#[]⟩, .int .i64 0, .slice none 0 0] 2 (by omega) (by unfold maxLen; omega) rfl
      rw [ho] at this
      have hc : ecells [⟨eOf k t n es, ak, ck⟩, ⟨.mk 3 ⟨#[]⟩ 0 [], none, 0⟩] = [.int .i64 k, .string t, .int .i64 n, .slice ak es.length ck, .int .i64 3, .string ⟨#[]⟩, .int .i64 0, .slice none 0 0] := by
        show [_, _, _, Value.slice ak (es.map Es.e).length ck, _, _, _, _] = _
        rw [hll]; rfl
      rw [hc]
      exact this
    · intro e; have := Option.some.inj e; simp only at this; omega
    · rcases List.mem_cons.1 hy with rfl | hy
      · refine ⟨hsm.1, dd, ?_⟩
        have q1 := hk.imp (q' := fun b => w.heap.size + 1 ≤ b ∧ b ≠ R ∧ (Value.slice (some ⟨wr.heap.size, 0, none⟩) 2 2).ownBlock ≠ some b) fun b hb' hlt => ⟨hb'.1, hb'.2, fun e => by have := Option.some.inj e; simp only at this; omega⟩
        exact q1.agree hb.size fun b _ hlt q => hb.cell (p := ⟨b, q, none⟩) hlt
      · rw [List.mem_singleton] at hy
        subst hy
        exact ⟨⟨by show (0 : Nat) ≤ maxLen; unfold maxLen; omega, by unfold i64E; exact ⟨by decide, by decide⟩, by unfold i64E; exact ⟨by decide, by decide⟩⟩, 1, Nat.le_refl _, by show (0 : Nat) ≤ maxLen; unfold maxLen; omega, fun _ => rfl, fun h => absurd h (by simp [Ex.kids])⟩
  subst hW
  have z1 : (Ex.mk 3 ⟨#[]⟩ 0 []).wt = 0 := by rw [Ex.wt]; rfl
  have z2 : (Ex.mk 3 ⟨#[]⟩ 0 []).nodes = 1 := by rw [Ex.nodes]; rfl
  refine ⟨(((h1.er.set0 8).set1 ⟨#[]⟩).set2 0).set3 _, (((h1.rb.setO (by omega) _ _).setO (by omega) _ _).setO (by omega) _ _).setO (by omega) _ _, (((h1.dg.set hw0 (by omega) (by omega) _ _).set hw0 (by omega) (by omega) _ _).set hw0 (by omega) (by omega) _ _).set hw0 (by omega) (by omega) _ _,
    (((r1.set (.inr rfl) _ _).set (.inr rfl) _ _).set (.inr rfl) _ _).set (.inr rfl) _ _, h.lt, by unfold i64E; exact ⟨by decide, by decide⟩, by unfold i64E; exact ⟨by decide, by decide⟩, by show (0 : Nat) ≤ 60; omega, by simp, ?_, ?_⟩
  · show (eOf k t n es).wt + ((Ex.mk 3 ⟨#[]⟩ 0 []).wt + 0) ≤ 64 * ((eOf k t n es).nodes + ((Ex.mk 3 ⟨#[]⟩ 0 []).nodes + 0)); have := hsm.2.1; omega
  · show 1 + ((eOf k t n es).nodes + ((Ex.mk 3 ⟨#[]⟩ 0 []).nodes + 0)) ≤ N + 2; have := hsm.2.2; omega

set_option maxRecDepth 100000 in
set_option maxHeartbeats 4000000 in
theorem l04OddS {w0 : World} {a : Option Addr} {c : Nat} {l : List UInt8} {g : Nat} {w : World} (hd : Deck w0 a c l g w) (hw0 : w0.heap.size ≤ w.heap.size) :
    Calls Tryd.prog 23 #[.pointer (some ⟨g, 0, none⟩)] w (MadeE w0 a c l g w (fun e => Sm e 64)) := by
  have hgl := hd.lt
  have HD0 := Lib.hid (DGE.start hd)
  have Hd0 := Lib.hid hd
  obtain ⟨i0, hi0, hz0, hz1, hz2⟩ := info_parts Tryd.infoExpr
  clear hd
  go_enter Tryd.func23, Tryd.ntmps23
  go_wp2_with fail
  refine (make3 (Hd0.out.alloc _) (by simp; omega)).mono ?_
  rintro e w1 ⟨k, t, n, es, ak, ck, rfl, hrow, hsm, hdg⟩
  have HB : Hid (Odd w0 a c l g w w1.heap.size k t n 15 es ak ck (w1.alloc (.cells #[.int .i64 k, .string t, .int .i64 n, .slice ak es.length ck] 26))) := by
    have hrb := (exRow_new w 0 ⟨#[]⟩ 0 (.slice none 0 0)).kept hdg.2 (fun e => by have := Option.some.inj e; omega)
    rw [size_allocE] at hrow
    obtain ⟨⟨hfit, _, hN⟩, h60, h2, hw⟩ := hsm
    have hd1 := (HD0.out.alloc (.cells #[.int .i64 0, .string ⟨#[]⟩, .int .i64 0, .slice none 0 0] 26)).next hdg.1 hdg.2
    have hl : (es.map Es.e).length = es.length := List.length_map ..
    have hn := Ex.nodes_eq (eOf k t n es)
    refine ⟨exRow_new w1 k t n (.slice ak es.length ck), hrb.alloc _, hd1.alloc _, hrow.beside ((Below.refl _ _).alloc (Nat.le_refl _) _), hrb.lt, hfit.2.1, hfit.2.2, h60, ?_, hw, ?_⟩
    · have : (es.map Es.e).length ≤ 2 := h2
      omega
    · rw [hn] at hN; exact hN
  have h2 : es.length ≤ 2 := by have : (es.map Es.e).length ≤ 2 := hsm.2.2.1; rw [List.length_map] at this; exact this
  clear hrow hsm hdg
  go_wp2_with fail
  generalize w1.alloc (.cells #[.int .i64 k, .string t, .int .i64 n, .slice ak es.length ck] 26) = W1 at HB ⊢
  generalize w1.heap.size = R at HB ⊢
  refine (l01Below HB.out.dg.1 12 (by omega) (by omega)).mono ?_
  rintro e w2 ⟨v, ⟨x, rfl, hx0, hx1⟩, rfl, hd2, hg2⟩
  have HB2 := Lib.hid (HB.out.draw hgl hd2 hg2)
  have hlt := HB.out.lt
  clear hd2 hg2 HB
  by_cases x0 : x = 0
  · subst x0
    go_wp2_with fail
    refine (l01Below HB2.out.dg.1 21 (by omega) (by omega)).mono ?_
    rintro e w3 ⟨v, ⟨y, rfl, hy0, hy1⟩, rfl, hd3, hg3⟩
    have HB3 := HB2.out.draw hgl hd3 hg3
    obtain ⟨p0, p1, p2, p3, pf⟩ := HB3.er.cells
    have HBX : Hid (Odd w0 a c l g w R (y - 1) t n 15 es ak ck (w3.setCell ⟨R, 0, none⟩ (.int .i64 (y - 1)))) :=
      ⟨HB3.er.set0 _, HB3.rb.setO (by omega) _ _, HB3.dg.set hw0 (by omega) (by omega) _ _, HB3.row.set (.inr rfl) _ _, HB3.lt, by unfold i64E; omega, HB3.nr, HB3.ts, HB3.len, HB3.wt, HB3.nd⟩
    clear HB3 hd3 hg3
    obtain ⟨r0, r1, r2, r3, rf⟩ := HBX.out.er.cells
    obtain ⟨b0, b1, b2, b3, bf⟩ := HBX.out.rb.cells
    have hne : w.heap.size ≠ R := by omega
    go_wp2_with fail
    refine bodyPost_ret (v := .agg #[.int .i64 (y - 1), .string t, .int .i64 n, .slice ak es.length ck]) (by simp [results, Tryd.results23, go_sem, b0, b1, b2, b3]) rfl ?_
    obtain ⟨k', t', n', es', ak', ck', q1, q2, q3, q4⟩ := HBX.out.done hw0 hgl rfl
    exact ⟨k', t', n', es', ak', ck', q1, q2, ⟨q3.1, q3.2.1, by have := q3.2.2; omega⟩, q4⟩
  by_cases x1 : x = 1
  · subst x1
    clear x0
    go_wp2_with fail
    refine (l03OddS HB2.out.dg.1).mono ?_
    rintro e w3 ⟨v, ⟨s, rfl, hss⟩, rfl, hd3, hg3⟩
    have HB3 := HB2.out.draw hgl hd3 hg3
    obtain ⟨p0, p1, p2, p3, pf⟩ := HB3.er.cells
    have HBX : Hid (Odd w0 a c l g w R k s n 15 es ak ck (w3.setCell ⟨R, 1, none⟩ (.string s))) :=
      ⟨HB3.er.set1 _, HB3.rb.setO (by omega) _ _, HB3.dg.set hw0 (by omega) (by omega) _ _, HB3.row.set (.inr rfl) _ _, HB3.lt, HB3.kr, HB3.nr, hss, HB3.len, HB3.wt, HB3.nd⟩
    clear HB3 hd3 hg3
    obtain ⟨r0, r1, r2, r3, rf⟩ := HBX.out.er.cells
    obtain ⟨b0, b1, b2, b3, bf⟩ := HBX.out.rb.cells
    have hne : w.heap.size ≠ R := by omega
    go_wp2_with fail
    refine bodyPost_ret (v := .agg #[.int .i64 k, .string s, .int .i64 n, .slice ak es.length ck]) (by simp [results, Tryd.results23, go_sem, b0, b1, b2, b3]) rfl ?_
    obtain ⟨k', t', n', es', ak', ck', q1, q2, q3, q4⟩ := HBX.out.done hw0 hgl rfl
    exact ⟨k', t', n', es', ak', ck', q1, q2, ⟨q3.1, q3.2.1, by have := q3.2.2; omega⟩, q4⟩
  by_cases x2 : x = 2
  · subst x2
    clear x0 x1
    go_wp2_with fail
    refine (l01PickIntP (HB2.out.dg.alloc _).1 (fun z => -1 ≤ z ∧ z ≤ 1000000000) w2.heap.size 3 _ (heap_alloc_new _ _) (by have := HB2.out.dg.1.lt; omega) rfl (by omega) (by omega) ?_).mono ?_
    · intro k v hv
      have hm := Array.mem_of_getElem? hv
      simp only [List.mem_toArray, List.mem_cons, List.not_mem_nil, or_false] at hm
      rcases hm with rfl | rfl | rfl <;> exact ⟨_, rfl, by omega, by omega⟩
    rintro e w3 ⟨v, ⟨y, rfl, hy⟩, rfl, hd3, hg3⟩
    have HB3 := (HB2.out.below ((Below.refl _ _).alloc (Nat.le_refl _) _)).draw hgl hd3 hg3
    obtain ⟨p0, p1, p2, p3, pf⟩ := HB3.er.cells
    have HBX : Hid (Odd w0 a c l g w R k t y 15 es ak ck (w3.setCell ⟨R, 2, none⟩ (.int .i64 y))) :=
      ⟨HB3.er.set2 _, HB3.rb.setO (by omega) _ _, HB3.dg.set hw0 (by omega) (by omega) _ _, HB3.row.set (.inr rfl) _ _, HB3.lt, HB3.kr, by unfold i64E; omega, HB3.ts, HB3.len, HB3.wt, HB3.nd⟩
    clear HB3 hd3 hg3
    obtain ⟨r0, r1, r2, r3, rf⟩ := HBX.out.er.cells
    obtain ⟨b0, b1, b2, b3, bf⟩ := HBX.out.rb.cells
    have hne : w.heap.size ≠ R := by omega
    go_wp2_with fail
    refine bodyPost_ret (v := .agg #[.int .i64 k, .string t, .int .i64 y, .slice ak es.length ck]) (by simp [results, Tryd.results23, go_sem, b0, b1, b2, b3]) rfl ?_
    obtain ⟨k', t', n', es', ak', ck', q1, q2, q3, q4⟩ := HBX.out.done hw0 hgl rfl
    exact ⟨k', t', n', es', ak', ck', q1, q2, ⟨q3.1, q3.2.1, by have := q3.2.2; omega⟩, q4⟩
  by_cases x3 : x = 3
  · subst x3
    clear x0 x1 x2
    obtain ⟨p0, p1, p2, p3, pf⟩ := HB2.out.er.cells
    have hRl := HB2.out.er.lt
    have hRz : w.heap.size + 1 ≤ w2.heap.size := by omega
    go_wp2_with (at_builtin; refine wpList_append_own_at _ rfl (.tmp 30) (.tmp 32) 24 rfl (w.heap.size + 1) 26 i0 (.agg #[.int .i64 0, .string ByteArray.empty, .int .i64 0, .slice none 0 0]) 4 56 Tryd.underlying24 hi0 hz0 hz1 hz2 rfl (by decide) (.slice ak es.length ck) es.length (ecells es) rfl (HB2.out.below ((Below.refl _ _).alloc (Nat.le_refl _) _)).row.own ⟨w2.heap.size, 0, none⟩ 1 1 [.int .i64 5, .string ⟨#[]⟩, .int .i64 0, .slice none 0 0] rfl rfl (World.news_of_block (heap_alloc_new w2 _)) (fun u hu => by simp at hu; rcases hu with rfl | rfl | rfl | rfl <;> rfl) (by unfold maxLen; omega) (by omega) (by simp; omega) ?_; intro v4 w4 hown4 hg4 _ hat4; obtain ⟨a4, c4, rfl⟩ := own_form hown4; obtain ⟨y0, y1, y2, y3, yf⟩ := (((HB2.out.er.alloc _).kept hg4 HB2.out.row.ne)).cells; obtain ⟨b0, b1, b2, b3, bf⟩ := (((HB2.out.rb.alloc _).kept hg4 (fun e => by have := (HB2.out.row.own.lt _ e).1; omega))).cells; have hneR : w.heap.size ≠ R := (by omega); have HBX := Lib.hid ((HB2.out.below ((Below.refl _ _).alloc (Nat.le_refl _) _)).push hw0 hgl h2 hown4 hg4 hat4); clear hown4 hg4 hat4)
    have hl1 : (es ++ [(⟨.mk 5 ⟨#[]⟩ 0 [], none, 0⟩ : Es)]).length = es.length + 1 := by simp
    refine bodyPost_ret (v := .agg #[.int .i64 k, .string t, .int .i64 n, .slice a4 (es.length + 1) c4]) (by simp [results, Tryd.results23, go_sem, b0, b1, b2, b3]) rfl ?_
    obtain ⟨k', t', n', es', ak', ck', q1, q2, q3, q4⟩ := HBX.out.done hw0 hgl rfl
    rw [hl1] at q1
    exact ⟨k', t', n', es', ak', ck', q1, q2, ⟨q3.1, q3.2.1, by have := q3.2.2; omega⟩, q4⟩
  by_cases x4 : x = 4
  · subst x4
    clear x0 x1 x2 x3
    go_wp2_with fail
    refine (l01Below HB2.out.dg.1 4 (by omega) (by omega)).mono ?_
    rintro e w3 ⟨v, ⟨y, rfl, hy0, hy1⟩, rfl, hd3, hg3⟩
    have HB3 := Lib.hid (HB2.out.draw hgl hd3 hg3)
    clear hd3 hg3 HB2
    go_wp2_with fail
    go_loopw [5] (fun i wr => ∃ (j : Nat) (k : Int) (t : ByteArray) (n : Int) (es : List Es) (ak : Option Addr) (ck : Nat), i = .int .i64 (j : Int) ∧ (j : Int) ≤ 18 + y ∧ Hid (Odd w0 a c l g w R k t n (15 + 2 * j) es ak ck wr)) (fun i _ => 22 - (intOf i).toNat)
    case atStart => exact ⟨0, k, t, n, es, ak, ck, rfl, by omega, HB3⟩
    case round =>
      obtain ⟨j, k, t, n, es, ak, ck, rfl, hj, HBX⟩ := hrel
      by_cases hlt' : (j : Int) < 18 + y
      · obtain ⟨r0, r1, r2, r3, rf⟩ := HBX.out.er.cells
        have hRl := HBX.out.er.lt
        go_wp2_with fail
        go_roundw
        case rel => exact ⟨j + 1, 8, ⟨#[]⟩, 0, [⟨eOf k t n es, ak, ck⟩, ⟨.mk 3 ⟨#[]⟩ 0 [], none, 0⟩], some ⟨wr.heap.size, 0, none⟩, 2, by go_num, by omega, HBX.out.wrap hw0 hgl rfl⟩
        case measure => simp [intOf]; omega
      · have hjy : 15 + 2 * j ≤ 64 := by omega
        obtain ⟨r0, r1, r2, r3, rf⟩ := HBX.out.er.cells
        obtain ⟨b0, b1, b2, b3, bf⟩ := HBX.out.rb.cells
        have hne : w.heap.size ≠ R := by omega
        go_wp2_with fail
        refine bodyPost_ret (v := .agg #[.int .i64 k, .string t, .int .i64 n, .slice ak es.length ck]) (by simp [results, Tryd.results23, go_sem, b0, b1, b2, b3]) rfl ?_
        obtain ⟨k', t', n', es', ak', ck', q1, q2, q3, q4⟩ := HBX.out.done hw0 hgl rfl
        exact ⟨k', t', n', es', ak', ck', q1, q2, ⟨q3.1, q3.2.1, by have := q3.2.2; omega⟩, q4⟩
  have HBX := HB2
  have n0 : (x == 0) = false := by simp; exact x0
  have n1 : (x == 1) = false := by simp; exact x1
  have n2 : (x == 2) = false := by simp; exact x2
  have n3 : (x == 3) = false := by simp; exact x3
  have n4 : (x == 4) = false := by simp; exact x4
  obtain ⟨r0, r1, r2, r3, rf⟩ := HBX.out.er.cells
  obtain ⟨b0, b1, b2, b3, bf⟩ := HBX.out.rb.cells
  have hne : w.heap.size ≠ R := by omega
  go_wp2_with fail
  refine bodyPost_ret (v := .agg #[.int .i64 k, .string t, .int .i64 n, .slice ak es.length ck]) (by simp [results, Tryd.results23, go_sem, b0, b1, b2, b3]) rfl ?_
  obtain ⟨k', t', n', es', ak', ck', q1, q2, q3, q4⟩ := HBX.out.done hw0 hgl rfl
  exact ⟨k', t', n', es', ak', ck', q1, q2, ⟨q3.1, q3.2.1, by have := q3.2.2; omega⟩, q4⟩

end Go.Proofs.YtpdcmmhhgnackaaDoor

namespace Go.Proofs.YtpdcmmhhgnackaaDoor
open Go.RowKit

/-- What the law draws: a small tree. -/
def DrewE (w : World) (x : Ending) (w' : World) : Prop :=
  ∃ (e : Ex) (a' : Option Addr) (c' d : Nat), x = .returned (.agg #[.int .i64 e.kind, .string e.text, .int .i64 e.num, .slice a' e.kids.length c']) ∧ Sm e 64 ∧ KidsAt w' d a' c' e.kids ∧ (∀ b o s, a' = some ⟨b, o, s⟩ → b < w'.heap.size) ∧ Below w.heap.size w w'

theorem drewE_row {w w1 w2 W : World} {k n : Int} {t : ByteArray} {es : List Es} {a' : Option Addr} {c' : Nat} (hR : w.heap.size < w1.heap.size) (hrow : Row w1.heap.size w2 a' c' es) (hsm : Sm (eOf k t n es) 64) (hb : Below w.heap.size w w2) {v0 v1 v2 v3 : Value}
    (hW : W = (((w2.setCell ⟨w.heap.size, 0, none⟩ v0).setCell ⟨w.heap.size, 1, none⟩ v1).setCell ⟨w.heap.size, 2, none⟩ v2).setCell ⟨w.heap.size, 3, none⟩ v3) : DrewE w (.returned (.agg #[.int .i64 k, .string t, .int .i64 n, .slice a' es.length c'])) W := by
  subst hW
  have hl : (es.map Es.e).length = es.length := List.length_map ..
  have hr := (((hrow.set hR 0 v0).set hR 1 v1).set hR 2 v2).set hR 3 v3
  obtain ⟨d, hk⟩ := hr.kids
  refine ⟨eOf k t n es, a', c', d, ?_, hsm, hk.at, fun b o s h => ?_, ?_⟩
  · show _ = Ending.returned (.agg #[.int .i64 k, .string t, .int .i64 n, .slice a' (es.map Es.e).length c'])
    rw [hl]
  · subst h
    exact (hr.own.lt b rfl).2
  · exact (((hb.setCell (p := ⟨w.heap.size, 0, none⟩) (Nat.le_refl _) v0).setCell (p := ⟨w.heap.size, 1, none⟩) (Nat.le_refl _) v1).setCell (p := ⟨w.heap.size, 2, none⟩) (Nat.le_refl _) v2).setCell (p := ⟨w.heap.size, 3, none⟩) (Nat.le_refl _) v3

end Go.Proofs.YtpdcmmhhgnackaaDoor

namespace Go.Proofs.YtpdcmmhhgnackaaDoor
open Go.RowKit

structure Ty where
  kind : Int
  len : Int
  name : ByteArray

def Ty.v (t : Ty) : Value := .agg #[.int .i64 t.kind, .int .i64 t.len, .string t.name]
/-- The name is a text that fits; the numbers are ints. -/
def Ty.ok (t : Ty) : Prop := t.name.size ≤ maxLen ∧ (Lit.int .i64 t.kind).wf = true ∧ (Lit.int .i64 t.len).wf = true
def tyEq (t u : Ty) : Bool := t.kind == u.kind && (t.len == u.len && t.name.toList == u.name.toList)

theorem tyEq_refl (t : Ty) : tyEq t t = true := by simp [tyEq]
theorem tyEq_kind {t u : Ty} (h : tyEq t u = true) : t.kind = u.kind := by simp [tyEq] at h; exact h.1

def turnsB (t u : Ty) : Bool := tyEq t u || (u.kind == 1 || (t.kind == 1 && (u.kind == 3 || u.kind == 4)))

theorem eqlTy (k l : Int) (s : ByteArray) (k' l' : Int) (s' : ByteArray) (w : World) :
    (binOp .eql 28 (.agg #[.int .i64 k, .int .i64 l, .string s]) (.agg #[.int .i64 k', .int .i64 l', .string s'])).run Tryd.prog w = .ok (.bool (tyEq ⟨k, l, s⟩ ⟨k', l', s'⟩)) w := by
  have u3 := Tryd.underlying3
  have u9 := Tryd.underlying9
  have hS : Tryd.prog.underlying 28 = some (.struct (Tryd.prog.fieldsOf 28)) := by kernel_rfl
  have hp : Tryd.prog.stoodInHeld 28 = false := by kernel_rfl
  rw [run_eql_struct, show (10000 : Nat) = 9999 + 1 from rfl, run_equalIn_agg w 9999 28 _ _ hS hp]
  simp only [Program.fieldsOf, Tryd.underlying28]
  unfold tyEq
  go_simp
  by_cases h1 : k = k' <;> by_cases h2 : l = l' <;> by_cases h3 : s.toList = s'.toList <;> simp [h1, h2, h3]

theorem guardTy (x y : Operand) (k l : Int) (s : ByteArray) (k' l' : Int) (s' : ByteArray) (w : World) :
    (eqGuard .eql 28 x y (.agg #[.int .i64 k, .int .i64 l, .string s]) (.agg #[.int .i64 k', .int .i64 l', .string s'])).run Tryd.prog w = .ok () w :=
  run_eqGuard_agg w .eql 28 x y _ _ (by kernel_rfl)

theorem below2 (w : World) (o o' : Obj) : Below w.heap.size w ((w.alloc o).alloc o') := ((Below.refl _ _).alloc (Nat.le_refl _) _).alloc (by simp) _

end Go.Proofs.YtpdcmmhhgnackaaDoor

namespace Go.Proofs.YtpdcmmhhgnackaaDoor
open Go.RowKit

set_option maxHeartbeats 1000000 in
theorem szTy (k l : Int) (s : ByteArray) (n : Int) (w : World) (hs : s.size ≤ maxLen) (h0 : 0 ≤ n) (h1 : n ≤ 1048576) :
    Calls Tryd.prog 47 #[.agg #[.int .i64 k, .int .i64 l, .string s], .int .i64 n] w fun e w' => e = .returned (.int .i64 (if n - s.size < 0 then -1 else n - s.size)) ∧ Below w.heap.size w w' := by
  unfold maxLen at hs
  by_cases h : n - (s.size : Int) < 0
  · rw [if_pos h]
    go_enter Tryd.func47, Tryd.ntmps47
    go_wp2
    go_ret
    exact ⟨rfl, (Below.refl _ _).alloc (Nat.le_refl _) _⟩
  · rw [if_neg h]
    have hd : decide (n - (s.size : Int) < 0) = false := by simpa using h
    go_enter Tryd.func47, Tryd.ntmps47
    go_wp2
    go_ret
    exact ⟨rfl, (Below.refl _ _).alloc (Nat.le_refl _) _⟩

set_option maxHeartbeats 1000000 in
theorem toTy (k l : Int) (s : ByteArray) (w : World) :
    Calls Tryd.prog 56 #[.agg #[.int .i64 k, .int .i64 l, .string s]] w fun e w' => e = .returned (.agg #[.int .i64 k, .int .i64 l, .string s]) ∧ Below w.heap.size w w' := by
  go_enter Tryd.func56, Tryd.ntmps56
  go_wp2
  refine bodyPost_ret (v := .agg #[.int .i64 k, .int .i64 l, .string s]) (by simp [results, Tryd.results56, go_sem]) rfl ⟨rfl, ?_⟩
  exact (((Below.refl _ _).alloc (Nat.le_refl _) _).alloc (by simp) _).alloc (by simp; omega) _

/-- Two types lie in the blocks p and q. -/
def Lie2 (p q : Nat) (k l : Int) (s : ByteArray) (k' l' : Int) (s' : ByteArray) (w : World) : Prop :=
  w.cell? ⟨p, 0, none⟩ = some (.int .i64 k) ∧ w.cell? ⟨p, 1, none⟩ = some (.int .i64 l) ∧ w.cell? ⟨p, 2, none⟩ = some (.string s) ∧
  w.cell? ⟨q, 0, none⟩ = some (.int .i64 k') ∧ w.cell? ⟨q, 1, none⟩ = some (.int .i64 l') ∧ w.cell? ⟨q, 2, none⟩ = some (.string s')

theorem Lie2.below {p q : Nat} {k l : Int} {s : ByteArray} {k' l' : Int} {s' : ByteArray} {w w' : World} (h : Lie2 p q k l s k' l' s' w) (hp : p < w.heap.size) (hq : q < w.heap.size) (hb : Below w.heap.size w w') : Lie2 p q k l s k' l' s' w' := by
  obtain ⟨h1, h2, h3, h4, h5, h6⟩ := h
  exact ⟨(hb.cell (p := ⟨p, 0, none⟩) hp).trans h1, (hb.cell (p := ⟨p, 1, none⟩) hp).trans h2, (hb.cell (p := ⟨p, 2, none⟩) hp).trans h3,
    (hb.cell (p := ⟨q, 0, none⟩) hq).trans h4, (hb.cell (p := ⟨q, 1, none⟩) hq).trans h5, (hb.cell (p := ⟨q, 2, none⟩) hq).trans h6⟩

theorem lie2_new (w : World) (T T' : TypeId) (k l : Int) (s : ByteArray) (k' l' : Int) (s' : ByteArray) :
    Lie2 w.heap.size (w.heap.size + 1) k l s k' l' s' ((w.alloc (.cells #[.int .i64 k, .int .i64 l, .string s] T)).alloc (.cells #[.int .i64 k', .int .i64 l', .string s'] T')) := by
  have h1 : ∀ o, ((w.alloc (.cells #[.int .i64 k, .int .i64 l, .string s] T)).alloc (.cells #[.int .i64 k', .int .i64 l', .string s'] T')).cell? ⟨w.heap.size, o, none⟩ = (w.alloc (.cells #[.int .i64 k, .int .i64 l, .string s] T)).cell? ⟨w.heap.size, o, none⟩ :=
    fun o => World.cell?_alloc_lt _ _ _ (by simp)
  have h2 : (w.alloc (.cells #[.int .i64 k, .int .i64 l, .string s] T)).heap.size = w.heap.size + 1 := by simp
  unfold Lie2
  rw [h1, h1, h1, cell_of_row _ _ _ _ _ _ (heap_alloc_new w _), cell_of_row _ _ _ _ _ _ (heap_alloc_new w _), cell_of_row _ _ _ _ _ _ (heap_alloc_new w _), ← h2,
    cell_of_row _ _ _ _ _ _ (heap_alloc_new _ _), cell_of_row _ _ _ _ _ _ (heap_alloc_new _ _), cell_of_row _ _ _ _ _ _ (heap_alloc_new _ _)]
  exact ⟨rfl, rfl, rfl, rfl, rfl, rfl⟩

/-- .. behind the world w0, in blocks that are there. -/
def Lay2 (w0 : World) (p q : Nat) (k l : Int) (s : ByteArray) (k' l' : Int) (s' : ByteArray) (w : World) : Prop :=
  Lie2 p q k l s k' l' s' w ∧ p < w.heap.size ∧ q < w.heap.size ∧ Below w0.heap.size w0 w

theorem Lay2.below {w0 : World} {p q : Nat} {k l : Int} {s : ByteArray} {k' l' : Int} {s' : ByteArray} {w w' : World} (h : Lay2 w0 p q k l s k' l' s' w) (hb : Below w.heap.size w w') : Lay2 w0 p q k l s k' l' s' w' :=
  ⟨h.1.below h.2.1 h.2.2.1 hb, Nat.lt_of_lt_of_le h.2.1 hb.size, Nat.lt_of_lt_of_le h.2.2.1 hb.size, h.2.2.2.trans (hb.mono h.2.2.2.size)⟩

theorem Lay2.drew {w0 : World} {p q : Nat} {k l : Int} {s : ByteArray} {k' l' : Int} {s' : ByteArray} {w : World} (h : Lay2 w0 p q k l s k' l' s' w) : Lay2 w0 p q k l s k' l' s' w.drew :=
  h.below ⟨rfl, rfl, rfl, Nat.le_refl _, fun _ _ => rfl⟩

theorem lay2_new (w : World) (T T' : TypeId) (k l : Int) (s : ByteArray) (k' l' : Int) (s' : ByteArray) :
    Lay2 w w.heap.size (w.heap.size + 1) k l s k' l' s' ((w.alloc (.cells #[.int .i64 k, .int .i64 l, .string s] T)).alloc (.cells #[.int .i64 k', .int .i64 l', .string s'] T')) :=
  ⟨lie2_new w T T' k l s k' l' s', by simp; omega, by simp, below2 w _ _⟩

/-- A type lies in the block p, behind the world w0. -/
def Lay1 (w0 : World) (p : Nat) (k l : Int) (s : ByteArray) (w : World) : Prop :=
  (w.cell? ⟨p, 0, none⟩ = some (.int .i64 k) ∧ w.cell? ⟨p, 1, none⟩ = some (.int .i64 l) ∧ w.cell? ⟨p, 2, none⟩ = some (.string s)) ∧ p < w.heap.size ∧ Below w0.heap.size w0 w

theorem Lay1.below {w0 : World} {p : Nat} {k l : Int} {s : ByteArray} {w w' : World} (h : Lay1 w0 p k l s w) (hb : Below w.heap.size w w') : Lay1 w0 p k l s w' :=
  ⟨⟨(hb.cell (p := ⟨p, 0, none⟩) h.2.1).trans h.1.1, (hb.cell (p := ⟨p, 1, none⟩) h.2.1).trans h.1.2.1, (hb.cell (p := ⟨p, 2, none⟩) h.2.1).trans h.1.2.2⟩,
    Nat.lt_of_lt_of_le h.2.1 hb.size, h.2.2.trans (hb.mono h.2.2.size)⟩

theorem Lay1.drew {w0 : World} {p : Nat} {k l : Int} {s : ByteArray} {w : World} (h : Lay1 w0 p k l s w) : Lay1 w0 p k l s w.drew := h.below ⟨rfl, rfl, rfl, Nat.le_refl _, fun _ _ => rfl⟩

theorem Lay1.alloc {w0 : World} {p : Nat} {k l : Int} {s : ByteArray} {w : World} (h : Lay1 w0 p k l s w) (o : Obj) : Lay1 w0 p k l s (w.alloc o) := h.below ((Below.refl _ _).alloc (Nat.le_refl _) _)

theorem lay1_new (w : World) (T : TypeId) (k l : Int) (s : ByteArray) : Lay1 w w.heap.size k l s (w.alloc (.cells #[.int .i64 k, .int .i64 l, .string s] T)) := by
  refine ⟨?_, by simp, (Below.refl _ _).alloc (Nat.le_refl _) _⟩
  rw [cell_of_row _ _ _ _ _ _ (heap_alloc_new w _), cell_of_row _ _ _ _ _ _ (heap_alloc_new w _), cell_of_row _ _ _ _ _ _ (heap_alloc_new w _)]
  exact ⟨rfl, rfl, rfl⟩

end Go.Proofs.YtpdcmmhhgnackaaDoor

namespace Go.Proofs.YtpdcmmhhgnackaaDoor
open Go.RowKit

/-- A type lies in block R. -/
def TyRow (W : World) (R : Nat) (k l : Int) (s : ByteArray) : Prop := W.heap[R]? = some (.cells #[.int .i64 k, .int .i64 l, .string s] 28 (0, 0))

theorem TyRow.cells {W : World} {R : Nat} {k l : Int} {s : ByteArray} (h : TyRow W R k l s) :
    W.cell? ⟨R, 0, none⟩ = some (.int .i64 k) ∧ W.cell? ⟨R, 1, none⟩ = some (.int .i64 l) ∧ W.cell? ⟨R, 2, none⟩ = some (.string s) ∧ ∀ j, W.frozen? ⟨R, j, none⟩ = false := by
  refine ⟨?_, ?_, ?_, fun j => frozen_of_row _ _ _ _ _ h⟩ <;> rw [cell_of_row _ _ _ _ _ _ h] <;> rfl

theorem TyRow.lt {W : World} {R : Nat} {k l : Int} {s : ByteArray} (h : TyRow W R k l s) : R < W.heap.size := by
  rcases Nat.lt_or_ge R W.heap.size with h' | h'
  · exact h'
  · unfold TyRow at h; rw [Array.getElem?_eq_none h'] at h; cases h

theorem TyRow.kept {W W' : World} {R g : Nat} {k l : Int} {s : ByteArray} (h : TyRow W R k l s) (hg : W.grownBy W' (some g)) (hne : R ≠ g) : TyRow W' R k l s :=
  (hg.block R h.lt (fun e => hne (by cases e; rfl))).trans h

theorem TyRow.alloc {W : World} {R : Nat} {k l : Int} {s : ByteArray} (h : TyRow W R k l s) (o : Obj) : TyRow (W.alloc o) R k l s :=
  (((Below.refl W.heap.size W).alloc (Nat.le_refl _) o).block R h.lt).trans h

theorem tyRow_new (W : World) (k l : Int) (s : ByteArray) : TyRow (W.alloc (.cells #[.int .i64 k, .int .i64 l, .string s] 28)) W.heap.size k l s := heap_alloc_new W _

/-- The cursor stands, and w has turned in it and in new blocks alone. -/
def DG (w0 : World) (a : Option Addr) (c : Nat) (l : List UInt8) (g : Nat) (w W : World) : Prop := Deck w0 a c l g W ∧ w.grownBy W (some g)

theorem DG.set {w0 : World} {a : Option Addr} {c : Nat} {l : List UInt8} {g : Nat} {w W : World} (h : DG w0 a c l g w W) (hw0 : w0.heap.size ≤ w.heap.size) {R : Nat} (hR : w.heap.size ≤ R) (hne : R ≠ g) (j : Nat) (v : Value) : DG w0 a c l g w (W.setCell ⟨R, j, none⟩ v) :=
  ⟨h.1.kept (grown_set W R j v) (fun k hk => by cases hk; exact ⟨Nat.le_trans hw0 hR, hne⟩), grown_any h.2 (grown_set W R j v) (fun j e => by cases e; exact hR)⟩

theorem DG.alloc {w0 : World} {a : Option Addr} {c : Nat} {l : List UInt8} {g : Nat} {w W : World} (h : DG w0 a c l g w W) (o : Obj) : DG w0 a c l g w (W.alloc o) := ⟨h.1.alloc o, grown_alloc h.2 o⟩

theorem DG.next {w0 : World} {a : Option Addr} {c : Nat} {l : List UInt8} {g : Nat} {w W W' : World} (h : DG w0 a c l g w W) (hd : Deck w0 a c l g W') (hg : W.grownBy W' (some g)) : DG w0 a c l g w W' := ⟨hd, grown_trans h.2 hg⟩

theorem DG.start {w0 : World} {a : Option Addr} {c : Nat} {l : List UInt8} {g : Nat} {w : World} (h : Deck w0 a c l g w) : DG w0 a c l g w w := ⟨h, ⟨rfl, rfl, rfl, Nat.le_refl _, fun _ _ _ => rfl⟩⟩

def IsTy (v : Value) : Prop := ∃ (k l : Int) (s : ByteArray), v = .agg #[.int .i64 k, .int .i64 l, .string s]

def moods : List ByteArray := [⟨#[109, 111, 111, 100]⟩, ⟨#[115, 105, 122, 101]⟩]
theorem moods_small : ∀ s ∈ moods, s.size ≤ 10 := by unfold moods; decide

set_option maxRecDepth 100000 in
set_option maxHeartbeats 4000000 in
theorem l03Type {w0 : World} {a : Option Addr} {c : Nat} {l : List UInt8} {g : Nat} {w : World} (hd : Deck w0 a c l g w) :
    Calls Tryd.prog 21 #[.pointer (some ⟨g, 0, none⟩)] w (Drawn w0 a c l g w IsTy) := by
  have hw0 : w0.heap.size ≤ w.heap.size := hd.below.size
  have hgl := hd.lt
  have hne : w.heap.size ≠ g := by omega
  go_enter Tryd.func21, Tryd.ntmps21
  go_wp2_with fail
  refine (l01Below (hd.alloc _) 6 (by omega) (by omega)).mono ?_
  rintro e w1 ⟨v, ⟨x, rfl, hx0, hx1⟩, rfl, hd1, hg1⟩
  have D1 := (DG.start hd).alloc (.cells #[.int .i64 0, .int .i64 0, .string ⟨#[]⟩] 28) |>.next hd1 hg1
  have R1 : TyRow w1 w.heap.size 0 0 ⟨#[]⟩ := (tyRow_new w 0 0 ⟨#[]⟩).kept hg1 hne
  have HD1 := Lib.hid D1
  have HR1 := Lib.hid R1
  have Hd1 := Lib.hid hd1
  clear hd1 hg1 D1 R1
  by_cases e0 : x = 0
  · subst e0
    go_wp2_with fail
    refine (l01PickIntP (Hd1.out.alloc _) (fun _ => True) w1.heap.size 3 _ (heap_alloc_new _ _) (by have := Hd1.out.lt; omega) rfl (by omega) (by omega) ?_).mono ?_
    · intro k v hv
      have hm := Array.mem_of_getElem? hv
      simp only [List.mem_toArray, List.mem_cons, List.not_mem_nil, or_false] at hm
      rcases hm with rfl | rfl | rfl <;> exact ⟨_, rfl, trivial⟩
    · rintro e w2 ⟨v, ⟨y, rfl, _⟩, rfl, hd2, hg2⟩
      have HD2 := Lib.hid ((HD1.out.alloc _).next hd2 hg2)
      obtain ⟨c0, c1, c2, cf⟩ := ((HR1.out.alloc _).kept hg2 hne).cells
      clear hd2 hg2
      go_wp2_with fail
      have D := ((HD2.out.set hw0 (Nat.le_refl _) hne 0 (.int .i64 3)).set hw0 (Nat.le_refl _) hne 1 (.int .i64 y)).set hw0 (Nat.le_refl _) hne 2 (.string ⟨#[]⟩)
      refine bodyPost_ret (v := .agg #[.int .i64 3, .int .i64 y, .string ⟨#[]⟩]) (by simp [results, Tryd.results21, go_sem, *]) rfl ⟨_, ⟨_, _, _, rfl⟩, rfl, D.1, D.2⟩
  · have n0 : (x == 0) = false := by rw [beq_eq_false_iff_ne]; exact e0
    by_cases e1 : x = 1
    · subst e1
      clear n0
      go_wp2_with fail
      refine (pickLit Hd1.out moods 2 rfl (fun s hs' => by have := moods_small s hs'; unfold maxLen; omega) (by decide) (by decide) _ rfl).mono ?_
      rintro e w2 ⟨v, ⟨u, rfl, _⟩, rfl, hd2, hg2⟩
      have HD2 := Lib.hid ((HD1.out.alloc _).next hd2 hg2)
      obtain ⟨c0, c1, c2, cf⟩ := ((HR1.out.alloc _).kept hg2 hne).cells
      clear hd2 hg2
      go_wp2_with fail
      have D := ((HD2.out.set hw0 (Nat.le_refl _) hne 0 (.int .i64 4)).set hw0 (Nat.le_refl _) hne 1 (.int .i64 0)).set hw0 (Nat.le_refl _) hne 2 (.string u)
      refine bodyPost_ret (v := .agg #[.int .i64 4, .int .i64 0, .string u]) (by simp [results, Tryd.results21, go_sem, *]) rfl ⟨_, ⟨_, _, _, rfl⟩, rfl, D.1, D.2⟩
    · have n1 : (x == 1) = false := by rw [beq_eq_false_iff_ne]; exact e1
      by_cases e2 : x = 2
      · subst e2
        clear n0 n1
        obtain ⟨c0, c1, c2, cf⟩ := HR1.out.cells
        go_wp2_with fail
        have D := ((HD1.out.set hw0 (Nat.le_refl _) hne 0 (.int .i64 2)).set hw0 (Nat.le_refl _) hne 1 (.int .i64 0)).set hw0 (Nat.le_refl _) hne 2 (.string ⟨#[]⟩)
        refine bodyPost_ret (v := .agg #[.int .i64 2, .int .i64 0, .string ⟨#[]⟩]) (by simp [results, Tryd.results21, go_sem, *]) rfl ⟨_, ⟨_, _, _, rfl⟩, rfl, D.1, D.2⟩
      · have n2 : (x == 2) = false := by rw [beq_eq_false_iff_ne]; exact e2
        by_cases e3 : x = 3
        · subst e3
          clear n0 n1 n2
          obtain ⟨c0, c1, c2, cf⟩ := HR1.out.cells
          go_wp2_with fail
          have D := ((HD1.out.set hw0 (Nat.le_refl _) hne 0 (.int .i64 1)).set hw0 (Nat.le_refl _) hne 1 (.int .i64 0)).set hw0 (Nat.le_refl _) hne 2 (.string ⟨#[]⟩)
          refine bodyPost_ret (v := .agg #[.int .i64 1, .int .i64 0, .string ⟨#[]⟩]) (by simp [results, Tryd.results21, go_sem, *]) rfl ⟨_, ⟨_, _, _, rfl⟩, rfl, D.1, D.2⟩
        · have n3 : (x == 3) = false := by rw [beq_eq_false_iff_ne]; exact e3
          clear e0 e1 e2 e3
          obtain ⟨c0, c1, c2, cf⟩ := HR1.out.cells
          go_wp2_with fail
          have D := ((HD1.out.set hw0 (Nat.le_refl _) hne 0 (.int .i64 0)).set hw0 (Nat.le_refl _) hne 1 (.int .i64 0)).set hw0 (Nat.le_refl _) hne 2 (.string ⟨#[]⟩)
          refine bodyPost_ret (v := .agg #[.int .i64 0, .int .i64 0, .string ⟨#[]⟩]) (by simp [results, Tryd.results21, go_sem, *]) rfl ⟨_, ⟨_, _, _, rfl⟩, rfl, D.1, D.2⟩

end Go.Proofs.YtpdcmmhhgnackaaDoor

namespace Go.Proofs.YtpdcmmhhgnackaaDoor
open Go.RowKit

inductive Opd where
  | plain (k : Int)
  | text (s : ByteArray)
  | enum (s : ByteArray)

def Opd.v : Opd → Value
  | .plain k => .iface 121 (.int .i64 k)
  | .text s => .iface 122 (.string s)
  | .enum s => .iface 133 (.string s)

def Opd.kind : Opd → Int
  | .plain k => k
  | .text _ => 1
  | .enum _ => 3

/-- The slice (a, length of xs, c) holds the operands xs. -/
def Opds (w : World) (a : Option Addr) (c : Nat) (xs : List Opd) : Prop :=
  xs.length ≤ c ∧ c ≤ maxLen ∧ (a = none → c = 0) ∧ (0 < xs.length → ∃ b off, a = some ⟨b, off, none⟩ ∧ b < w.heap.size ∧ ∀ (i : Nat) (h : i < xs.length), w.cell? ⟨b, off + i, none⟩ = some xs[i].v)

theorem Opds.spot {w : World} {a : Option Addr} {c : Nat} {xs : List Opd} (h : Opds w a c xs) {k : Nat} (hk : k < xs.length) :
    ∃ b off, a = some ⟨b, off, none⟩ ∧ b < w.heap.size ∧ w.cell? ⟨b, off + k, none⟩ = some xs[k].v := by
  obtain ⟨_, _, _, h4⟩ := h
  obtain ⟨b, off, ha, hb, hc⟩ := h4 (by omega)
  exact ⟨b, off, ha, hb, hc k hk⟩

theorem Opds.below {w w' : World} {a : Option Addr} {c : Nat} {xs : List Opd} (h : Opds w a c xs) (hb : Below w.heap.size w w') : Opds w' a c xs := by
  obtain ⟨h1, h2, h3, h4⟩ := h
  refine ⟨h1, h2, h3, fun hp => ?_⟩
  obtain ⟨b, off, ha, hlt, hc⟩ := h4 hp
  exact ⟨b, off, ha, Nat.lt_of_lt_of_le hlt hb.size, fun i hi => (hb.cell (p := ⟨b, off + i, none⟩) hlt).trans (hc i hi)⟩

theorem Opds.len {w : World} {a : Option Addr} {c : Nat} {xs : List Opd} (h : Opds w a c xs) : xs.length ≤ 9223372036854775807 := by
  have h1 := h.1
  have h2 := h.2.1
  unfold maxLen at h2
  omega

theorem kindPlain (k : Int) (w : World) : Calls Tryd.prog 184 #[.int .i64 k] w fun e w' => e = .returned (.int .i64 k) ∧ w' = w := by
  go_enter Tryd.func184, Tryd.ntmps184
  go_wp2
  go_ret
  exact ⟨rfl, rfl⟩

theorem kindText (s : ByteArray) (w : World) : Calls Tryd.prog 185 #[.string s] w fun e w' => e = .returned (.int .i64 1) ∧ w' = w := by
  go_enter Tryd.func185, Tryd.ntmps185
  go_wp2
  go_ret
  exact ⟨rfl, rfl⟩

theorem kindEnum (s : ByteArray) (w : World) : Calls Tryd.prog 186 #[.string s] w fun e w' => e = .returned (.int .i64 3) ∧ w' = w := by
  go_enter Tryd.func186, Tryd.ntmps186
  go_wp2
  go_ret
  exact ⟨rfl, rfl⟩

/-- Every operand is of the kind, or null. -/
def allK (xs : List Opd) (k : Int) : Bool := xs.all fun x => x.kind == k || x.kind == 4

theorem allK_hit (xs : List Opd) (k : Int) (i : Nat) (h : i < xs.length) (h1 : (xs[i].kind != k) = true) (h2 : (xs[i].kind != 4) = true) : allK xs k = false := by
  unfold allK
  rw [List.all_eq_false]
  exact ⟨xs[i], List.getElem_mem h, by simp at h1 h2 ⊢; exact ⟨h1, h2⟩⟩

theorem allK_next {xs : List Opd} {k : Int} {j : Nat} {hj : j < xs.length} (hall : ∀ m (h : m < xs.length), m < j → (xs[m].kind == k || xs[m].kind == 4) = true) (hg : (xs[j].kind == k || xs[j].kind == 4) = true) :
    Hid (∀ m (h : m < xs.length), m < j + 1 → (xs[m].kind == k || xs[m].kind == 4) = true) := by
  intro m h hm
  rcases Nat.lt_or_ge m j with h2 | h2
  · exact hall m h h2
  · obtain rfl : m = j := by omega
    exact hg

set_option maxRecDepth 100000 in
set_option maxHeartbeats 1000000 in
theorem implAllOf (a : Option Addr) (c : Nat) (xs : List Opd) (k : Int) (w : World) (hx : Opds w a c xs) :
    Calls Tryd.prog 137 #[.slice a xs.length c, .int .i64 k] w fun e w' => e = .returned (.bool (allK xs k)) ∧ w' = w := by
  have hl := hx.len
  go_enter Tryd.func137, Tryd.ntmps137
  go_wp2
  go_loopw [9] (fun i wr => ∃ j : Nat, j ≤ xs.length ∧ i = .int .i64 j ∧ Hid (∀ m (h : m < xs.length), m < j → (xs[m].kind == k || xs[m].kind == 4) = true) ∧ wr = w) (fun i _ => xs.length - (intOf i).toNat)
  case atStart => exact ⟨0, Nat.zero_le _, rfl, fun m h hm => absurd hm (by omega), rfl⟩
  case round =>
    obtain ⟨j, hj, rfl, hall, rfl⟩ := hrel
    by_cases hlt : j < xs.length
    · obtain ⟨b, off, rfl, hbl, hc⟩ := hx.spot hlt
      obtain ⟨x, hxx⟩ : ∃ x, x = xs[j] := ⟨_, rfl⟩
      rw [← hxx] at hc
      have HX := Lib.hid hxx
      clear hxx
      cases x with
      | plain q =>
        simp only [Opd.v] at hc
        have HKD : Hid (xs[j].kind = q) := by unfold Hid; rw [← HX.out]; rfl
        cases h1 : ((q : Int) != k) with
        | false =>
          have HG : Hid ((xs[j].kind == k || xs[j].kind == 4) = true) := by
            unfold Hid; rw [HKD.out]
            have : (q : Int) = k := by simpa using h1
            simp [this]
          go_wp2_with (first
            | (go_at_call 184; refine (kindPlain _ _).mono ?_; rintro e w' ⟨rfl, rfl⟩)
            | (go_at_call 185; refine (kindText _ _).mono ?_; rintro e w' ⟨rfl, rfl⟩)
            | (go_at_call 186; refine (kindEnum _ _).mono ?_; rintro e w' ⟨rfl, rfl⟩))
          go_roundw
          case rel => first | exact ⟨j + 1, by omega, by go_num, allK_next hall.out HG.out, rfl⟩ | exact ⟨j + 1, by omega, by go_num, allK_next hall.out HG.out, trivial⟩
          case measure => simp [intOf]; omega
        | true =>
          cases h2 : ((q : Int) != 4) with
          | false =>
            have HG : Hid ((xs[j].kind == k || xs[j].kind == 4) = true) := by
              unfold Hid; rw [HKD.out]
              have : (q : Int) = 4 := by simpa using h2
              simp [this]
            go_wp2_with (first
            | (go_at_call 184; refine (kindPlain _ _).mono ?_; rintro e w' ⟨rfl, rfl⟩)
            | (go_at_call 185; refine (kindText _ _).mono ?_; rintro e w' ⟨rfl, rfl⟩)
            | (go_at_call 186; refine (kindEnum _ _).mono ?_; rintro e w' ⟨rfl, rfl⟩))
            go_roundw
            case rel => first | exact ⟨j + 1, by omega, by go_num, allK_next hall.out HG.out, rfl⟩ | exact ⟨j + 1, by omega, by go_num, allK_next hall.out HG.out, trivial⟩
            case measure => simp [intOf]; omega
          | true =>
            have HF : Hid (allK xs k = false) := allK_hit xs k j hlt (by rw [HKD.out]; exact h1) (by rw [HKD.out]; exact h2)
            go_wp2_with (first
            | (go_at_call 184; refine (kindPlain _ _).mono ?_; rintro e w' ⟨rfl, rfl⟩)
            | (go_at_call 185; refine (kindText _ _).mono ?_; rintro e w' ⟨rfl, rfl⟩)
            | (go_at_call 186; refine (kindEnum _ _).mono ?_; rintro e w' ⟨rfl, rfl⟩))
            go_ret
            exact ⟨by rw [HF.out]; rfl, rfl⟩
      | text s =>
        simp only [Opd.v] at hc
        have HKD : Hid (xs[j].kind = 1) := by unfold Hid; rw [← HX.out]; rfl
        cases h1 : ((1 : Int) != k) with
        | false =>
          have HG : Hid ((xs[j].kind == k || xs[j].kind == 4) = true) := by
            unfold Hid; rw [HKD.out]
            have : (1 : Int) = k := by simpa using h1
            simp [this]
          go_wp2_with (first
            | (go_at_call 184; refine (kindPlain _ _).mono ?_; rintro e w' ⟨rfl, rfl⟩)
            | (go_at_call 185; refine (kindText _ _).mono ?_; rintro e w' ⟨rfl, rfl⟩)
            | (go_at_call 186; refine (kindEnum _ _).mono ?_; rintro e w' ⟨rfl, rfl⟩))
          go_roundw
          case rel => first | exact ⟨j + 1, by omega, by go_num, allK_next hall.out HG.out, rfl⟩ | exact ⟨j + 1, by omega, by go_num, allK_next hall.out HG.out, trivial⟩
          case measure => simp [intOf]; omega
        | true =>
          cases h2 : ((1 : Int) != 4) with
          | false =>
            have HG : Hid ((xs[j].kind == k || xs[j].kind == 4) = true) := by
              unfold Hid; rw [HKD.out]
              simp at h2
            go_wp2_with (first
            | (go_at_call 184; refine (kindPlain _ _).mono ?_; rintro e w' ⟨rfl, rfl⟩)
            | (go_at_call 185; refine (kindText _ _).mono ?_; rintro e w' ⟨rfl, rfl⟩)
            | (go_at_call 186; refine (kindEnum _ _).mono ?_; rintro e w' ⟨rfl, rfl⟩))
            go_roundw
            case rel => first | exact ⟨j + 1, by omega, by go_num, allK_next hall.out HG.out, rfl⟩ | exact ⟨j + 1, by omega, by go_num, allK_next hall.out HG.out, trivial⟩
            case measure => simp [intOf]; omega
          | true =>
            have HF : Hid (allK xs k = false) := allK_hit xs k j hlt (by rw [HKD.out]; exact h1) (by rw [HKD.out]; exact h2)
            go_wp2_with (first
            | (go_at_call 184; refine (kindPlain _ _).mono ?_; rintro e w' ⟨rfl, rfl⟩)
            | (go_at_call 185; refine (kindText _ _).mono ?_; rintro e w' ⟨rfl, rfl⟩)
            | (go_at_call 186; refine (kindEnum _ _).mono ?_; rintro e w' ⟨rfl, rfl⟩))
            go_ret
            exact ⟨by rw [HF.out]; rfl, rfl⟩
      | enum s =>
        simp only [Opd.v] at hc
        have HKD : Hid (xs[j].kind = 3) := by unfold Hid; rw [← HX.out]; rfl
        cases h1 : ((3 : Int) != k) with
        | false =>
          have HG : Hid ((xs[j].kind == k || xs[j].kind == 4) = true) := by
            unfold Hid; rw [HKD.out]
            have : (3 : Int) = k := by simpa using h1
            simp [this]
          go_wp2_with (first
            | (go_at_call 184; refine (kindPlain _ _).mono ?_; rintro e w' ⟨rfl, rfl⟩)
            | (go_at_call 185; refine (kindText _ _).mono ?_; rintro e w' ⟨rfl, rfl⟩)
            | (go_at_call 186; refine (kindEnum _ _).mono ?_; rintro e w' ⟨rfl, rfl⟩))
          go_roundw
          case rel => first | exact ⟨j + 1, by omega, by go_num, allK_next hall.out HG.out, rfl⟩ | exact ⟨j + 1, by omega, by go_num, allK_next hall.out HG.out, trivial⟩
          case measure => simp [intOf]; omega
        | true =>
          cases h2 : ((3 : Int) != 4) with
          | false =>
            have HG : Hid ((xs[j].kind == k || xs[j].kind == 4) = true) := by
              unfold Hid; rw [HKD.out]
              simp at h2
            go_wp2_with (first
            | (go_at_call 184; refine (kindPlain _ _).mono ?_; rintro e w' ⟨rfl, rfl⟩)
            | (go_at_call 185; refine (kindText _ _).mono ?_; rintro e w' ⟨rfl, rfl⟩)
            | (go_at_call 186; refine (kindEnum _ _).mono ?_; rintro e w' ⟨rfl, rfl⟩))
            go_roundw
            case rel => first | exact ⟨j + 1, by omega, by go_num, allK_next hall.out HG.out, rfl⟩ | exact ⟨j + 1, by omega, by go_num, allK_next hall.out HG.out, trivial⟩
            case measure => simp [intOf]; omega
          | true =>
            have HF : Hid (allK xs k = false) := allK_hit xs k j hlt (by rw [HKD.out]; exact h1) (by rw [HKD.out]; exact h2)
            go_wp2_with (first
            | (go_at_call 184; refine (kindPlain _ _).mono ?_; rintro e w' ⟨rfl, rfl⟩)
            | (go_at_call 185; refine (kindText _ _).mono ?_; rintro e w' ⟨rfl, rfl⟩)
            | (go_at_call 186; refine (kindEnum _ _).mono ?_; rintro e w' ⟨rfl, rfl⟩))
            go_ret
            exact ⟨by rw [HF.out]; rfl, rfl⟩
    · have HF : Hid (allK xs k = true) := by
        unfold Hid allK
        rw [List.all_eq_true]
        intro x hx
        obtain ⟨m, hm, rfl⟩ := List.mem_iff_getElem.1 hx
        exact hall.out m hm (by omega)
      go_wp2_with fail
      go_ret
      exact ⟨by rw [HF.out]; rfl, rfl⟩

end Go.Proofs.YtpdcmmhhgnackaaDoor

namespace Go.Proofs.YtpdcmmhhgnackaaDoor

/-- How many letters the texts have together. -/
def lets (xs : List ByteArray) : Nat := (xs.map ByteArray.size).sum

theorem lets_take (xs : List ByteArray) (k : Nat) (h : k < xs.length) : lets (xs.take (k + 1)) = lets (xs.take k) + xs[k].size := by
  unfold lets
  rw [List.take_succ_eq_append_getElem h, List.map_append, List.sum_append]
  simp only [List.map_cons, List.map_nil, List.sum_cons, List.sum_nil, Nat.add_zero]

theorem lets_le (xs : List ByteArray) (k : Nat) : lets (xs.take k) ≤ lets xs := by
  unfold lets
  conv => rhs; rw [← List.take_append_drop k xs, List.map_append, List.sum_append]
  omega

theorem lets_mem {xs : List ByteArray} {s : ByteArray} (h : s ∈ xs) : s.size ≤ lets xs := by
  unfold lets
  induction xs with
  | nil => simp at h
  | cons x r ih =>
    simp only [List.map_cons, List.sum_cons]
    rcases List.mem_cons.1 h with rfl | h
    · omega
    · have := ih h; omega

end Go.Proofs.YtpdcmmhhgnackaaDoor
