/- spec.l04Odd: an expression that may be none; spec.DrawNodes. -/
/- Trees of expressions that own their blocks: what the laws' copies are, and what a marking turns. -/
/- The program's reader of expressions: operation, what it answers; appending to a row of expressions. -/
import Derived.Test.YtgnillmhpockkaaGreatDoorMDrawMk
import Derived.Test.YtgnillmhpockkaaGreatDoorMDrawQuote
import Derived.Test.YtgnillmhpockkaaGreatDoorMRdr7
namespace Go.Proofs.YtgnillmhpockkaaGreatDoor
open Go.RowKit

def oddsE : List ByteArray := [⟨#[]⟩, ⟨#[97]⟩, ⟨#[65]⟩, ⟨#[49, 97]⟩, ⟨#[97, 34, 98]⟩, ⟨#[99, 97, 102, 195, 169]⟩, ⟨#[115, 101, 108, 101, 99, 116]⟩, ⟨#[97, 97, 97, 97, 97, 97, 97, 97, 97, 97, 97, 97, 97, 97, 97, 97, 97, 97, 97, 97, 97, 97, 97, 97, 97, 97, 97, 97, 97, 97, 97, 97, 97, 97, 97, 97, 97, 97, 97, 97]⟩, ⟨#[97, 97, 97, 97, 97, 97, 97, 97, 97, 97, 97, 97, 97, 97, 97, 97, 97, 97, 97, 97, 97, 97, 97, 97, 97, 97, 97, 97, 97, 97, 97, 97, 97, 97, 97, 97, 97, 97, 97, 97, 97]⟩, ⟨#[97, 0]⟩, ⟨#[95]⟩, ⟨#[32]⟩]
theorem oddsE_small : ∀ s ∈ oddsE, s.size ≤ 60 := by unfold oddsE; decide

set_option maxRecDepth 100000 in
set_option maxHeartbeats 1000000 in
theorem l03OddS {w0 : World} {a : Option Addr} {c : Nat} {l : List UInt8} {g : Nat} {w : World} (hd : Deck w0 a c l g w) :
    Calls Tryz.prog 29 #[.pointer (some ⟨g, 0, none⟩)] w (Drawn w0 a c l g w (fun v => ∃ s, v = .string s ∧ s.size ≤ 60)) := by
  go_enter Tryz.func29, Tryz.ntmps29
  go_wp2_with fail
  refine (pickLit hd oddsE 12 rfl (fun s hs' => by have := oddsE_small s hs'; unfold maxLen; omega) (by decide) (by decide) _ rfl).mono ?_
  rintro e w1 ⟨v, ⟨s, rfl, hs⟩, rfl, hd1, hg1⟩
  have hss := oddsE_small s hs
  have HD := Lib.hid ((DGE.start hd).alloc _ |>.next hd1 hg1)
  clear hd1 hg1
  go_wp2_with fail
  go_ret
  exact ⟨_, ⟨s, rfl, hss⟩, rfl, HD.out.1, HD.out.2⟩

theorem own_form {w : World} {lo n : Nat} {T : TypeId} {v : Value} {xs : List Value} (h : w.ownsRow lo T 4 v (n + 1) xs) : ∃ a c, v = .slice a (n + 1) c := by
  rcases h.2 with ⟨_, h0⟩ | ⟨g', cap, cur, rfl, _⟩
  · omega
  · exact ⟨_, _, rfl⟩

/-- A row beside a box R of its own. -/
structure RowR (lo R : Nat) (w : World) (a : Option Addr) (c : Nat) (es : List Es) : Prop where
  own : w.ownsRow lo 32 4 (.slice a es.length c) es.length (ecells es)
  ne : (Value.slice a es.length c).ownBlock ≠ some R
  kid : ∀ x ∈ es, x.e.fit ∧ ∃ d, KidsQ (fun b => lo ≤ b ∧ b ≠ R ∧ (Value.slice a es.length c).ownBlock ≠ some b) w d x.a x.c x.e.kids

theorem Row.beside {lo : Nat} {w w' : World} {a : Option Addr} {c : Nat} {es : List Es} (h : Row lo w a c es) (hb : Below w.heap.size w w') : RowR lo w.heap.size w' a c es := by
  have h' := h.below hb
  refine ⟨h'.own, fun e => by have := (h.own.lt _ e).2; omega, fun x hx => ⟨(h.kid x hx).1, ?_⟩⟩
  obtain ⟨d, hk⟩ := (h.kid x hx).2
  have h1 := hk.imp (q' := fun b => lo ≤ b ∧ b ≠ w.heap.size ∧ (Value.slice a es.length c).ownBlock ≠ some b) fun b h hlt => ⟨h.1, by omega, h.2⟩
  exact ⟨d, h1.agree hb.size fun b _ hlt o => hb.cell (p := ⟨b, o, none⟩) hlt⟩

theorem RowR.grown {lo R : Nat} {w w' : World} {a : Option Addr} {c : Nat} {es : List Es} {row : Option Nat} (h : RowR lo R w a c es) (hg : w.grownBy w' row) (hr : ∀ k, row = some k → k < lo ∨ k = R) : RowR lo R w' a c es := by
  refine ⟨h.own.kept hg ?_, h.ne, fun x hx => ⟨(h.kid x hx).1, ?_⟩⟩
  · cases ho : (Value.slice a es.length c).ownBlock with
    | none => exact .inl rfl
    | some g =>
      right
      intro e
      have h1 := (h.own.lt g ho).1
      rcases hr g e.symm with h2 | h2
      · omega
      · exact h.ne (by rw [ho, h2])
  · obtain ⟨d, hk⟩ := (h.kid x hx).2
    exact ⟨d, hk.agree hg.size fun b hq hb o => cell_grown hg hb (fun e => by rcases hr b e with h2 | h2; omega; exact hq.2.1 h2) o⟩

theorem RowR.row {lo R : Nat} {w : World} {a : Option Addr} {c : Nat} {es : List Es} (h : RowR lo R w a c es) : Row lo w a c es :=
  ⟨h.own, fun x hx => ⟨(h.kid x hx).1, by obtain ⟨d, hk⟩ := (h.kid x hx).2; exact ⟨d, hk.imp fun b hb _ => ⟨hb.1, hb.2.2⟩⟩⟩⟩

theorem RowR.set {lo R : Nat} {w : World} {a : Option Addr} {c : Nat} {es : List Es} (h : RowR lo R w a c es) {B : Nat} (hB : B < lo ∨ B = R) (j : Nat) (v : Value) : RowR lo R (w.setCell ⟨B, j, none⟩ v) a c es :=
  h.grown (grown_set w B j v) (fun k hk => by cases hk; exact hB)

theorem RowR.below {lo R : Nat} {w w' : World} {a : Option Addr} {c : Nat} {es : List Es} (h : RowR lo R w a c es) (hb : Below w.heap.size w w') : RowR lo R w' a c es :=
  h.grown (row := none) ⟨hb.os, hb.tape, hb.output, hb.size, fun k hk _ => hb.block k hk⟩ (by simp)

/-- The tree of a row lies beside R. -/
theorem RowR.kids {lo R : Nat} {w : World} {a : Option Addr} {c : Nat} {es : List Es} (h : RowR lo R w a c es) : ∃ d, KidsQ (fun b => lo ≤ b ∧ b ≠ R) w d a c (es.map Es.e) := by
  have hd : ∀ l : List Es, (∀ x ∈ l, ∃ d, KidsQ (fun b => lo ≤ b ∧ b ≠ R) w d x.a x.c x.e.kids) → ∃ D, ∀ x ∈ l, KidsQ (fun b => lo ≤ b ∧ b ≠ R) w D x.a x.c x.e.kids := by
    intro l
    induction l with
    | nil => intro _; exact ⟨0, fun x hx => by simp at hx⟩
    | cons y r ih =>
      intro hl
      obtain ⟨D, hD⟩ := ih fun x hx => hl x (List.mem_cons_of_mem _ hx)
      obtain ⟨d, hd⟩ := hl y (List.mem_cons_self ..)
      refine ⟨max D d, fun x hx => ?_⟩
      rcases List.mem_cons.1 hx with rfl | hx
      · exact hd.mono (Nat.le_max_right ..)
      · exact (hD x hx).mono (Nat.le_max_left ..)
  obtain ⟨D, hD⟩ := hd es fun x hx => by obtain ⟨d, hk⟩ := (h.kid x hx).2; exact ⟨d, hk.imp fun b hb _ => ⟨hb.1, hb.2.1⟩⟩
  refine ⟨D + 1, ?_⟩
  rcases h.own.2 with ⟨hv, hn⟩ | ⟨g, cap, cur, hv, hB, hg, hnc, hcm, hcs, ht⟩
  · simp only [Value.slice.injEq] at hv
    obtain ⟨rfl, _, rfl⟩ := hv
    have : es = [] := List.eq_nil_of_length_eq_zero hn
    subst this
    exact ⟨Nat.le_refl _, by unfold maxLen; omega, fun _ => rfl, fun h => absurd h (by simp)⟩
  · have hne := h.ne
    simp only [Value.slice.injEq] at hv
    obtain ⟨rfl, _, rfl⟩ := hv
    have hgl : g < w.heap.size := by
      rcases Nat.lt_or_ge g w.heap.size with hlt | hge
      · exact hlt
      · rw [Array.getElem?_eq_none hge] at hg; cases hg
    refine ⟨by rw [List.length_map]; exact hnc, hcm, (fun h => by cases h), fun hp => ⟨g, 0, rfl, ⟨hB, fun e => hne (by rw [← e]; rfl)⟩, hgl, fun i hi => ?_⟩⟩
    rw [List.length_map] at hi
    obtain ⟨c0, c1, c2, c3⟩ := ecells_at es i hi
    have hown := h.own
    have e0 := (World.ownsRow.cellAt (w := w) hown (i * 4) (by omega)).trans c0
    have e1 := (World.ownsRow.cellAt (w := w) hown (i * 4 + 1) (by omega)).trans c1
    have e2 := (World.ownsRow.cellAt (w := w) hown (i * 4 + 2) (by omega)).trans c2
    have e3 := (World.ownsRow.cellAt (w := w) hown (i * 4 + 3) (by omega)).trans c3
    rw [Nat.zero_add]
    simp only [List.getElem_map]
    exact ⟨e0, e1, e2, (h.kid es[i] (List.getElem_mem hi)).1, _, _, e3, hD es[i] (List.getElem_mem hi)⟩

/-- What stands in l04Odd behind the first draw. -/
structure Odd (w0 : World) (a : Option Addr) (c : Nat) (l : List UInt8) (g : Nat) (w : World) (R : Nat) (k : Int) (t : ByteArray) (n : Int) (N : Nat) (es : List Es) (ak : Option Addr) (ck : Nat) (wr : World) : Prop where
  er : ExRow wr R k t n (.slice ak es.length ck)
  rb : ExRow wr w.heap.size 0 ⟨#[]⟩ 0 (.slice none 0 0)
  dg : DGE w0 a c l g w wr
  row : RowR (w.heap.size + 1) R wr ak ck es
  lt : w.heap.size < R
  kr : i64E k
  nr : i64E n
  ts : t.size ≤ 60
  len : es.length ≤ 3
  wt : wtL (es.map Es.e) ≤ 64 * nodesL (es.map Es.e)
  nd : 1 + nodesL (es.map Es.e) ≤ N

theorem Odd.below {w0 : World} {a : Option Addr} {c : Nat} {l : List UInt8} {g : Nat} {w : World} {R : Nat} {k : Int} {t : ByteArray} {n : Int} {N : Nat} {es : List Es} {ak : Option Addr} {ck : Nat} {wr wr' : World}
    (h : Odd w0 a c l g w R k t n N es ak ck wr) (hb : Below wr.heap.size wr wr') : Odd w0 a c l g w R k t n N es ak ck wr' :=
  ⟨h.er.below hb, h.rb.below hb, h.dg.below hb, h.row.below hb, h.lt, h.kr, h.nr, h.ts, h.len, h.wt, h.nd⟩

theorem Odd.draw {w0 : World} {a : Option Addr} {c : Nat} {l : List UInt8} {g : Nat} {w : World} {R : Nat} {k : Int} {t : ByteArray} {n : Int} {N : Nat} {es : List Es} {ak : Option Addr} {ck : Nat} {wr wr' : World}
    (h : Odd w0 a c l g w R k t n N es ak ck wr) (hgl : g < w.heap.size) (hd : Deck w0 a c l g wr') (hg : wr.grownBy wr' (some g)) : Odd w0 a c l g w R k t n N es ak ck wr' := by
  have hl := h.lt
  exact ⟨h.er.kept hg (fun e => by have := Option.some.inj e; omega), h.rb.kept hg (fun e => by have := Option.some.inj e; omega), h.dg.next hd hg, h.row.grown hg (fun q hq => by cases hq; omega), h.lt, h.kr, h.nr, h.ts, h.len, h.wt, h.nd⟩

/-- The end: the box is copied into the answer's. -/
theorem Odd.done {w0 : World} {a : Option Addr} {c : Nat} {l : List UInt8} {g : Nat} {w : World} {R : Nat} {k : Int} {t : ByteArray} {n : Int} {N : Nat} {es : List Es} {ak : Option Addr} {ck : Nat} {wr : World}
    (h : Odd w0 a c l g w R k t n N es ak ck wr) (hw0 : w0.heap.size ≤ w.heap.size) (hgl : g < w.heap.size) {v0 v1 v2 v3 : Value} {W : World} (hW : W = (((wr.setCell ⟨w.heap.size, 0, none⟩ v0).setCell ⟨w.heap.size, 1, none⟩ v1).setCell ⟨w.heap.size, 2, none⟩ v2).setCell ⟨w.heap.size, 3, none⟩ v3) :
    MadeE w0 a c l g w (fun e => Sm e N) (.returned (.agg #[.int .i64 k, .string t, .int .i64 n, .slice ak es.length ck])) W := by
  subst hW
  exact ⟨k, t, n, es, ak, ck, rfl, ((((h.row.set (.inl (by omega)) _ _).set (.inl (by omega)) _ _).set (.inl (by omega)) _ _).set (.inl (by omega)) _ _).row.lower (by omega), sm_node h.kr h.nr h.ts h.len h.wt h.nd,
    (((h.dg.set hw0 (Nat.le_refl _) (by omega) _ _).set hw0 (Nat.le_refl _) (by omega) _ _).set hw0 (Nat.le_refl _) (by omega) _ _).set hw0 (Nat.le_refl _) (by omega) _ _⟩

/-- A kid more. -/
theorem Odd.push {w0 : World} {a : Option Addr} {c : Nat} {l : List UInt8} {g : Nat} {w : World} {R : Nat} {k : Int} {t : ByteArray} {n : Int} {N : Nat} {es : List Es} {ak : Option Addr} {ck : Nat} {wr w4 : World}
    (h : Odd w0 a c l g w R k t n N es ak ck wr) (hw0 : w0.heap.size ≤ w.heap.size) (hgl : g < w.heap.size) (h2 : es.length ≤ 2) {a4 : Option Addr} {c4 : Nat}
    (hown : w4.ownsRow (w.heap.size + 1) 32 4 (.slice a4 (es.length + 1) c4) (es.length + 1) (ecells es ++ [.int .i64 5, .string ⟨#[]⟩, .int .i64 0, .slice none 0 0])) (hg : wr.grownBy w4 (Value.slice ak es.length ck).ownBlock)
    (hat : (Value.slice a4 (es.length + 1) c4).ownBlock = (Value.slice ak es.length ck).ownBlock ∨ (Value.slice a4 (es.length + 1) c4).ownBlock = some wr.heap.size) :
    Odd w0 a c l g w R k t n (N + 1) (es ++ [⟨.mk 5 ⟨#[]⟩ 0 [], none, 0⟩]) a4 c4 (w4.setCell ⟨R, 3, none⟩ (.slice a4 (es.length + 1) c4)) := by
  have hl := h.lt
  have hRl := h.er.lt
  have hl1 : (es ++ [(⟨.mk 5 ⟨#[]⟩ 0 [], none, 0⟩ : Es)]).length = es.length + 1 := by simp
  have hbk : ∀ b, (Value.slice ak es.length ck).ownBlock = some b → w.heap.size + 1 ≤ b ∧ b < wr.heap.size := fun b hb => h.row.own.lt b hb
  have hneR : (Value.slice ak es.length ck).ownBlock ≠ some R := h.row.ne
  have e4 : ExRow w4 R k t n (.slice ak es.length ck) := h.er.kept hg hneR
  have b4 : ExRow w4 w.heap.size 0 ⟨#[]⟩ 0 (.slice none 0 0) := h.rb.kept hg (fun e => by have := (hbk _ e).1; omega)
  have d4 : DGE w0 a c l g w w4 := h.dg.row hw0 hg (fun q hq => by have := (hbk q hq).1; omega)
  have n4 : (Value.slice a4 (es.length + 1) c4).ownBlock ≠ some R := by
    rcases hat with e | e
    · rw [e]; exact hneR
    · rw [e]; intro e2; have := Option.some.inj e2; omega
  have turn : ∀ {d : Nat} {p : Option Addr} {q : Nat} {kids : List Ex}, KidsQ (fun b => w.heap.size + 1 ≤ b ∧ b ≠ R ∧ (Value.slice ak es.length ck).ownBlock ≠ some b) wr d p q kids → KidsQ (fun b => w.heap.size + 1 ≤ b ∧ b ≠ R ∧ (Value.slice a4 (es.length + 1) c4).ownBlock ≠ some b) w4 d p q kids := by
    intro d p q kids hk
    have h1 := hk.imp (q' := fun b => (w.heap.size + 1 ≤ b ∧ b ≠ R ∧ (Value.slice ak es.length ck).ownBlock ≠ some b) ∧ b < wr.heap.size) fun b h hb => ⟨h, hb⟩
    have h2 := h1.agree (w' := w4) hg.size fun b hq hb o => cell_grown hg hb (fun e => hq.1.2.2 e) o
    refine h2.imp fun b hq _ => ⟨hq.1.1, hq.1.2.1, ?_⟩
    rcases hat with e | e
    · rw [e]; exact hq.1.2.2
    · rw [e]; intro e2; have := Option.some.inj e2; omega
  have r4 : RowR (w.heap.size + 1) R w4 a4 c4 (es ++ [⟨.mk 5 ⟨#[]⟩ 0 [], none, 0⟩]) := by
    refine ⟨by rw [hl1, ecells_append]; exact hown, by rw [hl1]; exact n4, fun y hy => ?_⟩
    rw [hl1]
    rcases List.mem_append.1 hy with hy | hy
    · obtain ⟨d, hk⟩ := (h.row.kid y hy).2
      exact ⟨(h.row.kid y hy).1, d, turn hk⟩
    · rw [List.mem_singleton] at hy
      subst hy
      exact ⟨⟨by show (0 : Nat) ≤ maxLen; unfold maxLen; omega, by unfold i64E; exact ⟨by decide, by decide⟩, by unfold i64E; exact ⟨by decide, by decide⟩⟩, 1, Nat.le_refl _, by show (0 : Nat) ≤ maxLen; unfold maxLen; omega, fun _ => rfl, fun h => absurd h (by simp [Ex.kids])⟩
  obtain ⟨n1, n2⟩ := smL_snoc es ⟨.mk 5 ⟨#[]⟩ 0 [], none, 0⟩
  refine ⟨by rw [hl1]; exact e4.set3 _, b4.setO (by omega) _ _, d4.set hw0 (by omega) (by omega) _ _, r4.set (.inr rfl) _ _, h.lt, h.kr, h.nr, h.ts, by rw [hl1]; omega, ?_, ?_⟩
  · rw [n1, n2]; have := h.wt; show wtL (es.map Es.e) + (Ex.mk 5 ⟨#[]⟩ 0 []).wt ≤ 64 * (nodesL (es.map Es.e) + (Ex.mk 5 ⟨#[]⟩ 0 []).nodes)
    have z : (Ex.mk 5 ⟨#[]⟩ 0 []).wt = 0 := by rw [Ex.wt]; rfl
    omega
  · rw [n1]; have := h.nd; show 1 + (nodesL (es.map Es.e) + (Ex.mk 5 ⟨#[]⟩ 0 []).nodes) ≤ _
    have z : (Ex.mk 5 ⟨#[]⟩ 0 []).nodes = 1 := by rw [Ex.nodes]; rfl
    omega

/-- One and more. -/
theorem Odd.wrap {w0 : World} {a : Option Addr} {c : Nat} {l : List UInt8} {g : Nat} {w : World} {R : Nat} {k : Int} {t : ByteArray} {n : Int} {N : Nat} {es : List Es} {ak : Option Addr} {ck : Nat} {wr W : World}
    (h : Odd w0 a c l g w R k t n N es ak ck wr) (hw0 : w0.heap.size ≤ w.heap.size) (hgl : g < w.heap.size)
    (hW0 : W = ((((wr.setCell ⟨R, 0, none⟩ (.int .i64 8)).setCell ⟨R, 1, none⟩ (.string ⟨#[]⟩)).setCell ⟨R, 2, none⟩ (.int .i64 0)).setCell ⟨R, 3, none⟩ (.slice (some ⟨wr.heap.size, 0, none⟩) 2 2)).alloc (.cells #[.int .i64 k, .string t, .int .i64 n, .slice ak es.length ck, .int .i64 3, .string ⟨#[]⟩, .int .i64 0, .slice none 0 0] 32)) :
    Odd w0 a c l g w R 8 ⟨#[]⟩ 0 (N + 2) [⟨eOf k t n es, ak, ck⟩, ⟨.mk 3 ⟨#[]⟩ 0 [], none, 0⟩] (some ⟨wr.heap.size, 0, none⟩) 2 W := by
  have hl := h.lt
  have hRl := h.er.lt
  have hW : W = ((((wr.alloc (.cells #[.int .i64 k, .string t, .int .i64 n, .slice ak es.length ck, .int .i64 3, .string ⟨#[]⟩, .int .i64 0, .slice none 0 0] 32)).setCell ⟨R, 0, none⟩ (.int .i64 8)).setCell ⟨R, 1, none⟩ (.string ⟨#[]⟩)).setCell ⟨R, 2, none⟩ (.int .i64 0)).setCell ⟨R, 3, none⟩ (.slice (some ⟨wr.heap.size, 0, none⟩) 2 2) := by
    rw [hW0]; simp [go_sem, hRl]
  have hll : (es.map Es.e).length = es.length := List.length_map ..
  have hsm := sm_node h.kr h.nr h.ts h.len h.wt h.nd
  generalize ho : (Obj.cells #[.int .i64 k, .string t, .int .i64 n, .slice ak es.length ck, .int .i64 3, .string ⟨#[]⟩, .int .i64 0, .slice none 0 0] 32) = o at hW
  have hb : Below wr.heap.size wr (wr.alloc o) := (Below.refl _ _).alloc (Nat.le_refl _) o
  have h1 := h.below hb
  obtain ⟨dd, hk⟩ := h.row.kids
  have r1 : RowR (w.heap.size + 1) R (wr.alloc o) (some ⟨wr.heap.size, 0, none⟩) 2 [⟨eOf k t n es, ak, ck⟩, ⟨.mk 3 ⟨#[]⟩ 0 [], none, 0⟩] := by
    refine ⟨?_, ?_, fun y hy => ?_⟩
    · have := World.ownsRow_lit (base := w.heap.size + 1) (e := 32) (size := 4) wr #[.int .i64 k, .string t, .int .i64 n, .slice ak es.length ck, .int .i64 3, .string ⟨#[]⟩, .int .i64 0, .slice none 0 0] 2 (by omega) (by unfold maxLen; omega) rfl
      rw [ho] at this
      have hc : ecells [⟨eOf k t n es, ak, ck⟩, ⟨.mk 3 ⟨#[]⟩ 0 [], none, 0⟩] = [.int .i64 k, .string t, .int .i64 n, .slice ak es.length ck, .int .i64 3, .string ⟨#[]⟩, .int .i64 0, .slice none 0 0] := by
        show [_, _, _, Value.slice ak (es.map Es.e).length ck, _, _, _, _] = _
        rw [hll]; rfl
      rw [hc]
      exact this
    · intro e; have := Option.some.inj e; simp only at this; omega
    · rcases List.mem_cons.1 hy with rfl | hy
      · refine ⟨hsm.1, dd, ?_⟩
        have q1 := hk.imp (q' := fun b => w.heap.size + 1 ≤ b ∧ b ≠ R ∧ (Value.slice (some ⟨wr.heap.size, 0, none⟩) 2 2).ownBlock ≠ some b) fun b hb' hlt => ⟨hb'.1, hb'.2, fun e => by have := Option.some.inj e; simp only at this; omega⟩
        exact q1.agree hb.size fun b _ hlt q => hb.cell (p := ⟨b, q, none⟩) hlt
      · rw [List.mem_singleton] at hy
        subst hy
        exact ⟨⟨by show (0 : Nat) ≤ maxLen; unfold maxLen; omega, by unfold i64E; exact ⟨by decide, by decide⟩, by unfold i64E; exact ⟨by decide, by decide⟩⟩, 1, Nat.le_refl _, by show (0 : Nat) ≤ maxLen; unfold maxLen; omega, fun _ => rfl, fun h => absurd h (by simp [Ex.kids])⟩
  subst hW
  have z1 : (Ex.mk 3 ⟨#[]⟩ 0 []).wt = 0 := by rw [Ex.wt]; rfl
  have z2 : (Ex.mk 3 ⟨#[]⟩ 0 []).nodes = 1 := by rw [Ex.nodes]; rfl
  refine ⟨(((h1.er.set0 8).set1 ⟨#[]⟩).set2 0).set3 _, (((h1.rb.setO (by omega) _ _).setO (by omega) _ _).setO (by omega) _ _).setO (by omega) _ _, (((h1.dg.set hw0 (by omega) (by omega) _ _).set hw0 (by omega) (by omega) _ _).set hw0 (by omega) (by omega) _ _).set hw0 (by omega) (by omega) _ _,
    (((r1.set (.inr rfl) _ _).set (.inr rfl) _ _).set (.inr rfl) _ _).set (.inr rfl) _ _, h.lt, by unfold i64E; exact ⟨by decide, by decide⟩, by unfold i64E; exact ⟨by decide, by decide⟩, by show (0 : Nat) ≤ 60; omega, by simp, ?_, ?_⟩
  · show (eOf k t n es).wt + ((Ex.mk 3 ⟨#[]⟩ 0 []).wt + 0) ≤ 64 * ((eOf k t n es).nodes + ((Ex.mk 3 ⟨#[]⟩ 0 []).nodes + 0)); have := hsm.2.1; omega
  · show 1 + ((eOf k t n es).nodes + ((Ex.mk 3 ⟨#[]⟩ 0 []).nodes + 0)) ≤ N + 2; have := hsm.2.2; omega

set_option maxRecDepth 100000 in
set_option maxHeartbeats 4000000 in
theorem l04OddS {w0 : World} {a : Option Addr} {c : Nat} {l : List UInt8} {g : Nat} {w : World} (hd : Deck w0 a c l g w) (hw0 : w0.heap.size ≤ w.heap.size) :
    Calls Tryz.prog 48 #[.pointer (some ⟨g, 0, none⟩)] w (MadeE w0 a c l g w (fun e => Sm e 64)) := by
  have hgl := hd.lt
  have HD0 := Lib.hid (DGE.start hd)
  have Hd0 := Lib.hid hd
  obtain ⟨i0, hi0, hz0, hz1, hz2⟩ := info_parts Tryz.infoExpr
  clear hd
  go_enter Tryz.func48, Tryz.ntmps48
  go_wp2_with fail
  refine (make3 (Hd0.out.alloc _) (by simp; omega)).mono ?_
  rintro e w1 ⟨k, t, n, es, ak, ck, rfl, hrow, hsm, hdg⟩
  have HB : Hid (Odd w0 a c l g w w1.heap.size k t n 15 es ak ck (w1.alloc (.cells #[.int .i64 k, .string t, .int .i64 n, .slice ak es.length ck] 32))) := by
    have hrb := (exRow_new w 0 ⟨#[]⟩ 0 (.slice none 0 0)).kept hdg.2 (fun e => by have := Option.some.inj e; omega)
    rw [size_allocE] at hrow
    obtain ⟨⟨hfit, _, hN⟩, h60, h2, hw⟩ := hsm
    have hd1 := (HD0.out.alloc (.cells #[.int .i64 0, .string ⟨#[]⟩, .int .i64 0, .slice none 0 0] 32)).next hdg.1 hdg.2
    have hl : (es.map Es.e).length = es.length := List.length_map ..
    have hn := Ex.nodes_eq (eOf k t n es)
    refine ⟨exRow_new w1 k t n (.slice ak es.length ck), hrb.alloc _, hd1.alloc _, hrow.beside ((Below.refl _ _).alloc (Nat.le_refl _) _), hrb.lt, hfit.2.1, hfit.2.2, h60, ?_, hw, ?_⟩
    · have : (es.map Es.e).length ≤ 2 := h2
      omega
    · rw [hn] at hN; exact hN
  have h2 : es.length ≤ 2 := by have : (es.map Es.e).length ≤ 2 := hsm.2.2.1; rw [List.length_map] at this; exact this
  clear hrow hsm hdg
  go_wp2_with fail
  generalize w1.alloc (.cells #[.int .i64 k, .string t, .int .i64 n, .slice ak es.length ck] 32) = W1 at HB ⊢
  generalize w1.heap.size = R at HB ⊢
  refine (l01Below HB.out.dg.1 12 (by omega) (by omega)).mono ?_
  rintro e w2 ⟨v, ⟨x, rfl, hx0, hx1⟩, rfl, hd2, hg2⟩
  have HB2 := Lib.hid (HB.out.draw hgl hd2 hg2)
  have hlt := HB.out.lt
  clear hd2 hg2 HB
  by_cases x0 : x = 0
  · subst x0
    go_wp2_with fail
    refine (l01Below HB2.out.dg.1 21 (by omega) (by omega)).mono ?_
    rintro e w3 ⟨v, ⟨y, rfl, hy0, hy1⟩, rfl, hd3, hg3⟩
    have HB3 := HB2.out.draw hgl hd3 hg3
    obtain ⟨p0, p1, p2, p3, pf⟩ := HB3.er.cells
    have HBX : Hid (Odd w0 a c l g w R (y - 1) t n 15 es ak ck (w3.setCell ⟨R, 0, none⟩ (.int .i64 (y - 1)))) :=
      ⟨HB3.er.set0 _, HB3.rb.setO (by omega) _ _, HB3.dg.set hw0 (by omega) (by omega) _ _, HB3.row.set (.inr rfl) _ _, HB3.lt, by unfold i64E; omega, HB3.nr, HB3.ts, HB3.len, HB3.wt, HB3.nd⟩
    clear HB3 hd3 hg3
    obtain ⟨r0, r1, r2, r3, rf⟩ := HBX.out.er.cells
    obtain ⟨b0, b1, b2, b3, bf⟩ := HBX.out.rb.cells
    have hne : w.heap.size ≠ R := by omega
    go_wp2_with fail
    refine bodyPost_ret (v := .agg #[.int .i64 (y - 1), .string t, .int .i64 n, .slice ak es.length ck]) (by simp [results, Tryz.results48, go_sem, b0, b1, b2, b3]) rfl ?_
    obtain ⟨k', t', n', es', ak', ck', q1, q2, q3, q4⟩ := HBX.out.done hw0 hgl rfl
    exact ⟨k', t', n', es', ak', ck', q1, q2, ⟨q3.1, q3.2.1, by have := q3.2.2; omega⟩, q4⟩
  by_cases x1 : x = 1
  · subst x1
    clear x0
    go_wp2_with fail
    refine (l03OddS HB2.out.dg.1).mono ?_
    rintro e w3 ⟨v, ⟨s, rfl, hss⟩, rfl, hd3, hg3⟩
    have HB3 := HB2.out.draw hgl hd3 hg3
    obtain ⟨p0, p1, p2, p3, pf⟩ := HB3.er.cells
    have HBX : Hid (Odd w0 a c l g w R k s n 15 es ak ck (w3.setCell ⟨R, 1, none⟩ (.string s))) :=
      ⟨HB3.er.set1 _, HB3.rb.setO (by omega) _ _, HB3.dg.set hw0 (by omega) (by omega) _ _, HB3.row.set (.inr rfl) _ _, HB3.lt, HB3.kr, HB3.nr, hss, HB3.len, HB3.wt, HB3.nd⟩
    clear HB3 hd3 hg3
    obtain ⟨r0, r1, r2, r3, rf⟩ := HBX.out.er.cells
    obtain ⟨b0, b1, b2, b3, bf⟩ := HBX.out.rb.cells
    have hne : w.heap.size ≠ R := by omega
    go_wp2_with fail
    refine bodyPost_ret (v := .agg #[.int .i64 k, .string s, .int .i64 n, .slice ak es.length ck]) (by simp [results, Tryz.results48, go_sem, b0, b1, b2, b3]) rfl ?_
    obtain ⟨k', t', n', es', ak', ck', q1, q2, q3, q4⟩ := HBX.out.done hw0 hgl rfl
    exact ⟨k', t', n', es', ak', ck', q1, q2, ⟨q3.1, q3.2.1, by have := q3.2.2; omega⟩, q4⟩
  by_cases x2 : x = 2
  · subst x2
    clear x0 x1
    go_wp2_with fail
    refine (l01PickIntP (HB2.out.dg.alloc _).1 (fun z => -1 ≤ z ∧ z ≤ 1000000000) w2.heap.size 3 _ (heap_alloc_new _ _) (by have := HB2.out.dg.1.lt; omega) rfl (by omega) (by omega) ?_).mono ?_
    · intro k v hv
      have hm := Array.mem_of_getElem? hv
      simp only [List.mem_toArray, List.mem_cons, List.not_mem_nil, or_false] at hm
      rcases hm with rfl | rfl | rfl <;> exact ⟨_, rfl, by omega, by omega⟩
    rintro e w3 ⟨v, ⟨y, rfl, hy⟩, rfl, hd3, hg3⟩
    have HB3 := (HB2.out.below ((Below.refl _ _).alloc (Nat.le_refl _) _)).draw hgl hd3 hg3
    obtain ⟨p0, p1, p2, p3, pf⟩ := HB3.er.cells
    have HBX : Hid (Odd w0 a c l g w R k t y 15 es ak ck (w3.setCell ⟨R, 2, none⟩ (.int .i64 y))) :=
      ⟨HB3.er.set2 _, HB3.rb.setO (by omega) _ _, HB3.dg.set hw0 (by omega) (by omega) _ _, HB3.row.set (.inr rfl) _ _, HB3.lt, HB3.kr, by unfold i64E; omega, HB3.ts, HB3.len, HB3.wt, HB3.nd⟩
    clear HB3 hd3 hg3
    obtain ⟨r0, r1, r2, r3, rf⟩ := HBX.out.er.cells
    obtain ⟨b0, b1, b2, b3, bf⟩ := HBX.out.rb.cells
    have hne : w.heap.size ≠ R := by omega
    go_wp2_with fail
    refine bodyPost_ret (v := .agg #[.int .i64 k, .string t, .int .i64 y, .slice ak es.length ck]) (by simp [results, Tryz.results48, go_sem, b0, b1, b2, b3]) rfl ?_
    obtain ⟨k', t', n', es', ak', ck', q1, q2, q3, q4⟩ := HBX.out.done hw0 hgl rfl
    exact ⟨k', t', n', es', ak', ck', q1, q2, ⟨q3.1, q3.2.1, by have := q3.2.2; omega⟩, q4⟩
  by_cases x3 : x = 3
  · subst x3
    clear x0 x1 x2
    obtain ⟨p0, p1, p2, p3, pf⟩ := HB2.out.er.cells
    have hRl := HB2.out.er.lt
    have hRz : w.heap.size + 1 ≤ w2.heap.size := by omega
    go_wp2_with (at_builtin; refine wpList_append_own_at _ rfl (.tmp 30) (.tmp 32) 30 rfl (w.heap.size + 1) 32 i0 (.agg #[.int .i64 0, .string ByteArray.empty, .int .i64 0, .slice none 0 0]) 4 56 Tryz.underlying30 hi0 hz0 hz1 hz2 rfl (by decide) (.slice ak es.length ck) es.length (ecells es) rfl (HB2.out.below ((Below.refl _ _).alloc (Nat.le_refl _) _)).row.own ⟨w2.heap.size, 0, none⟩ 1 1 [.int .i64 5, .string ⟨#[]⟩, .int .i64 0, .slice none 0 0] rfl rfl (World.news_of_block (heap_alloc_new w2 _)) (fun u hu => by simp at hu; rcases hu with rfl | rfl | rfl | rfl <;> rfl) (by unfold maxLen; omega) (by omega) (by simp; omega) ?_; intro v4 w4 hown4 hg4 _ hat4; obtain ⟨a4, c4, rfl⟩ := own_form hown4; obtain ⟨y0, y1, y2, y3, yf⟩ := (((HB2.out.er.alloc _).kept hg4 HB2.out.row.ne)).cells; obtain ⟨b0, b1, b2, b3, bf⟩ := (((HB2.out.rb.alloc _).kept hg4 (fun e => by have := (HB2.out.row.own.lt _ e).1; omega))).cells; have hneR : w.heap.size ≠ R := (by omega); have HBX := Lib.hid ((HB2.out.below ((Below.refl _ _).alloc (Nat.le_refl _) _)).push hw0 hgl h2 hown4 hg4 hat4); clear hown4 hg4 hat4)
    have hl1 : (es ++ [(⟨.mk 5 ⟨#[]⟩ 0 [], none, 0⟩ : Es)]).length = es.length + 1 := by simp
    refine bodyPost_ret (v := .agg #[.int .i64 k, .string t, .int .i64 n, .slice a4 (es.length + 1) c4]) (by simp [results, Tryz.results48, go_sem, b0, b1, b2, b3]) rfl ?_
    obtain ⟨k', t', n', es', ak', ck', q1, q2, q3, q4⟩ := HBX.out.done hw0 hgl rfl
    rw [hl1] at q1
    exact ⟨k', t', n', es', ak', ck', q1, q2, ⟨q3.1, q3.2.1, by have := q3.2.2; omega⟩, q4⟩
  by_cases x4 : x = 4
  · subst x4
    clear x0 x1 x2 x3
    go_wp2_with fail
    refine (l01Below HB2.out.dg.1 4 (by omega) (by omega)).mono ?_
    rintro e w3 ⟨v, ⟨y, rfl, hy0, hy1⟩, rfl, hd3, hg3⟩
    have HB3 := Lib.hid (HB2.out.draw hgl hd3 hg3)
    clear hd3 hg3 HB2
    go_wp2_with fail
    go_loopw [5] (fun i wr => ∃ (j : Nat) (k : Int) (t : ByteArray) (n : Int) (es : List Es) (ak : Option Addr) (ck : Nat), i = .int .i64 (j : Int) ∧ (j : Int) ≤ 18 + y ∧ Hid (Odd w0 a c l g w R k t n (15 + 2 * j) es ak ck wr)) (fun i _ => 22 - (intOf i).toNat)
    case atStart => exact ⟨0, k, t, n, es, ak, ck, rfl, by omega, HB3⟩
    case round =>
      obtain ⟨j, k, t, n, es, ak, ck, rfl, hj, HBX⟩ := hrel
      by_cases hlt' : (j : Int) < 18 + y
      · obtain ⟨r0, r1, r2, r3, rf⟩ := HBX.out.er.cells
        have hRl := HBX.out.er.lt
        go_wp2_with fail
        go_roundw
        case rel => exact ⟨j + 1, 8, ⟨#[]⟩, 0, [⟨eOf k t n es, ak, ck⟩, ⟨.mk 3 ⟨#[]⟩ 0 [], none, 0⟩], some ⟨wr.heap.size, 0, none⟩, 2, by go_num, by omega, HBX.out.wrap hw0 hgl rfl⟩
        case measure => simp [intOf]; omega
      · have hjy : 15 + 2 * j ≤ 64 := by omega
        obtain ⟨r0, r1, r2, r3, rf⟩ := HBX.out.er.cells
        obtain ⟨b0, b1, b2, b3, bf⟩ := HBX.out.rb.cells
        have hne : w.heap.size ≠ R := by omega
        go_wp2_with fail
        refine bodyPost_ret (v := .agg #[.int .i64 k, .string t, .int .i64 n, .slice ak es.length ck]) (by simp [results, Tryz.results48, go_sem, b0, b1, b2, b3]) rfl ?_
        obtain ⟨k', t', n', es', ak', ck', q1, q2, q3, q4⟩ := HBX.out.done hw0 hgl rfl
        exact ⟨k', t', n', es', ak', ck', q1, q2, ⟨q3.1, q3.2.1, by have := q3.2.2; omega⟩, q4⟩
  have HBX := HB2
  have n0 : (x == 0) = false := by simp; exact x0
  have n1 : (x == 1) = false := by simp; exact x1
  have n2 : (x == 2) = false := by simp; exact x2
  have n3 : (x == 3) = false := by simp; exact x3
  have n4 : (x == 4) = false := by simp; exact x4
  obtain ⟨r0, r1, r2, r3, rf⟩ := HBX.out.er.cells
  obtain ⟨b0, b1, b2, b3, bf⟩ := HBX.out.rb.cells
  have hne : w.heap.size ≠ R := by omega
  go_wp2_with fail
  refine bodyPost_ret (v := .agg #[.int .i64 k, .string t, .int .i64 n, .slice ak es.length ck]) (by simp [results, Tryz.results48, go_sem, b0, b1, b2, b3]) rfl ?_
  obtain ⟨k', t', n', es', ak', ck', q1, q2, q3, q4⟩ := HBX.out.done hw0 hgl rfl
  exact ⟨k', t', n', es', ak', ck', q1, q2, ⟨q3.1, q3.2.1, by have := q3.2.2; omega⟩, q4⟩

end Go.Proofs.YtgnillmhpockkaaGreatDoor

namespace Go.Proofs.YtgnillmhpockkaaGreatDoor
open Go.RowKit

/-- As KidsAt, and every list of kids is a row of its own, in the blocks bs. -/
def KidsO (w : World) : Nat → Option Addr → Nat → List Ex → List Nat → Prop
  | 0, _, _, _, _ => False
  | d + 1, a, c, kids, bs => c ≤ maxLen ∧ kids.length ≤ c ∧ (a = none → c = 0) ∧
    ((kids = [] ∧ bs = []) ∨ ∃ (b : Nat) (es : List Es) (bss : List (List Nat)), a = some ⟨b, 0, none⟩ ∧ kids = es.map Es.e ∧ bss.length = es.length ∧ 0 < es.length ∧ bs = b :: bss.flatten ∧
      w.ownsRow b 32 4 (.slice (some ⟨b, 0, none⟩) es.length c) es.length (ecells es) ∧
      ∀ (i : Nat) (h : i < es.length) (h' : i < bss.length), es[i].e.fit ∧ KidsO w d es[i].a es[i].c es[i].e.kids bss[i])

theorem ownsRow_block {w w' : World} {base : Nat} {e : TypeId} {size : Nat} {v : Value} {n : Nat} {xs : List Value} (h : w.ownsRow base e size v n xs) (hb : ∀ g, v.ownBlock = some g → w'.heap[g]? = w.heap[g]?) : w'.ownsRow base e size v n xs := by
  refine ⟨h.1, ?_⟩
  rcases h.2 with h2 | ⟨g, cap, cur, hv, hB, hg, r⟩
  · exact .inl h2
  · exact .inr ⟨g, cap, cur, hv, hB, by rw [hb g (by rw [hv]; rfl)]; exact hg, r⟩

theorem ownsRow_lt {w : World} {base : Nat} {e : TypeId} {size : Nat} {g n c : Nat} {xs : List Value} (h : w.ownsRow base e size (.slice (some ⟨g, 0, none⟩) n c) n xs) : g < w.heap.size := (h.lt g rfl).2

theorem KidsO.agree {w w' : World} : ∀ {d : Nat} {a : Option Addr} {c : Nat} {kids : List Ex} {bs : List Nat}, (∀ b ∈ bs, w'.heap[b]? = w.heap[b]?) → KidsO w d a c kids bs → KidsO w' d a c kids bs
  | 0, _, _, _, _, _, h => h
  | d + 1, a, c, kids, bs, hc, h => by
    obtain ⟨h1, h2, h3, h4⟩ := h
    refine ⟨h1, h2, h3, ?_⟩
    rcases h4 with h4 | ⟨b, es, bss, ha, hk, hl, hp, rfl, hown, hkid⟩
    · exact .inl h4
    · refine .inr ⟨b, es, bss, ha, hk, hl, hp, rfl, ownsRow_block hown fun g hg => by cases hg; exact hc b (List.mem_cons_self ..), fun i hi hi' => ?_⟩
      obtain ⟨hf, hk⟩ := hkid i hi hi'
      exact ⟨hf, KidsO.agree (fun g hg => hc g (List.mem_cons_of_mem _ (List.mem_flatten.2 ⟨_, List.getElem_mem hi', hg⟩))) hk⟩

theorem KidsO.at {w : World} : ∀ {d : Nat} {a : Option Addr} {c : Nat} {kids : List Ex} {bs : List Nat}, KidsO w d a c kids bs → KidsAt w d a c kids
  | 0, _, _, _, _, h => h
  | d + 1, a, c, kids, bs, h => by
    obtain ⟨h1, h2, h3, h4⟩ := h
    refine ⟨h2, h1, h3, fun hp => ?_⟩
    rcases h4 with ⟨rfl, _⟩ | ⟨b, es, bss, ha, rfl, hl, hp, rfl, hown, hkid⟩
    · simp at hp
    · refine ⟨b, 0, ha, ownsRow_lt hown, fun i hi => ?_⟩
      have hi' : i < es.length := by simpa using hi
      obtain ⟨hf, hk⟩ := hkid i hi' (by omega)
      obtain ⟨c0, c1, c2, c3⟩ := ecells_at es i hi'
      have e0 := (World.ownsRow.cellAt (w := w) hown (i * 4) (by omega)).trans c0
      have e1 := (World.ownsRow.cellAt (w := w) hown (i * 4 + 1) (by omega)).trans c1
      have e2 := (World.ownsRow.cellAt (w := w) hown (i * 4 + 2) (by omega)).trans c2
      have e3 := (World.ownsRow.cellAt (w := w) hown (i * 4 + 3) (by omega)).trans c3
      rw [Nat.zero_add]
      simp only [List.getElem_map]
      exact ⟨e0, e1, e2, hf, _, _, e3, hk.at⟩

theorem KidsO.lt {w : World} : ∀ {d : Nat} {a : Option Addr} {c : Nat} {kids : List Ex} {bs : List Nat}, KidsO w d a c kids bs → ∀ b ∈ bs, b < w.heap.size
  | 0, _, _, _, _, h => h.elim
  | d + 1, a, c, kids, bs, h => by
    obtain ⟨_, _, _, h4⟩ := h
    intro b hb
    rcases h4 with ⟨_, rfl⟩ | ⟨b0, es, bss, ha, rfl, hl, hp, rfl, hown, hkid⟩
    · simp at hb
    · rcases List.mem_cons.1 hb with rfl | hb
      · exact ownsRow_lt hown
      · obtain ⟨l, hl', hbl⟩ := List.mem_flatten.1 hb
        obtain ⟨i, hi, rfl⟩ := List.mem_iff_getElem.1 hl'
        exact (hkid i (by omega) hi).2.lt b hbl

theorem KidsO.below {w w' : World} {d : Nat} {a : Option Addr} {c : Nat} {kids : List Ex} {bs : List Nat} (h : KidsO w d a c kids bs) (hb : Below w.heap.size w w') : KidsO w' d a c kids bs :=
  h.agree fun b hm => hb.block b (h.lt b hm)

theorem KidsO.nil (w : World) (d : Nat) : KidsO w (d + 1) none 0 [] [] := ⟨by unfold maxLen; omega, Nat.le_refl _, fun _ => rfl, .inl ⟨rfl, rfl⟩⟩

/-- What a copy of an expression answers: the same tree, in blocks of its own. -/
def NewO (w : World) (d : Nat) (e : Ex) (x : Ending) (w' : World) : Prop :=
  ∃ a c bs, x = .returned (.agg #[.int .i64 e.kind, .string e.text, .int .i64 e.num, .slice a e.kids.length c]) ∧ KidsO w' d a c e.kids bs ∧ bs.Nodup ∧ (∀ b ∈ bs, w.heap.size ≤ b) ∧ Below w.heap.size w w'

def NewKidsO (w : World) (d : Nat) (kids : List Ex) (x : Ending) (w' : World) : Prop :=
  ∃ a c bs, x = .returned (.slice a kids.length c) ∧ KidsO w' d a c kids bs ∧ bs.Nodup ∧ (∀ b ∈ bs, w.heap.size ≤ b) ∧ Below w.heap.size w w'

/-- What has been copied of a row of expressions. -/
structure DoneO (w : World) (d : Nat) (kids : List Ex) (done : List Es) (bss : List (List Nat)) (wr : World) : Prop where
  le : done.length ≤ kids.length
  len : bss.length = done.length
  kid : ∀ (j : Nat) (h : j < done.length) (h' : j < kids.length) (h2 : j < bss.length), done[j].e = kids[j] ∧ KidsO wr d done[j].a done[j].c kids[j].kids bss[j]
  nodup : bss.flatten.Nodup
  range : ∀ b ∈ bss.flatten, w.heap.size + 1 ≤ b ∧ b < wr.heap.size
  own : wr.ownsRow w.heap.size 32 4 (.slice (some ⟨w.heap.size, 0, none⟩) kids.length kids.length) kids.length (efill done kids.length)
  lt : w.heap.size < wr.heap.size
  bel : Below w.heap.size w wr

theorem DoneO.end {w wr : World} {d : Nat} {kids : List Ex} {done : List Es} {bss : List (List Nat)} (h : DoneO w d kids done bss wr) (hn : done.length = kids.length) (hm : kids.length ≤ maxLen) (hfit : ∀ e ∈ kids, e.fit) :
    ∃ bs, KidsO wr (d + 1) (some ⟨w.heap.size, 0, none⟩) kids.length kids bs ∧ bs.Nodup ∧ ∀ b ∈ bs, w.heap.size ≤ b := by
  have hk : kids = done.map Es.e := by
    refine List.ext_getElem (by simp [hn]) fun i h1 h2 => ?_
    have h3 : i < done.length := by simpa using h2
    rw [List.getElem_map, (h.kid i h3 h1 (by rw [h.len]; exact h3)).1]
  by_cases h0 : kids.length = 0
  · have : kids = [] := List.eq_nil_of_length_eq_zero h0
    subst this
    exact ⟨[], ⟨by simp [maxLen], Nat.le_refl _, (fun h => by cases h), .inl ⟨rfl, rfl⟩⟩, by simp, by simp⟩
  · refine ⟨w.heap.size :: bss.flatten, ⟨hm, Nat.le_refl _, (fun h => by cases h), .inr ⟨w.heap.size, done, bss, rfl, hk, h.len, by omega, rfl, ?_, fun i hi hi' => ?_⟩⟩, ?_, ?_⟩
    · have := h.own
      rw [← hn, efill_all] at this
      rw [hn] at this ⊢
      exact this
    · obtain ⟨he, hko⟩ := h.kid i hi (by omega) hi'
      rw [he]
      exact ⟨hfit _ (List.getElem_mem _), hko⟩
    · exact List.nodup_cons.2 ⟨fun hm => by have := (h.range _ hm).1; omega, h.nodup⟩
    · intro b hb
      rcases List.mem_cons.1 hb with rfl | hb
      · exact Nat.le_refl _
      · have := (h.range b hb).1; omega

theorem DoneO.step {w wr w2 w3 : World} {d : Nat} {kids : List Ex} {done : List Es} {bss : List (List Nat)} (h : DoneO w d kids done bss wr) (hlt : done.length < kids.length) {a : Option Addr} {c : Nat} {nb : List Nat}
    (hk : KidsO w2 d a c kids[done.length].kids nb) (hnd : nb.Nodup) (hnb : ∀ b ∈ nb, wr.heap.size ≤ b) (hb2 : Below wr.heap.size wr w2)
    (h3 : w3 = (((w2.setCell ⟨w.heap.size, done.length * 4, none⟩ (.int .i64 kids[done.length].kind)).setCell ⟨w.heap.size, done.length * 4 + 1, none⟩ (.string kids[done.length].text)).setCell ⟨w.heap.size, done.length * 4 + 2, none⟩ (.int .i64 kids[done.length].num)).setCell ⟨w.heap.size, done.length * 4 + 3, none⟩ (.slice a kids[done.length].kids.length c)) :
    DoneO w d kids (done ++ [⟨kids[done.length], a, c⟩]) (bss ++ [nb]) w3 := by
  have hlw := h.lt
  have hown2 : w2.ownsRow w.heap.size 32 4 (.slice (some ⟨w.heap.size, 0, none⟩) kids.length kids.length) kids.length (efill done kids.length) := ownsRow_block h.own fun g hg => by cases hg; exact hb2.block _ hlw
  have R0 := hown2.stored (done.length * 4) (.int .i64 kids[done.length].kind)
  have R1 := R0.1.stored (done.length * 4 + 1) (.string kids[done.length].text)
  have R2 := R1.1.stored (done.length * 4 + 2) (.int .i64 kids[done.length].num)
  have R3 := R2.1.stored (done.length * 4 + 3) (.slice a kids[done.length].kids.length c)
  have hset := efill_set done kids.length ⟨kids[done.length], a, c⟩ hlt
  unfold Es.k Es.t Es.n Es.s at hset
  simp only at hset
  rw [hset] at R3
  have hbw2 : Below w.heap.size w w2 := h.bel.trans (hb2.mono h.bel.size)
  have RB := (((hbw2.setCell (p := ⟨w.heap.size, done.length * 4, none⟩) (Nat.le_refl _) (.int .i64 kids[done.length].kind)).setCell (p := ⟨w.heap.size, done.length * 4 + 1, none⟩) (Nat.le_refl _) (.string kids[done.length].text)).setCell (p := ⟨w.heap.size, done.length * 4 + 2, none⟩) (Nat.le_refl _) (.int .i64 kids[done.length].num)).setCell (p := ⟨w.heap.size, done.length * 4 + 3, none⟩) (Nat.le_refl _) (.slice a kids[done.length].kids.length c)
  have hsz : w3.heap.size = w2.heap.size := by subst h3; simp [World.setCell]
  have hbl : ∀ b, b ≠ w.heap.size → w3.heap[b]? = w2.heap[b]? := by
    intro b hb
    subst h3
    rw [Below.heap_setCell _ _ _ _ hb, Below.heap_setCell _ _ _ _ hb, Below.heap_setCell _ _ _ _ hb, Below.heap_setCell _ _ _ _ hb]
  have hs2 := hb2.size
  have hll := h.len
  have hfl : (bss ++ [nb]).flatten = bss.flatten ++ nb := by simp
  refine ⟨by simp; omega, by simp [hll], fun j hj hj' hj2 => ?_, ?_, ?_, by subst h3; exact R3.1, by omega, by subst h3; exact RB⟩
  · by_cases hjl : j < done.length
    · have hjb : j < bss.length := by omega
      rw [List.getElem_append_left hjl, List.getElem_append_left hjb]
      obtain ⟨h1, h2⟩ := h.kid j hjl hj' hjb
      refine ⟨h1, h2.agree fun b hb => ?_⟩
      have hr := h.range b (List.mem_flatten.2 ⟨_, List.getElem_mem hjb, hb⟩)
      rw [hbl b (by omega), hb2.block b hr.2]
    · have hje : j = done.length := by simp at hj; omega
      subst hje
      rw [List.getElem_append_right (Nat.le_refl _), List.getElem_append_right (by omega)]
      simp only [Nat.sub_self, hll, List.getElem_cons_zero]
      refine ⟨by first | rfl | trivial, hk.agree fun b hb => hbl b (by have := hnb b hb; omega)⟩
  · rw [hfl, List.nodup_append]
    refine ⟨h.nodup, hnd, fun x hx y hy e => ?_⟩
    have := (h.range x hx).2
    have := hnb y hy
    omega
  · intro b hb
    rw [hfl] at hb
    rcases List.mem_append.1 hb with hb | hb
    · have := h.range b hb; omega
    · have := hnb b hb
      have := hk.lt b hb
      omega

end Go.Proofs.YtgnillmhpockkaaGreatDoor

namespace Go.Proofs.YtgnillmhpockkaaGreatDoor
open Go.RowKit

/-- One operation behind what has been read. -/
def stepI (f n : Nat) (e : Ex) (s : Nat) (r : List W) : Option (Ex × Nat × List W) :=
  match opI r with
  | none => none
  | some (k, r') =>
    if bindsK k < n ∨ s < firstK k then none
    else if k = 7 then some (node 7 [e], 4, r')
    else match exprI f (bindsK k + 1) r' with
      | none => none
      | some (q, _, r'') => some (node k [e, q], bindsK k, r'')

theorem extI_step (f n : Nat) (e : Ex) (s : Nat) (r : List W) : extI (f + 1) n e s r = match stepI f n e s r with | none => (e, s, r) | some (e', s', r') => extI f n e' s' r' := by
  rw [extI, stepI]
  cases opI r with
  | none => rfl
  | some q =>
    obtain ⟨k, r'⟩ := q
    simp only
    split
    · rfl
    · split
      · rfl
      · cases exprI f (bindsK k + 1) r' with
        | none => rfl
        | some q => rfl

/-- As ReadR, the tree's blocks of lo. -/
def ReadL (lo : Nat → Prop) (w : World) (rb : Nat) (a : Option Addr) (c : Nat) (l : List Tk) (at_ : Nat) (ans : Option (Ex × Nat × List W)) (x : Ending) (w' : World) : Prop :=
  match ans with
  | some (e, s, r) => ∃ ea ec m, x = .returned (.tuple #[.agg #[.int .i64 e.kind, .string e.text, .int .i64 e.num, .slice ea e.kids.length ec, .int .i64 (s : Int)], .bool true]) ∧ r = left l m ∧ at_ < m ∧ m ≤ l.length ∧ Stp w rb a c l m w' ∧ TrQ w' lo e ea ec
  | none => ∃ (v0 : Int) (v1 : ByteArray) (v2 : Int) (va : Option Addr) (vn vc : Nat) (v4 : Int) (m : Nat), x = .returned (.tuple #[.agg #[.int .i64 v0, .string v1, .int .i64 v2, .slice va vn vc, .int .i64 v4], .bool false]) ∧ Stp w rb a c l m w'

def OperationAt (tp : TypeId) (p : Value) (rb : Nat) (a : Option Addr) (c : Nat) (l : List Tk) (f : Nat) : Prop := ∀ (n at_ s : Nat) (lo : Nat → Prop) (e : Ex) (ea : Option Addr) (ec : Nat) (w : World), 1 ≤ n → n ≤ 7 → s ≤ 7 → Rdy tp p w rb a c l at_ → TrQ w lo e ea ec → (∀ b, lo b → b ≠ rb) → roomX (f + 1) (left l at_) →
  Calls Tryz.prog 108 #[.pointer (some ⟨rb, 0, none⟩), .agg #[.int .i64 e.kind, .string e.text, .int .i64 e.num, .slice ea e.kids.length ec, .int .i64 (s : Int)], .int .i64 (n : Int)] w (ReadL (fun b => lo b ∨ w.heap.size ≤ b) w rb a c l at_ (stepI f n e s (left l at_)))

set_option maxRecDepth 100000 in
/-- append of one expression to a row of the call's own. -/
theorem wpAppendEx {w : World} {ops : Array Oper} {rest : List Oper} {o : Oper} {A : Act} {Q : Exit → Act → World → Prop} (hgd : o.guard = none) (s x : Operand)
    (ho : o.op = .call { callee := .builtin .append, args := #[s, x], argTypes := #[30, 30] }) (B : Nat) (a : Option Addr) (c n : Nat) (es : List Es) (t : Nat) (y : Es) (hn : n = es.length)
    (hs : A.eval s = .slice a n c) (hown : w.ownsRow B 32 4 (.slice a n c) n (ecells es)) (hx : A.eval x = .slice (some ⟨t, 0, none⟩) 1 1)
    (ht : w.heap[t]? = some (.cells #[y.k, y.t, y.n, y.s] 32 (0, 0))) (hl : es.length ≤ 1000) (hB : B ≤ w.heap.size)
    (h : ∀ g c' w', B ≤ g → w'.ownsRow B 32 4 (.slice (some ⟨g, 0, none⟩) (n + 1) c') (n + 1) (ecells (es ++ [y])) → w.grownBy w' (Value.slice a n c).ownBlock → wpList Tryz.prog ops Q rest (A.put o.dst (.slice (some ⟨g, 0, none⟩) (n + 1) c')) w') :
    wpList Tryz.prog ops Q (o :: rest) A w := by
  subst hn
  obtain ⟨i0, hi0, hz0, hz1, hz2⟩ := info_parts Tryz.infoExpr
  refine wpList_append_own_at _ hgd s x 30 ho B 32 i0 (.agg #[.int .i64 0, .string ByteArray.empty, .int .i64 0, .slice none 0 0]) 4 56 Tryz.underlying30 hi0 hz0 hz1 hz2 rfl (by decide) (.slice a es.length c) es.length (ecells es) hs hown ⟨t, 0, none⟩ 1 1 [y.k, y.t, y.n, y.s] hx rfl (World.news_of_block ht) ?_ (by unfold maxLen; omega) (by omega) hB ?_
  · intro u hu
    simp at hu
    rcases hu with rfl | rfl | rfl | rfl <;> rfl
  · intro v4 w4 hown4 hg4 _ hat4
    have he : ecells es ++ [y.k, y.t, y.n, y.s] = ecells (es ++ [y]) := by rw [ecells_append]; rfl
    rw [he] at hown4
    rcases hown4.2 with ⟨_, h0⟩ | ⟨g, cap, cur, hv, hBg, _⟩
    · omega
    · subst hv
      exact h g cap w4 hBg hown4 hg4

end Go.Proofs.YtgnillmhpockkaaGreatDoor
