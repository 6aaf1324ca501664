/- spec.DrawRenamed. -/
import Derived.Test.YtdggcgipchijjaaDrawOddZ
import Derived.Deep.RegionHeldLaw
namespace Go.Proofs.Ytdggcgipchijjaa
open Go.RowKit

/-- What the law of renaming draws. -/
def DrewR (w : World) (x : Ending) (w' : World) : Prop :=
  ∃ (e : Ex) (a' : Option Addr) (c' d : Nat) (f t : ByteArray), x = .returned (.tuple #[.agg #[.int .i64 e.kind, .string e.text, .int .i64 e.num, .slice a' e.kids.length c'], .string f, .string t]) ∧ SmZ e 64 ∧ KidsAt w' d a' c' e.kids ∧ tz f ≤ 60 ∧ tz t ≤ 60 ∧ Below w.heap.size w w'

/-- While the names are drawn. -/
structure DR (g : Nat) (w : World) (R lo : Nat) (k : Int) (t : ByteArray) (n : Int) (es : List Es) (a' : Option Addr) (c' : Nat) (p : World) : Prop where
  rb : ∃ v0 v1 v2 v3, p.heap[w.heap.size]? = some (.cells #[v0, v1, v2, v3] 26 (0, 0))
  re : ExRow p R k t n (.slice a' es.length c')
  row : Row lo p a' c' es
  bel : Below w.heap.size w p
  lies : w.heap.size < g ∧ g < lo ∧ g < R ∧ w.heap.size < R ∧ w.heap.size < p.heap.size

theorem DR.grown {g : Nat} {w : World} {R lo : Nat} {k : Int} {t : ByteArray} {n : Int} {es : List Es} {a' : Option Addr} {c' : Nat} {p q : World} (h : DR g w R lo k t n es a' c' p) (hg : p.grownBy q (some g)) : DR g w R lo k t n es a' c' q := by
  have hl := h.lies
  obtain ⟨v0, v1, v2, v3, hrb⟩ := h.rb
  refine ⟨⟨v0, v1, v2, v3, by rw [hg.block _ hl.2.2.2.2 (fun e => by have := Option.some.inj e; omega)]; exact hrb⟩, h.re.kept hg (fun e => by have := Option.some.inj e; omega), h.row.grown hg (fun j hj => by cases hj; omega), h.bel.grown hg h.bel.size (fun j hj => by cases hj; omega), ⟨hl.1, hl.2.1, hl.2.2.1, hl.2.2.2.1, Nat.lt_of_lt_of_le hl.2.2.2.2 hg.size⟩⟩

def CellsR (R : Nat) (k : Int) (t : ByteArray) (n : Int) (v : Value) (p : World) : Prop :=
  p.cell? ⟨R, 0, none⟩ = some (.int .i64 k) ∧ p.cell? ⟨R, 1, none⟩ = some (.string t) ∧ p.cell? ⟨R, 2, none⟩ = some (.int .i64 n) ∧ p.cell? ⟨R, 3, none⟩ = some v

theorem DR.cells {g : Nat} {w : World} {R lo : Nat} {k : Int} {t : ByteArray} {n : Int} {es : List Es} {a' : Option Addr} {c' : Nat} {p : World} (h : DR g w R lo k t n es a' c' p) :
    p.cell? ⟨R, 0, none⟩ = some (.int .i64 k) ∧ p.cell? ⟨R, 1, none⟩ = some (.string t) ∧ p.cell? ⟨R, 2, none⟩ = some (.int .i64 n) ∧ p.cell? ⟨R, 3, none⟩ = some (.slice a' es.length c') := by
  obtain ⟨z0, z1, z2, z3, _⟩ := h.re.cells
  exact ⟨z0, z1, z2, z3⟩

theorem cells4D {W : World} {R : Nat} {v0 v1 v2 v3 : Value} {T : TypeId} (h : W.heap[R]? = some (.cells #[v0, v1, v2, v3] T (0, 0))) :
    W.cell? ⟨R, 0, none⟩ = some v0 ∧ W.cell? ⟨R, 1, none⟩ = some v1 ∧ W.cell? ⟨R, 2, none⟩ = some v2 ∧ W.cell? ⟨R, 3, none⟩ = some v3 ∧ ∀ o, W.frozen? ⟨R, o, none⟩ = false := by
  refine ⟨by rw [cell_of_row _ _ _ _ _ _ h]; rfl, by rw [cell_of_row _ _ _ _ _ _ h]; rfl, by rw [cell_of_row _ _ _ _ _ _ h]; rfl, by rw [cell_of_row _ _ _ _ _ _ h]; rfl, fun o => ?_⟩
  unfold World.frozen?
  rw [h]
  simp

theorem heap_setD {W : World} {R i : Nat} {cs : Array Value} {T : TypeId} {fr : Nat × Nat} {u : Value} (h : W.heap[R]? = some (.cells cs T fr)) : (W.setCell ⟨R, i, none⟩ u).heap[R]? = some (.cells (cs.setIfInBounds i u) T fr) := by
  show (W.heap.modify R _)[R]? = _
  rw [Array.getElem?_modify, if_pos rfl, h]
  rfl

theorem DR.store {g : Nat} {w : World} {R lo : Nat} {k : Int} {t : ByteArray} {n : Int} {es : List Es} {a' : Option Addr} {c' : Nat} {p q : World} (h : DR g w R lo k t n es a' c' p) {u0 u1 u2 u3 : Value}
    (hq : q = (((p.setCell ⟨w.heap.size, 0, none⟩ u0).setCell ⟨w.heap.size, 1, none⟩ u1).setCell ⟨w.heap.size, 2, none⟩ u2).setCell ⟨w.heap.size, 3, none⟩ u3) :
    (q.cell? ⟨R, 0, none⟩ = some (.int .i64 k) ∧ q.cell? ⟨R, 1, none⟩ = some (.string t) ∧ q.cell? ⟨R, 2, none⟩ = some (.int .i64 n) ∧ q.cell? ⟨R, 3, none⟩ = some (.slice a' es.length c')) ∧ Hid (DR g w R lo k t n es a' c' q) := by
  have hl := h.lies
  obtain ⟨v0, v1, v2, v3, hrb⟩ := h.rb
  have hd : DR g w R lo k t n es a' c' q := by
    subst hq
    refine ⟨⟨u0, u1, u2, u3, ?_⟩, (((h.re.setO (by omega) _ _).setO (by omega) _ _).setO (by omega) _ _).setO (by omega) _ _, (((h.row.set (by omega) _ _).set (by omega) _ _).set (by omega) _ _).set (by omega) _ _, (((h.bel.setCell (by simp) _).setCell (by simp) _).setCell (by simp) _).setCell (by simp) _, by simpa [World.setCell] using hl⟩
    rw [heap_setD (heap_setD (heap_setD (heap_setD hrb)))]
    rfl
  exact ⟨hd.cells, hd⟩

theorem DR.step {g : Nat} {w : World} {R lo : Nat} {k : Int} {t : ByteArray} {n : Int} {es : List Es} {a' : Option Addr} {c' : Nat} {p q : World} (h : DR g w R lo k t n es a' c' p) (hg : p.grownBy q (some g)) :
    (q.cell? ⟨R, 0, none⟩ = some (.int .i64 k) ∧ q.cell? ⟨R, 1, none⟩ = some (.string t) ∧ q.cell? ⟨R, 2, none⟩ = some (.int .i64 n) ∧ q.cell? ⟨R, 3, none⟩ = some (.slice a' es.length c')) ∧ Hid (DR g w R lo k t n es a' c' q) :=
  ⟨(h.grown hg).cells, h.grown hg⟩

theorem DR.end {g : Nat} {w : World} {R lo : Nat} {k : Int} {t : ByteArray} {n : Int} {es : List Es} {a' : Option Addr} {c' : Nat} {p : World} (h : DR g w R lo k t n es a' c' p) (hsm : SmZ (eOf k t n es) 64) {f s : ByteArray} (hf : tz f ≤ 60) (hs : tz s ≤ 60) :
    DrewR w (.returned (.tuple #[.agg #[.int .i64 k, .string t, .int .i64 n, .slice a' es.length c'], .string f, .string s])) p := by
  obtain ⟨d, hk⟩ := h.row.kids
  have hl : (es.map Es.e).length = es.length := List.length_map ..
  refine ⟨eOf k t n es, a', c', d, f, s, ?_, hsm, hk.at, hf, hs, h.bel⟩
  show _ = Ending.returned (.tuple #[.agg #[.int .i64 k, .string t, .int .i64 n, .slice a' (es.map Es.e).length c'], .string f, .string s])
  rw [hl]

set_option maxRecDepth 100000 in
set_option maxHeartbeats 2000000 in
theorem specDrawRenamed (a : Option Addr) (c : Nat) (l : List UInt8) (w : World) (hb : Bytes w a c l) (hs : l.length ≤ 1048576) :
    Calls Try.prog 14 #[.slice a l.length c] w (DrewR w) := by
  have hb0 := fun o => (Below.refl w.heap.size w).alloc (Nat.le_refl _) o
  have HB0 := Lib.hid hb0
  have HBY := Lib.hid (fun w' hb' => hb.below (w' := w') hb')
  have HRB := Lib.hid (exRow_new w 0 ⟨#[]⟩ 0 (.slice none 0 0))
  have hsz0 := size_allocE w (.cells #[.int .i64 0, .string ⟨#[]⟩, .int .i64 0, .slice none 0 0] 26)
  have HSZ := Lib.hid hsz0
  clear hb hb0 hsz0
  go_enter Try.func14, Try.ntmps14
  go_wp2_with fail
  have HBW := Lib.hid (HB0.out (.cells #[.int .i64 0, .string ⟨#[]⟩, .int .i64 0, .slice none 0 0] 26))
  generalize w.alloc (.cells #[.int .i64 0, .string ⟨#[]⟩, .int .i64 0, .slice none 0 0] 26) = W0 at HRB HBW HSZ ⊢
  refine (l01New a c l W0 (HBY.out _ HBW.out) hs).mono ?_
  rintro e w1 ⟨rfl, hd1, hb1, hz1⟩
  have HRB1 := Lib.hid (HRB.out.below hb1)
  have Hd1 := Lib.hid hd1
  have Hb1 := Lib.hid hb1
  have Hz1 := Lib.hid hz1
  clear hd1 hb1 hz1
  go_wp2_with fail
  refine (l04OddS Hd1.out Hb1.out.size).mono ?_
  rintro x w2 ⟨k, t, n, es, a', c', rfl, hrow, hsm, hdg⟩
  have HDR : Hid (DR W0.heap.size w w2.heap.size w1.heap.size k t n es a' c' (w2.alloc (.cells #[.int .i64 k, .string t, .int .i64 n, .slice a' es.length c'] 26))) := by
    have h1 := HBW.out.trans (Hb1.out.mono HBW.out.size)
    have h2 : Below w.heap.size w w2 := h1.grown hdg.2 h1.size (fun q hq => by cases hq; have := HSZ.out; omega)
    have h3 := (HRB1.out.kept hdg.2 (fun e => by have := Option.some.inj e; have := HSZ.out; omega)).alloc (.cells #[.int .i64 k, .string t, .int .i64 n, .slice a' es.length c'] 26)
    have hz := HSZ.out
    have hz1 := Hz1.out
    have hz2 := hdg.2.size
    exact ⟨⟨_, _, _, _, h3⟩, exRow_new w2 k t n _, hrow.alloc _, h2.trans (((Below.refl w2.heap.size w2).alloc (Nat.le_refl _) _).mono h2.size), ⟨by omega, by omega, by omega, by omega, by simp; omega⟩⟩
  have HDK := Lib.hid (hdg.1.alloc (.cells #[.int .i64 k, .string t, .int .i64 n, .slice a' es.length c'] 26))
  have HSM := Lib.hid hsm
  clear hrow hsm hdg
  go_wp2_with fail
  generalize w2.alloc (.cells #[.int .i64 k, .string t, .int .i64 n, .slice a' es.length c'] 26) = W3 at HDR HDK ⊢
  generalize w2.heap.size = R at HDR ⊢
  generalize W0.heap.size = g at *
  have HD3 : Hid (DR g w R w1.heap.size k t n es a' c' W3.drew) := ⟨HDR.out.rb, HDR.out.re, HDR.out.row.below (below_drewE (Below.refl _ _)), below_drewE HDR.out.bel, HDR.out.lies⟩
  have hK3 : Deck W0 a c l g W3.drew := HDK.out.belowed (below_drewE (Below.refl _ _))
  obtain ⟨v0, v1, v2, v3, hR⟩ := HD3.out.rb
  obtain ⟨r0, r1, r2, r3, rf⟩ := cells4D hR
  have tok1 : True := trivial
  go_region_held_law (fun p => (p.cell? ⟨R, 0, none⟩ = some (.int .i64 k) ∧ p.cell? ⟨R, 1, none⟩ = some (.string t) ∧ p.cell? ⟨R, 2, none⟩ = some (.int .i64 n) ∧ p.cell? ⟨R, 3, none⟩ = some (.slice a' es.length c')) ∧ Hid (DR g w R w1.heap.size k t n es a' c' p)) (first | assumption | exact ⟨HD3.out.cells, HD3.out⟩ | exact DR.store (And.right (by assumption : _ ∧ Hid (DR g w R w1.heap.size k t n es a' c' _))).out rfl)
    (first
      | (go_simp; go_at_call 36; have _t := tok1; refine (l03NameZ hK3).mono ?_; rintro x p1 ⟨v, ⟨s1, rfl, hs1⟩, rfl, hd1, hg1⟩; have hS1 := DR.step HD3.out hg1; obtain ⟨p0, p1', p2, p3, hR1⟩ := hS1.2.out.rb; obtain ⟨y0, y1, y2, y3, yf⟩ := cells4D hR1; clear tok1)
      | (go_simp; go_at_call 36; refine (l03NameZ hd1).mono ?_; rintro x p2 ⟨v, ⟨s2, rfl, hs2⟩, rfl, hd2, hg2⟩; have hS2 := DR.step hS1.2.out hg2; obtain ⟨q0, q1, q2, q3, hR2⟩ := hS2.2.out.rb; obtain ⟨z0, z1, z2, z3, zf⟩ := cells4D hR2))
  all_goals
    go_wp2_with fail
    first
      | (refine bodyPost_ret (v := .tuple #[.agg #[.int .i64 k, .string t, .int .i64 n, .slice a' es.length c'], .string s1, .string s2]) (by simp [results, Try.results14, go_sem, z0, z1, z2, z3]; done) rfl ?_; exact DR.end (DR.store hS2.2.out rfl).2.out HSM.out hs1 hs2)
      | (refine bodyPost_ret (v := .tuple #[.agg #[.int .i64 k, .string t, .int .i64 n, .slice a' es.length c'], .string s2, .string s1]) (by simp [results, Try.results14, go_sem, z0, z1, z2, z3]; done) rfl ?_; exact DR.end (DR.store hS2.2.out rfl).2.out HSM.out hs2 hs1)

end Go.Proofs.Ytdggcgipchijjaa
