/- How the arguments of a law are opened: slices of texts, of bytes. -/
/- How an expression among a law's arguments is opened. -/
/- Expressions in boxes of their own: what the exact laws over expressions read. -/
import Derived.Test.YtefjjcoaeanagaaDoorMem
import Derived.ProofKit
import Derived.OpenShut
import Derived.ShutString
import Derived.ChangeOld
import Derived.Below
import Derived.SliceStrings
import Derived.Test.YtefjjcoaeanagaaDoorMEx
import Derived.Lib.SmallJoins
import Derived.Deep.Strs
import Derived.ChangeArms
import Derived.Test.YtefjjcoaeanagaaDoorMExSz
namespace Go.Proofs.YtefjjcoaeanagaaDoor
open Go.ChangeShapes Go.WideShapes Go.ChangeAt Go.RowKit

theorem ownKnobs : ownKnob Tryd.prog.godebug = none := by kernel_rfl
theorem laidOutB0 : laidOutB Tryd.prog = true := by kernel_rfl

theorem Strs_of_trod {H : Type} {enc : TypeId × Value → H} {W : World} {base : Nat} {a : Option Addr} {l c : Nat} {d : DataW H} {p : List MemPlace}
    (h : DataW.Trod enc Tryd.prog W base (fun _ => true) true 39 (.slice a l c) d p) : ∃ xs : List ByteArray, l = xs.length ∧ Strs W a c xs := by
  obtain ⟨fuel, hf⟩ := h
  have hlt := DataW.trod_lt fuel _ _ _ hf
  rcases open_strings Tryd.underlying39 Tryd.underlying9 (by kernel_rfl) hf with ⟨hcs, _⟩ | ⟨x, l', c', ss, hcs, _, hl, hm, hz, hx, hcell, hw⟩
  · simp [Value.cells] at hcs
    obtain ⟨rfl, rfl, rfl⟩ := hcs
    exact ⟨[], rfl, by simp, by unfold maxLen; omega, by simp, fun _ => rfl, fun h => by simp at h⟩
  · simp [Value.cells] at hcs
    obtain ⟨rfl, rfl, rfl⟩ := hcs
    rw [if_pos rfl] at hz
    refine ⟨ss.take l, by simp; omega, by simp; omega, hm, fun s hs => hw s (List.mem_of_mem_take hs), (fun h => by cases h), fun hp => ?_⟩
    obtain ⟨b, off, spot⟩ := x
    have hp' : 0 < l := by simp at hp; omega
    have h0 := hcell 0 (by omega)
    have hspot : spot = none := by simpa [Addr.add] using World.cell?_spot h0
    subst hspot
    refine ⟨b, off, rfl, ?_, fun i hi => ?_⟩
    · have hb : W.cell? ⟨b, off, none⟩ = some (.string (ss.getD 0 ByteArray.empty)) := by simpa [Addr.add] using h0
      rcases Nat.lt_or_ge b W.heap.size with hlt | hge
      · exact hlt
      · simp [World.cell?, Array.getElem?_eq_none hge] at hb
    · have hi' : i < l := by simp at hi; omega
      have := hcell i (by omega)
      rw [List.getElem_take]
      rw [List.getD_eq_getElem?_getD, List.getElem?_eq_getElem (by omega), Option.getD_some] at this
      rw [← this]
      congr 1
      unfold Addr.add
      by_cases h0 : i = 0 <;> simp [h0]

end Go.Proofs.YtefjjcoaeanagaaDoor

namespace Go.Proofs.YtefjjcoaeanagaaDoor
open Go.ChangeShapes Go.WideShapes Go.ChangeAt Go.RowKit

theorem i64E_of {n : Int} (h : (Lit.int .i64 n).wf = true) : i64E n := by
  have hmin : IntKind.i64.min = -9223372036854775808 := by decide
  have hmax : IntKind.i64.max = 9223372036854775807 := by decide
  simp [Lit.wf, hmin, hmax] at h
  exact h

theorem cellsEx : Tryd.prog.cellsOf 47 = 4 := by kernel_rfl
theorem cellsIntE : Tryd.prog.cellsOf 3 = 1 := by kernel_rfl
theorem cellsStrE : Tryd.prog.cellsOf 9 = 1 := by kernel_rfl
theorem cellsKids : Tryd.prog.cellsOf 45 = 1 := by kernel_rfl

set_option maxRecDepth 100000 in
theorem ex_of_trod {H : Type} {enc : TypeId × Value → H} {W : World} : ∀ (fuel : Nat) (cs : List Value) (x : DataW H × List MemPlace),
    DataW.trod enc Tryd.prog W 0 (fun _ => true) true fuel 47 cs = some x →
    ∃ (e : Ex) (a : Option Addr) (c : Nat), cs = [.int .i64 e.kind, .string e.text, .int .i64 e.num, .slice a e.kids.length c] ∧ e.fit ∧ KidsAt W fuel a c e.kids := by
  intro fuel
  induction fuel using Nat.strongRecOn with
  | ind fuel ih =>
    intro cs x h
    obtain ⟨ys, n, hn, _, hl, hyl, hf⟩ := DataW.trod_struct Tryd.underlying47 h
    subst hn
    rw [cellsEx] at hl
    match cs, hl with
    | [c0, c1, c2, c3], _ =>
      have hs : ys.length = 4 := hyl
      match ys, hs with
      | [y0, y1, y2, y3], _ =>
        have f0 : DataW.trod enc Tryd.prog W 0 (fun _ => true) true n 3 (([c0, c1, c2, c3].drop 0).take (Tryd.prog.cellsOf 3)) = some y0 := hf 0 _ rfl
        have f1 : DataW.trod enc Tryd.prog W 0 (fun _ => true) true n 9 (([c0, c1, c2, c3].drop 1).take (Tryd.prog.cellsOf 9)) = some y1 := hf 1 _ rfl
        have f2 : DataW.trod enc Tryd.prog W 0 (fun _ => true) true n 3 (([c0, c1, c2, c3].drop 2).take (Tryd.prog.cellsOf 3)) = some y2 := hf 2 _ rfl
        have f3 : DataW.trod enc Tryd.prog W 0 (fun _ => true) true n 45 (([c0, c1, c2, c3].drop 3).take (Tryd.prog.cellsOf 45)) = some y3 := hf 3 _ rfl
        rw [cellsIntE] at f0 f2
        rw [cellsStrE] at f1
        rw [cellsKids] at f3
        obtain ⟨k, e0, _, w0⟩ := DataW.trod_int Tryd.underlying3 f0
        obtain ⟨s, e1, _, w1⟩ := DataW.trod_string Tryd.underlying9 f1
        obtain ⟨p, e2, _, w2⟩ := DataW.trod_int Tryd.underlying3 f2
        simp at e0 e1 e2
        subst e0 e1 e2
        rcases DataW.trod_slice Tryd.underlying45 f3 with ⟨hcs, _⟩ | ⟨q, len, cap, elems, rest, m, hm, hcs, _, _, hlc, hcap, hlen, hel, _, _⟩
        · simp at hcs
          subst hcs
          exact ⟨.mk k s p [], none, 0, rfl, ⟨w1, i64E_of w0, i64E_of w2⟩, Nat.le_refl _, by unfold maxLen; omega, fun _ => rfl, fun h => absurd h (by simp [Ex.kids])⟩
        · simp at hcs
          subst hcs
          subst hm
          have hpick : ∀ i, i < len → ∃ (e : Ex) (a : Option Addr) (c : Nat), (W.cell? (q.add (i * 4 + 0)) = some (.int .i64 e.kind) ∧ W.cell? (q.add (i * 4 + 1)) = some (.string e.text) ∧ W.cell? (q.add (i * 4 + 2)) = some (.int .i64 e.num) ∧ W.cell? (q.add (i * 4 + 3)) = some (.slice a e.kids.length c)) ∧ e.fit ∧ KidsAt W m a c e.kids := by
            intro i hi
            have hh := hel i hi
            rw [cellsEx, List.getElem?_eq_getElem (by omega)] at hh
            obtain ⟨cs', hc, ht⟩ := Option.bind_eq_some_iff.1 hh
            obtain ⟨e, a, c, rfl, hfit, hk⟩ := ih m (by omega) cs' _ ht
            obtain ⟨_, _, hat⟩ := World.cells?_some hc
            refine ⟨e, a, c, ⟨?_, ?_, ?_, ?_⟩, hfit, hk⟩
            · rw [← Go.Deep.add_add]; exact hat 0 (by omega)
            · rw [← Go.Deep.add_add]; exact hat 1 (by omega)
            · rw [← Go.Deep.add_add]; exact hat 2 (by omega)
            · rw [← Go.Deep.add_add]; exact hat 3 (by omega)
          clear hel ih hf h f0 f1 f2 f3
          have hall : ∃ es : List Ex, es.length = len ∧ ∀ (i : Nat) (h : i < es.length), ∃ (a : Option Addr) (c : Nat), (W.cell? (q.add (i * 4 + 0)) = some (.int .i64 es[i].kind) ∧ W.cell? (q.add (i * 4 + 1)) = some (.string es[i].text) ∧ W.cell? (q.add (i * 4 + 2)) = some (.int .i64 es[i].num) ∧ W.cell? (q.add (i * 4 + 3)) = some (.slice a es[i].kids.length c)) ∧ es[i].fit ∧ KidsAt W m a c es[i].kids := by
            suffices H : ∀ z, z ≤ len → ∃ es : List Ex, es.length = z ∧ ∀ (i : Nat) (h : i < es.length), ∃ (a : Option Addr) (c : Nat), (W.cell? (q.add (i * 4 + 0)) = some (.int .i64 es[i].kind) ∧ W.cell? (q.add (i * 4 + 1)) = some (.string es[i].text) ∧ W.cell? (q.add (i * 4 + 2)) = some (.int .i64 es[i].num) ∧ W.cell? (q.add (i * 4 + 3)) = some (.slice a es[i].kids.length c)) ∧ es[i].fit ∧ KidsAt W m a c es[i].kids from H len (Nat.le_refl _)
            intro z
            induction z with
            | zero => exact fun _ => ⟨[], rfl, fun i h => by simp at h⟩
            | succ z ihz =>
              intro hz
              obtain ⟨es, hes, hc⟩ := ihz (by omega)
              obtain ⟨e, a, c, he⟩ := hpick z (by omega)
              refine ⟨es ++ [e], by simp [hes], fun i h => ?_⟩
              by_cases hiz : i < es.length
              · rw [List.getElem_append_left hiz]; exact hc i hiz
              · have : i = z := by simp at h; omega
                subst this
                refine ⟨a, c, ?_⟩
                rw [List.getElem_append_right (by omega)]
                simpa using he
          obtain ⟨es, hesl, hes⟩ := hall
          refine ⟨.mk k s p es, some q, cap, by simp [Ex.kind, Ex.text, Ex.num, Ex.kids, hesl], ⟨w1, i64E_of w0, i64E_of w2⟩, ?_⟩
          refine KidsAt.mono (d := m + 1) (by omega) ?_
          simp only [Ex.kids]
          refine ⟨by omega, hcap, (fun h => by cases h), fun hp => ?_⟩
          obtain ⟨b, off, spot⟩ := q
          obtain ⟨_, _, ⟨h0, _⟩, _⟩ := hes 0 hp
          have hspot : spot = none := by simpa [Addr.add] using World.cell?_spot h0
          subst hspot
          have hadd : ∀ j, (⟨b, off, none⟩ : Addr).add j = ⟨b, off + j, none⟩ := fun j => by unfold Addr.add; by_cases h0 : j = 0 <;> simp [h0]
          refine ⟨b, off, rfl, ?_, fun i hi' => ?_⟩
          · have hb : W.cell? ⟨b, off, none⟩ = some (.int .i64 es[0].kind) := by simpa [Addr.add] using h0
            rcases Nat.lt_or_ge b W.heap.size with hlt | hge
            · exact hlt
            · simp [World.cell?, Array.getElem?_eq_none hge] at hb
          · obtain ⟨a, c, ⟨d0, d1, d2, d3⟩, hfit, hk⟩ := hes i hi'
            rw [hadd] at d0 d1 d2 d3
            exact ⟨d0, d1, d2, hfit, a, c, d3, hk⟩

set_option maxRecDepth 100000 in
theorem Expr_of_trod {H : Type} {enc : TypeId × Value → H} {W : World} {b0 : Nat} {r : Reach} {v : Value} {d : DataW H} {p : List MemPlace}
    (hv : Value.okWide Tryd.prog W r b0 47 v) (h : DataW.Trod enc Tryd.prog W 0 (fun _ => true) true 47 v d p) :
    ∃ (e : Ex) (a : Option Addr) (c n : Nat), v = e.v a c ∧ e.fit ∧ KidsAt W n a c e.kids := by
  obtain ⟨cs, rfl, hsz⟩ := okWide_struct Tryd.underlying47 hv
  obtain ⟨fuel, hf⟩ := h
  obtain ⟨e, a, c, hcs, hfit, hk⟩ := ex_of_trod fuel _ _ hf
  refine ⟨e, a, c, fuel, ?_, hfit, hk⟩
  obtain ⟨l⟩ := cs
  have : l = _ := hcs
  subst this
  rfl

end Go.Proofs.YtefjjcoaeanagaaDoor

namespace Go.Proofs.YtefjjcoaeanagaaDoor
open Go.ChangeShapes Go.WideShapes Go.ChangeAt Go.RowKit

/-- The cells of the argument's own box. -/
def Box4 (w : World) (b : Nat) (e : Ex) (a : Option Addr) (c : Nat) : Prop :=
  b < w.heap.size ∧ w.cell? ⟨b, 0, none⟩ = some (.int .i64 e.kind) ∧ w.cell? ⟨b, 1, none⟩ = some (.string e.text) ∧ w.cell? ⟨b, 2, none⟩ = some (.int .i64 e.num) ∧ w.cell? ⟨b, 3, none⟩ = some (.slice a e.kids.length c)

theorem box4_new (w : World) (T : TypeId) (e : Ex) (a : Option Addr) (c : Nat) : Box4 (w.alloc (.cells #[.int .i64 e.kind, .string e.text, .int .i64 e.num, .slice a e.kids.length c] T)) w.heap.size e a c :=
  ⟨by simp, by simp [go_sem], by simp [go_sem], by simp [go_sem], by simp [go_sem]⟩

theorem Box4.below {w w' : World} {b : Nat} {e : Ex} {a : Option Addr} {c : Nat} (h : Box4 w b e a c) (hb : Below w.heap.size w w') : Box4 w' b e a c := by
  obtain ⟨h0, h1, h2, h3, h4⟩ := h
  have ce := fun o => hb.cell (p := ⟨b, o, none⟩) h0
  exact ⟨Nat.lt_of_lt_of_le h0 hb.size, (ce 0).trans h1, (ce 1).trans h2, (ce 2).trans h3, (ce 3).trans h4⟩

/-- Two boxes: the argument's own, and that of its copy. -/
def Two (w : World) (X : Nat) (e : Ex) (a a4 : Option Addr) (c c4 d : Nat) (w' : World) : Prop :=
  Box4 w' w.heap.size e a c ∧ Box4 w' X e a4 c4 ∧ KidsAt w' d a4 c4 e.kids ∧ Below w.heap.size w w'

theorem Two.below {w wa wb : World} {X : Nat} {e : Ex} {a a4 : Option Addr} {c c4 d : Nat} (h : Two w X e a a4 c c4 d wa) (hb : Below wa.heap.size wa wb) : Two w X e a a4 c c4 d wb :=
  ⟨h.1.below hb, h.2.1.below hb, h.2.2.1.below hb, h.2.2.2.trans (hb.mono h.2.2.2.size)⟩

theorem Two.drew {w wa : World} {X : Nat} {e : Ex} {a a4 : Option Addr} {c c4 d : Nat} (h : Two w X e a a4 c c4 d wa) : Two w X e a a4 c c4 d wa.drew := h.below (below_drewE (Below.refl _ _))

theorem Two.new {w w4 : World} {e : Ex} {a a4 : Option Addr} {c c4 d : Nat} (hX : Box4 w4 w.heap.size e a c) (hK : KidsAt w4 d a4 c4 e.kids) (hB : Below w.heap.size w w4) (T : TypeId) :
    Two w w4.heap.size e a a4 c c4 d (w4.alloc (.cells #[.int .i64 e.kind, .string e.text, .int .i64 e.num, .slice a4 e.kids.length c4] T)) :=
  ⟨hX.below ((Below.refl _ _).alloc (Nat.le_refl _) _), box4_new w4 T e a4 c4, hK.below ((Below.refl _ _).alloc (Nat.le_refl _) _), hB.trans (((Below.refl _ _).alloc (Nat.le_refl _) _).mono hB.size)⟩

/-- Their cells, one by one. -/
def Cells8 (n X : Nat) (e : Ex) (a a4 : Option Addr) (c c4 : Nat) (w' : World) : Prop :=
  (w'.cell? ⟨n, 0, none⟩ = some (.int .i64 e.kind) ∧ w'.cell? ⟨n, 1, none⟩ = some (.string e.text) ∧ w'.cell? ⟨n, 2, none⟩ = some (.int .i64 e.num) ∧ w'.cell? ⟨n, 3, none⟩ = some (.slice a e.kids.length c)) ∧
  (w'.cell? ⟨X, 0, none⟩ = some (.int .i64 e.kind) ∧ w'.cell? ⟨X, 1, none⟩ = some (.string e.text) ∧ w'.cell? ⟨X, 2, none⟩ = some (.int .i64 e.num) ∧ w'.cell? ⟨X, 3, none⟩ = some (.slice a4 e.kids.length c4))

theorem Two.cells {w wa : World} {X : Nat} {e : Ex} {a a4 : Option Addr} {c c4 d : Nat} (h : Two w X e a a4 c c4 d wa) : Cells8 w.heap.size X e a a4 c c4 wa := ⟨h.1.2, h.2.1.2⟩

end Go.Proofs.YtefjjcoaeanagaaDoor
