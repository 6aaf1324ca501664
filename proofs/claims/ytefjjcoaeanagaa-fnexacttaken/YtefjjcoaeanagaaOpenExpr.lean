/- How an expression among a law's arguments is opened. -/
import Derived.Test.YtefjjcoaeanagaaEx
import Derived.Test.YtefjjcoaeanagaaOpen
import Derived.Lib.SmallJoins
import Derived.Deep.Strs
import Derived.ChangeArms
namespace Go.Proofs.Ytefjjcoaeanagaa
open Go.ChangeShapes Go.WideShapes Go.ChangeAt Go.RowKit

theorem i64E_of {n : Int} (h : (Lit.int .i64 n).wf = true) : i64E n := by
  have hmin : IntKind.i64.min = -9223372036854775808 := by decide
  have hmax : IntKind.i64.max = 9223372036854775807 := by decide
  simp [Lit.wf, hmin, hmax] at h
  exact h

theorem cellsEx : Try.prog.cellsOf 196 = 4 := by kernel_rfl
theorem cellsIntE : Try.prog.cellsOf 3 = 1 := by kernel_rfl
theorem cellsStrE : Try.prog.cellsOf 9 = 1 := by kernel_rfl
theorem cellsKids : Try.prog.cellsOf 143 = 1 := by kernel_rfl

set_option maxRecDepth 100000 in
theorem ex_of_trod {H : Type} {enc : TypeId × Value → H} {W : World} : ∀ (fuel : Nat) (cs : List Value) (x : DataW H × List MemPlace),
    DataW.trod enc Try.prog W 0 (fun _ => true) true fuel 196 cs = some x →
    ∃ (e : Ex) (a : Option Addr) (c : Nat), cs = [.int .i64 e.kind, .string e.text, .int .i64 e.num, .slice a e.kids.length c] ∧ e.fit ∧ KidsAt W fuel a c e.kids := by
  intro fuel
  induction fuel using Nat.strongRecOn with
  | ind fuel ih =>
    intro cs x h
    obtain ⟨ys, n, hn, _, hl, hyl, hf⟩ := DataW.trod_struct Try.underlying196 h
    subst hn
    rw [cellsEx] at hl
    match cs, hl with
    | [c0, c1, c2, c3], _ =>
      have hs : ys.length = 4 := hyl
      match ys, hs with
      | [y0, y1, y2, y3], _ =>
        have f0 : DataW.trod enc Try.prog W 0 (fun _ => true) true n 3 (([c0, c1, c2, c3].drop 0).take (Try.prog.cellsOf 3)) = some y0 := hf 0 _ rfl
        have f1 : DataW.trod enc Try.prog W 0 (fun _ => true) true n 9 (([c0, c1, c2, c3].drop 1).take (Try.prog.cellsOf 9)) = some y1 := hf 1 _ rfl
        have f2 : DataW.trod enc Try.prog W 0 (fun _ => true) true n 3 (([c0, c1, c2, c3].drop 2).take (Try.prog.cellsOf 3)) = some y2 := hf 2 _ rfl
        have f3 : DataW.trod enc Try.prog W 0 (fun _ => true) true n 143 (([c0, c1, c2, c3].drop 3).take (Try.prog.cellsOf 143)) = some y3 := hf 3 _ rfl
        rw [cellsIntE] at f0 f2
        rw [cellsStrE] at f1
        rw [cellsKids] at f3
        obtain ⟨k, e0, _, w0⟩ := DataW.trod_int Try.underlying3 f0
        obtain ⟨s, e1, _, w1⟩ := DataW.trod_string Try.underlying9 f1
        obtain ⟨p, e2, _, w2⟩ := DataW.trod_int Try.underlying3 f2
        simp at e0 e1 e2
        subst e0 e1 e2
        rcases DataW.trod_slice Try.underlying143 f3 with ⟨hcs, _⟩ | ⟨q, len, cap, elems, rest, m, hm, hcs, _, _, hlc, hcap, hlen, hel, _, _⟩
        · simp at hcs
          subst hcs
          exact ⟨.mk k s p [], none, 0, rfl, ⟨w1, i64E_of w0, i64E_of w2⟩, Nat.le_refl _, by unfold maxLen; omega, fun _ => rfl, fun h => absurd h (by simp [Ex.kids])⟩
        · simp at hcs
          subst hcs
          subst hm
          have hpick : ∀ i, i < len → ∃ (e : Ex) (a : Option Addr) (c : Nat), (W.cell? (q.add (i * 4 + 0)) = some (.int .i64 e.kind) ∧ W.cell? (q.add (i * 4 + 1)) = some (.string e.text) ∧ W.cell? (q.add (i * 4 + 2)) = some (.int .i64 e.num) ∧ W.cell? (q.add (i * 4 + 3)) = some (.slice a e.kids.length c)) ∧ e.fit ∧ KidsAt W m a c e.kids := by
            intro i hi
            have hh := hel i hi
            rw [cellsEx, List.getElem?_eq_getElem (by omega)] at hh
            obtain ⟨cs', hc, ht⟩ := Option.bind_eq_some_iff.1 hh
            obtain ⟨e, a, c, rfl, hfit, hk⟩ := ih m (by omega) cs' _ ht
            obtain ⟨_, _, hat⟩ := World.cells?_some hc
            refine ⟨e, a, c, ⟨?_, ?_, ?_, ?_⟩, hfit, hk⟩
            · rw [← Go.Deep.add_add]; exact hat 0 (by omega)
            · rw [← Go.Deep.add_add]; exact hat 1 (by omega)
            · rw [← Go.Deep.add_add]; exact hat 2 (by omega)
            · rw [← Go.Deep.add_add]; exact hat 3 (by omega)
          clear hel ih hf h f0 f1 f2 f3
          have hall : ∃ es : List Ex, es.length = len ∧ ∀ (i : Nat) (h : i < es.length), ∃ (a : Option Addr) (c : Nat), (W.cell? (q.add (i * 4 + 0)) = some (.int .i64 es[i].kind) ∧ W.cell? (q.add (i * 4 + 1)) = some (.string es[i].text) ∧ W.cell? (q.add (i * 4 + 2)) = some (.int .i64 es[i].num) ∧ W.cell? (q.add (i * 4 + 3)) = some (.slice a es[i].kids.length c)) ∧ es[i].fit ∧ KidsAt W m a c es[i].kids := by
            suffices H : ∀ z, z ≤ len → ∃ es : List Ex, es.length = z ∧ ∀ (i : Nat) (h : i < es.length), ∃ (a : Option Addr) (c : Nat), (W.cell? (q.add (i * 4 + 0)) = some (.int .i64 es[i].kind) ∧ W.cell? (q.add (i * 4 + 1)) = some (.string es[i].text) ∧ W.cell? (q.add (i * 4 + 2)) = some (.int .i64 es[i].num) ∧ W.cell? (q.add (i * 4 + 3)) = some (.slice a es[i].kids.length c)) ∧ es[i].fit ∧ KidsAt W m a c es[i].kids from H len (Nat.le_refl _)
            intro z
            induction z with
            | zero => exact fun _ => ⟨[], rfl, fun i h => by simp at h⟩
            | succ z ihz =>
              intro hz
              obtain ⟨es, hes, hc⟩ := ihz (by omega)
              obtain ⟨e, a, c, he⟩ := hpick z (by omega)
              refine ⟨es ++ [e], by simp [hes], fun i h => ?_⟩
              by_cases hiz : i < es.length
              · rw [List.getElem_append_left hiz]; exact hc i hiz
              · have : i = z := by simp at h; omega
                subst this
                refine ⟨a, c, ?_⟩
                rw [List.getElem_append_right (by omega)]
                simpa using he
          obtain ⟨es, hesl, hes⟩ := hall
          refine ⟨.mk k s p es, some q, cap, by simp [Ex.kind, Ex.text, Ex.num, Ex.kids, hesl], ⟨w1, i64E_of w0, i64E_of w2⟩, ?_⟩
          refine KidsAt.mono (d := m + 1) (by omega) ?_
          simp only [Ex.kids]
          refine ⟨by omega, hcap, (fun h => by cases h), fun hp => ?_⟩
          obtain ⟨b, off, spot⟩ := q
          obtain ⟨_, _, ⟨h0, _⟩, _⟩ := hes 0 hp
          have hspot : spot = none := by simpa [Addr.add] using World.cell?_spot h0
          subst hspot
          have hadd : ∀ j, (⟨b, off, none⟩ : Addr).add j = ⟨b, off + j, none⟩ := fun j => by unfold Addr.add; by_cases h0 : j = 0 <;> simp [h0]
          refine ⟨b, off, rfl, ?_, fun i hi' => ?_⟩
          · have hb : W.cell? ⟨b, off, none⟩ = some (.int .i64 es[0].kind) := by simpa [Addr.add] using h0
            rcases Nat.lt_or_ge b W.heap.size with hlt | hge
            · exact hlt
            · simp [World.cell?, Array.getElem?_eq_none hge] at hb
          · obtain ⟨a, c, ⟨d0, d1, d2, d3⟩, hfit, hk⟩ := hes i hi'
            rw [hadd] at d0 d1 d2 d3
            exact ⟨d0, d1, d2, hfit, a, c, d3, hk⟩

set_option maxRecDepth 100000 in
theorem Expr_of_trod {H : Type} {enc : TypeId × Value → H} {W : World} {b0 : Nat} {r : Reach} {v : Value} {d : DataW H} {p : List MemPlace}
    (hv : Value.okWide Try.prog W r b0 196 v) (h : DataW.Trod enc Try.prog W 0 (fun _ => true) true 196 v d p) :
    ∃ (e : Ex) (a : Option Addr) (c n : Nat), v = e.v a c ∧ e.fit ∧ KidsAt W n a c e.kids := by
  obtain ⟨cs, rfl, hsz⟩ := okWide_struct Try.underlying196 hv
  obtain ⟨fuel, hf⟩ := h
  obtain ⟨e, a, c, hcs, hfit, hk⟩ := ex_of_trod fuel _ _ hf
  refine ⟨e, a, c, fuel, ?_, hfit, hk⟩
  obtain ⟨l⟩ := cs
  have : l = _ := hcs
  subst this
  rfl

end Go.Proofs.Ytefjjcoaeanagaa
