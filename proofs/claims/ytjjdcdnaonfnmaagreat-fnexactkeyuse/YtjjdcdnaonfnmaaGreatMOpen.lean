/- How the arguments of a law are opened: slices of texts, of bytes. -/
/- How an expression among a law's arguments is opened. -/
/- How a type among a law's arguments is opened. -/
/- How lists of structures among a law's arguments are opened. -/
/- How schemas among a law's arguments are opened. Written by tools/gen_plan.py. -/
import Derived.Test.YtjjdcdnaonfnmaaGreatMMem
import Derived.ProofKit
import Derived.OpenShut
import Derived.ShutString
import Derived.ChangeOld
import Derived.Below
import Derived.SliceStrings
import Derived.Lib.SmallJoins
import Derived.Deep.Strs
import Derived.ChangeArms
import Derived.Test.YtjjdcdnaonfnmaaGreatMDatU
namespace Go.Proofs.YtjjdcdnaonfnmaaGreat
open Go.ChangeShapes Go.WideShapes Go.ChangeAt Go.RowKit

theorem ownKnobs : ownKnob Tryz.prog.godebug = none := by kernel_rfl
theorem laidOutB0 : laidOutB Tryz.prog = true := by kernel_rfl

theorem Strs_of_trod {H : Type} {enc : TypeId × Value → H} {W : World} {base : Nat} {a : Option Addr} {l c : Nat} {d : DataW H} {p : List MemPlace}
    (h : DataW.Trod enc Tryz.prog W base (fun _ => true) true 30 (.slice a l c) d p) : ∃ xs : List ByteArray, l = xs.length ∧ Strs W a c xs := by
  obtain ⟨fuel, hf⟩ := h
  have hlt := DataW.trod_lt fuel _ _ _ hf
  rcases open_strings Tryz.underlying30 Tryz.underlying9 (by kernel_rfl) hf with ⟨hcs, _⟩ | ⟨x, l', c', ss, hcs, _, hl, hm, hz, hx, hcell, hw⟩
  · simp [Value.cells] at hcs
    obtain ⟨rfl, rfl, rfl⟩ := hcs
    exact ⟨[], rfl, by simp, by unfold maxLen; omega, by simp, fun _ => rfl, fun h => by simp at h⟩
  · simp [Value.cells] at hcs
    obtain ⟨rfl, rfl, rfl⟩ := hcs
    rw [if_pos rfl] at hz
    refine ⟨ss.take l, by simp; omega, by simp; omega, hm, fun s hs => hw s (List.mem_of_mem_take hs), (fun h => by cases h), fun hp => ?_⟩
    obtain ⟨b, off, spot⟩ := x
    have hp' : 0 < l := by simp at hp; omega
    have h0 := hcell 0 (by omega)
    have hspot : spot = none := by simpa [Addr.add] using World.cell?_spot h0
    subst hspot
    refine ⟨b, off, rfl, ?_, fun i hi => ?_⟩
    · have hb : W.cell? ⟨b, off, none⟩ = some (.string (ss.getD 0 ByteArray.empty)) := by simpa [Addr.add] using h0
      rcases Nat.lt_or_ge b W.heap.size with hlt | hge
      · exact hlt
      · simp [World.cell?, Array.getElem?_eq_none hge] at hb
    · have hi' : i < l := by simp at hi; omega
      have := hcell i (by omega)
      rw [List.getElem_take]
      rw [List.getD_eq_getElem?_getD, List.getElem?_eq_getElem (by omega), Option.getD_some] at this
      rw [← this]
      congr 1
      unfold Addr.add
      by_cases h0 : i = 0 <;> simp [h0]

end Go.Proofs.YtjjdcdnaonfnmaaGreat

namespace Go.Proofs.YtjjdcdnaonfnmaaGreat
open Go.ChangeShapes Go.WideShapes Go.ChangeAt Go.RowKit

theorem i64E_of {n : Int} (h : (Lit.int .i64 n).wf = true) : i64E n := by
  have hmin : IntKind.i64.min = -9223372036854775808 := by decide
  have hmax : IntKind.i64.max = 9223372036854775807 := by decide
  simp [Lit.wf, hmin, hmax] at h
  exact h

theorem cellsEx : Tryz.prog.cellsOf 173 = 4 := by kernel_rfl
theorem cellsIntE : Tryz.prog.cellsOf 3 = 1 := by kernel_rfl
theorem cellsStrE : Tryz.prog.cellsOf 9 = 1 := by kernel_rfl
theorem cellsKids : Tryz.prog.cellsOf 119 = 1 := by kernel_rfl

set_option maxRecDepth 100000 in
theorem ex_of_trod {H : Type} {enc : TypeId × Value → H} {W : World} : ∀ (fuel : Nat) (cs : List Value) (x : DataW H × List MemPlace),
    DataW.trod enc Tryz.prog W 0 (fun _ => true) true fuel 173 cs = some x →
    ∃ (e : Ex) (a : Option Addr) (c : Nat), cs = [.int .i64 e.kind, .string e.text, .int .i64 e.num, .slice a e.kids.length c] ∧ e.fit ∧ KidsAt W fuel a c e.kids := by
  intro fuel
  induction fuel using Nat.strongRecOn with
  | ind fuel ih =>
    intro cs x h
    obtain ⟨ys, n, hn, _, hl, hyl, hf⟩ := DataW.trod_struct Tryz.underlying173 h
    subst hn
    rw [cellsEx] at hl
    match cs, hl with
    | [c0, c1, c2, c3], _ =>
      have hs : ys.length = 4 := hyl
      match ys, hs with
      | [y0, y1, y2, y3], _ =>
        have f0 : DataW.trod enc Tryz.prog W 0 (fun _ => true) true n 3 (([c0, c1, c2, c3].drop 0).take (Tryz.prog.cellsOf 3)) = some y0 := hf 0 _ rfl
        have f1 : DataW.trod enc Tryz.prog W 0 (fun _ => true) true n 9 (([c0, c1, c2, c3].drop 1).take (Tryz.prog.cellsOf 9)) = some y1 := hf 1 _ rfl
        have f2 : DataW.trod enc Tryz.prog W 0 (fun _ => true) true n 3 (([c0, c1, c2, c3].drop 2).take (Tryz.prog.cellsOf 3)) = some y2 := hf 2 _ rfl
        have f3 : DataW.trod enc Tryz.prog W 0 (fun _ => true) true n 119 (([c0, c1, c2, c3].drop 3).take (Tryz.prog.cellsOf 119)) = some y3 := hf 3 _ rfl
        rw [cellsIntE] at f0 f2
        rw [cellsStrE] at f1
        rw [cellsKids] at f3
        obtain ⟨k, e0, _, w0⟩ := DataW.trod_int Tryz.underlying3 f0
        obtain ⟨s, e1, _, w1⟩ := DataW.trod_string Tryz.underlying9 f1
        obtain ⟨p, e2, _, w2⟩ := DataW.trod_int Tryz.underlying3 f2
        simp at e0 e1 e2
        subst e0 e1 e2
        rcases DataW.trod_slice Tryz.underlying119 f3 with ⟨hcs, _⟩ | ⟨q, len, cap, elems, rest, m, hm, hcs, _, _, hlc, hcap, hlen, hel, _, _⟩
        · simp at hcs
          subst hcs
          exact ⟨.mk k s p [], none, 0, rfl, ⟨w1, i64E_of w0, i64E_of w2⟩, Nat.le_refl _, by unfold maxLen; omega, fun _ => rfl, fun h => absurd h (by simp [Ex.kids])⟩
        · simp at hcs
          subst hcs
          subst hm
          have hpick : ∀ i, i < len → ∃ (e : Ex) (a : Option Addr) (c : Nat), (W.cell? (q.add (i * 4 + 0)) = some (.int .i64 e.kind) ∧ W.cell? (q.add (i * 4 + 1)) = some (.string e.text) ∧ W.cell? (q.add (i * 4 + 2)) = some (.int .i64 e.num) ∧ W.cell? (q.add (i * 4 + 3)) = some (.slice a e.kids.length c)) ∧ e.fit ∧ KidsAt W m a c e.kids := by
            intro i hi
            have hh := hel i hi
            rw [cellsEx, List.getElem?_eq_getElem (by omega)] at hh
            obtain ⟨cs', hc, ht⟩ := Option.bind_eq_some_iff.1 hh
            obtain ⟨e, a, c, rfl, hfit, hk⟩ := ih m (by omega) cs' _ ht
            obtain ⟨_, _, hat⟩ := World.cells?_some hc
            refine ⟨e, a, c, ⟨?_, ?_, ?_, ?_⟩, hfit, hk⟩
            · rw [← Go.Deep.add_add]; exact hat 0 (by omega)
            · rw [← Go.Deep.add_add]; exact hat 1 (by omega)
            · rw [← Go.Deep.add_add]; exact hat 2 (by omega)
            · rw [← Go.Deep.add_add]; exact hat 3 (by omega)
          clear hel ih hf h f0 f1 f2 f3
          have hall : ∃ es : List Ex, es.length = len ∧ ∀ (i : Nat) (h : i < es.length), ∃ (a : Option Addr) (c : Nat), (W.cell? (q.add (i * 4 + 0)) = some (.int .i64 es[i].kind) ∧ W.cell? (q.add (i * 4 + 1)) = some (.string es[i].text) ∧ W.cell? (q.add (i * 4 + 2)) = some (.int .i64 es[i].num) ∧ W.cell? (q.add (i * 4 + 3)) = some (.slice a es[i].kids.length c)) ∧ es[i].fit ∧ KidsAt W m a c es[i].kids := by
            suffices H : ∀ z, z ≤ len → ∃ es : List Ex, es.length = z ∧ ∀ (i : Nat) (h : i < es.length), ∃ (a : Option Addr) (c : Nat), (W.cell? (q.add (i * 4 + 0)) = some (.int .i64 es[i].kind) ∧ W.cell? (q.add (i * 4 + 1)) = some (.string es[i].text) ∧ W.cell? (q.add (i * 4 + 2)) = some (.int .i64 es[i].num) ∧ W.cell? (q.add (i * 4 + 3)) = some (.slice a es[i].kids.length c)) ∧ es[i].fit ∧ KidsAt W m a c es[i].kids from H len (Nat.le_refl _)
            intro z
            induction z with
            | zero => exact fun _ => ⟨[], rfl, fun i h => by simp at h⟩
            | succ z ihz =>
              intro hz
              obtain ⟨es, hes, hc⟩ := ihz (by omega)
              obtain ⟨e, a, c, he⟩ := hpick z (by omega)
              refine ⟨es ++ [e], by simp [hes], fun i h => ?_⟩
              by_cases hiz : i < es.length
              · rw [List.getElem_append_left hiz]; exact hc i hiz
              · have : i = z := by simp at h; omega
                subst this
                refine ⟨a, c, ?_⟩
                rw [List.getElem_append_right (by omega)]
                simpa using he
          obtain ⟨es, hesl, hes⟩ := hall
          refine ⟨.mk k s p es, some q, cap, by simp [Ex.kind, Ex.text, Ex.num, Ex.kids, hesl], ⟨w1, i64E_of w0, i64E_of w2⟩, ?_⟩
          refine KidsAt.mono (d := m + 1) (by omega) ?_
          simp only [Ex.kids]
          refine ⟨by omega, hcap, (fun h => by cases h), fun hp => ?_⟩
          obtain ⟨b, off, spot⟩ := q
          obtain ⟨_, _, ⟨h0, _⟩, _⟩ := hes 0 hp
          have hspot : spot = none := by simpa [Addr.add] using World.cell?_spot h0
          subst hspot
          have hadd : ∀ j, (⟨b, off, none⟩ : Addr).add j = ⟨b, off + j, none⟩ := fun j => by unfold Addr.add; by_cases h0 : j = 0 <;> simp [h0]
          refine ⟨b, off, rfl, ?_, fun i hi' => ?_⟩
          · have hb : W.cell? ⟨b, off, none⟩ = some (.int .i64 es[0].kind) := by simpa [Addr.add] using h0
            rcases Nat.lt_or_ge b W.heap.size with hlt | hge
            · exact hlt
            · simp [World.cell?, Array.getElem?_eq_none hge] at hb
          · obtain ⟨a, c, ⟨d0, d1, d2, d3⟩, hfit, hk⟩ := hes i hi'
            rw [hadd] at d0 d1 d2 d3
            exact ⟨d0, d1, d2, hfit, a, c, d3, hk⟩

set_option maxRecDepth 100000 in
theorem Expr_of_trod {H : Type} {enc : TypeId × Value → H} {W : World} {b0 : Nat} {r : Reach} {v : Value} {d : DataW H} {p : List MemPlace}
    (hv : Value.okWide Tryz.prog W r b0 173 v) (h : DataW.Trod enc Tryz.prog W 0 (fun _ => true) true 173 v d p) :
    ∃ (e : Ex) (a : Option Addr) (c n : Nat), v = e.v a c ∧ e.fit ∧ KidsAt W n a c e.kids := by
  obtain ⟨cs, rfl, hsz⟩ := okWide_struct Tryz.underlying173 hv
  obtain ⟨fuel, hf⟩ := h
  obtain ⟨e, a, c, hcs, hfit, hk⟩ := ex_of_trod fuel _ _ hf
  refine ⟨e, a, c, fuel, ?_, hfit, hk⟩
  obtain ⟨l⟩ := cs
  have : l = _ := hcs
  subst this
  rfl

end Go.Proofs.YtjjdcdnaonfnmaaGreat

namespace Go.Proofs.YtjjdcdnaonfnmaaGreat
open Go.ChangeShapes Go.WideShapes Go.ChangeAt Go.RowKit

theorem cellsType : Tryz.prog.cellsOf 165 = 3 := by kernel_rfl
theorem cellsIntT : Tryz.prog.cellsOf 3 = 1 := by kernel_rfl
theorem cellsStrT : Tryz.prog.cellsOf 9 = 1 := by kernel_rfl

set_option maxRecDepth 100000 in
theorem Type_of_trod {H : Type} {enc : TypeId × Value → H} {W : World} {base b0 : Nat} {r : Reach} {v : Value} {d : DataW H} {p : List MemPlace}
    (hv : Value.okWide Tryz.prog W r b0 165 v) (h : DataW.Trod enc Tryz.prog W base (fun _ => true) true 165 v d p) :
    ∃ t : Ty, v = t.v ∧ t.ok := by
  obtain ⟨cs, rfl, hsz⟩ := okWide_struct Tryz.underlying165 hv
  obtain ⟨fuel, hf⟩ := h
  obtain ⟨ys, m, _, hx, hl, hyl, hf⟩ := DataW.trod_struct Tryz.underlying165 hf
  obtain ⟨l⟩ := cs
  match l, hsz.trans cellsType with
  | [c0, c1, c2], _ =>
    have hs : ys.length = 3 := hyl
    match ys, hs with
    | [y0, y1, y2], _ =>
      have f0 : DataW.trod enc Tryz.prog W base (fun _ => true) true m 3 (([c0, c1, c2].drop 0).take (Tryz.prog.cellsOf 3)) = some y0 := hf 0 _ rfl
      have f1 : DataW.trod enc Tryz.prog W base (fun _ => true) true m 3 (([c0, c1, c2].drop 1).take (Tryz.prog.cellsOf 3)) = some y1 := hf 1 _ rfl
      have f2 : DataW.trod enc Tryz.prog W base (fun _ => true) true m 9 (([c0, c1, c2].drop 2).take (Tryz.prog.cellsOf 9)) = some y2 := hf 2 _ rfl
      rw [cellsIntT] at f0 f1
      rw [cellsStrT] at f2
      obtain ⟨k, e0, x0, w0⟩ := DataW.trod_int Tryz.underlying3 f0
      obtain ⟨l, e1, x1, w1⟩ := DataW.trod_int Tryz.underlying3 f1
      obtain ⟨s, e2, x2, w2⟩ := DataW.trod_string Tryz.underlying9 f2
      simp at e0 e1 e2
      subst e0 e1 e2
      exact ⟨⟨k, l, s⟩, rfl, w2, w0, w1⟩

end Go.Proofs.YtjjdcdnaonfnmaaGreat

namespace Go.Proofs.YtjjdcdnaonfnmaaGreat
open Go.ChangeShapes Go.WideShapes Go.ChangeAt Go.RowKit

set_option maxRecDepth 100000 in
theorem sl_of_trod_le {H : Type} {enc : TypeId × Value → H} {W : World} {X : Type} {K N : Nat} {R : Rd X} {T TE : TypeId} (hT : Tryz.prog.underlying T = some (.slice TE)) (hK : Tryz.prog.cellsOf TE = K) (hK0 : 0 < K)
    (hlen : ∀ {cs : List Value} {e : X}, R 0 W cs e → cs.length = K)
    (hE : ∀ (fuel : Nat), fuel ≤ N → ∀ (cs : List Value) (x : DataW H × List MemPlace), DataW.trod enc Tryz.prog W 0 (fun _ => true) true fuel TE cs = some x → ∃ e : X, R 0 W cs e)
    {cs : List Value} {x : DataW H × List MemPlace} (h : DataW.trod enc Tryz.prog W 0 (fun _ => true) true N T cs = some x) :
    ∃ (a : Option Addr) (c : Nat) (xs : List X), cs = [.slice a xs.length c] ∧ Sl K R 0 W a c xs := by
  rcases DataW.trod_slice hT h with ⟨hcs, _⟩ | ⟨q, len, cap, elems, rest, m, hm, hcs, _, _, hlc, hcap, hlen', hel, _, _⟩
  · exact ⟨none, 0, [], hcs, Sl.nil _ _ _ _⟩
  · subst hcs
    have hpick : ∀ i, i < len → ∃ (e : X) (vs : List Value), (∀ (j : Nat) (hj : j < vs.length), W.cell? (q.add (i * K + j)) = some vs[j]) ∧ R 0 W vs e := by
      intro i hi
      have hh := hel i hi
      rw [hK, List.getElem?_eq_getElem (by omega)] at hh
      obtain ⟨cs', hc, ht⟩ := Option.bind_eq_some_iff.1 hh
      obtain ⟨e, hR⟩ := hE m (by omega) cs' _ ht
      obtain ⟨_, _, hat⟩ := World.cells?_some hc
      refine ⟨e, cs', fun j hj => ?_, hR⟩
      rw [← Go.Deep.add_add, hat j (by rw [← hlen hR]; exact hj), List.getElem?_eq_getElem hj]
    have hall : ∃ es : List X, es.length = len ∧ ∀ (i : Nat) (h : i < es.length), ∃ vs : List Value, (∀ (j : Nat) (hj : j < vs.length), W.cell? (q.add (i * K + j)) = some vs[j]) ∧ R 0 W vs es[i] := by
      suffices HH : ∀ z, z ≤ len → ∃ es : List X, es.length = z ∧ ∀ (i : Nat) (h : i < es.length), ∃ vs : List Value, (∀ (j : Nat) (hj : j < vs.length), W.cell? (q.add (i * K + j)) = some vs[j]) ∧ R 0 W vs es[i] from HH len (Nat.le_refl _)
      intro z
      induction z with
      | zero => exact fun _ => ⟨[], rfl, fun i h => by simp at h⟩
      | succ z ihz =>
        intro hz
        obtain ⟨es, hes, hc⟩ := ihz (by omega)
        obtain ⟨e, vs, he⟩ := hpick z (by omega)
        refine ⟨es ++ [e], by simp [hes], fun i h => ?_⟩
        by_cases hiz : i < es.length
        · rw [List.getElem_append_left hiz]; exact hc i hiz
        · have : i = z := by simp at h; omega
          subst this
          refine ⟨vs, he.1, ?_⟩
          rw [List.getElem_append_right (by omega)]
          simpa [hes] using he.2
    obtain ⟨es, hesl, hes⟩ := hall
    subst hesl
    refine ⟨some q, cap, es, rfl, hlc, hcap, (fun h => by cases h), fun hp => ?_⟩
    obtain ⟨b, off, spot⟩ := q
    obtain ⟨vs0, h0, hR0⟩ := hes 0 hp
    have hv0 : 0 < vs0.length := by rw [hlen hR0]; exact hK0
    have h00 := h0 0 hv0
    have hspot : spot = none := by simpa [Addr.add] using World.cell?_spot h00
    subst hspot
    have hadd : ∀ j, (⟨b, off, none⟩ : Addr).add j = ⟨b, off + j, none⟩ := fun j => by unfold Addr.add; by_cases h0 : j = 0 <;> simp [h0]
    refine ⟨b, off, rfl, Nat.zero_le _, ?_, fun i hi' => ?_⟩
    · rw [hadd] at h00
      rcases Nat.lt_or_ge b W.heap.size with hlt | hge
      · exact hlt
      · simp [World.cell?, Array.getElem?_eq_none hge] at h00
    · obtain ⟨vs, h1, h2⟩ := hes i hi'
      refine ⟨vs, fun j hj => ?_, h2⟩
      rw [← h1 j hj, hadd]
      congr 2
      omega

theorem sl_of_trod {H : Type} {enc : TypeId × Value → H} {W : World} {X : Type} {K : Nat} {R : Rd X} {T TE : TypeId} (hT : Tryz.prog.underlying T = some (.slice TE)) (hK : Tryz.prog.cellsOf TE = K) (hK0 : 0 < K)
    (hlen : ∀ {cs : List Value} {e : X}, R 0 W cs e → cs.length = K)
    (hE : ∀ (fuel : Nat) (cs : List Value) (x : DataW H × List MemPlace), DataW.trod enc Tryz.prog W 0 (fun _ => true) true fuel TE cs = some x → ∃ e : X, R 0 W cs e)
    {fuel : Nat} {cs : List Value} {x : DataW H × List MemPlace} (h : DataW.trod enc Tryz.prog W 0 (fun _ => true) true fuel T cs = some x) :
    ∃ (a : Option Addr) (c : Nat) (xs : List X), cs = [.slice a xs.length c] ∧ Sl K R 0 W a c xs :=
  sl_of_trod_le hT hK hK0 hlen (fun f _ => hE f) h

/-- One text in one cell. -/
def RStr : Rd ByteArray := fun _ _ vs s => vs = [.string s] ∧ s.size ≤ maxLen

set_option maxRecDepth 100000 in
theorem ss_of_trod {H : Type} {enc : TypeId × Value → H} {W : World} {fuel : Nat} {cs : List Value} {x : DataW H × List MemPlace} (h : DataW.trod enc Tryz.prog W 0 (fun _ => true) true fuel 30 cs = some x) :
    ∃ (a : Option Addr) (c : Nat) (xs : List ByteArray), cs = [.slice a xs.length c] ∧ Ss 0 W a c xs := by
  obtain ⟨a, c, xs, rfl, h1, h2, h3, h4⟩ := sl_of_trod (R := RStr) (K := 1) Tryz.underlying30 (by kernel_rfl) (by omega) (fun h => by rw [h.1]; rfl)
    (fun fuel cs x h => by obtain ⟨s, e1, _, w1⟩ := DataW.trod_string Tryz.underlying9 h; exact ⟨s, e1, w1⟩) h
  refine ⟨a, c, xs, rfl, Strs.ss0 ⟨h1, h2, fun s hs => ?_, h3, fun hp => ?_⟩⟩
  · obtain ⟨i, hi, rfl⟩ := List.mem_iff_getElem.1 hs
    obtain ⟨b, off, _, _, _, hc⟩ := h4 (by omega)
    obtain ⟨_, _, hR⟩ := hc i hi
    exact hR.2
  · obtain ⟨b, off, ha, _, hb, hc⟩ := h4 hp
    refine ⟨b, off, ha, hb, fun i hi => ?_⟩
    obtain ⟨vs, hv, hR⟩ := hc i hi
    obtain ⟨rfl, _⟩ := hR
    have := hv 0 (by simp)
    simpa using this

/-- One expression in four cells. -/
def RX (d : Nat) : Rd Ex := fun lo w vs e => ∃ a c, vs = [.int .i64 e.kind, .string e.text, .int .i64 e.num, .slice a e.kids.length c] ∧ e.fit ∧ KidsB lo w d a c e.kids

theorem Sl.kidsB {lo d : Nat} {w : World} {a : Option Addr} {c : Nat} {kids : List Ex} (h : Sl 4 (RX d) lo w a c kids) : KidsB lo w (d + 1) a c kids := by
  obtain ⟨h1, h2, h3, h4⟩ := h
  refine ⟨h1, h2, h3, fun hp => ?_⟩
  obtain ⟨b, off, ha, hl, hb, hc⟩ := h4 hp
  refine ⟨b, off, ha, hl, hb, fun i hi => ?_⟩
  obtain ⟨vs, hv, hR⟩ := hc i hi
  obtain ⟨a', c', rfl, hfit, hk⟩ := hR
  exact ⟨hv 0 (by simp), hv 1 (by simp), hv 2 (by simp), hfit, a', c', hv 3 (by simp), hk⟩

set_option maxRecDepth 100000 in
theorem ks_of_trod {H : Type} {enc : TypeId × Value → H} {W : World} {fuel : Nat} {cs : List Value} {x : DataW H × List MemPlace} (h : DataW.trod enc Tryz.prog W 0 (fun _ => true) true fuel 119 cs = some x) :
    ∃ (a : Option Addr) (c : Nat) (xs : List Ex), cs = [.slice a xs.length c] ∧ Ks 0 W a c xs := by
  obtain ⟨a, c, xs, he, hs⟩ := sl_of_trod_le (R := RX fuel) (K := 4) (N := fuel) Tryz.underlying119 (by kernel_rfl) (by omega) (fun h => by obtain ⟨_, _, rfl, _⟩ := h; rfl)
    (fun f hf cs x h => by obtain ⟨e, a, c, rfl, hfit, hk⟩ := ex_of_trod f cs x h; exact ⟨e, a, c, rfl, hfit, (hk.mono hf).b0⟩) h
  exact ⟨a, c, xs, he, fuel, hs.kidsB⟩

end Go.Proofs.YtjjdcdnaonfnmaaGreat

namespace Go.Proofs.YtjjdcdnaonfnmaaGreat
open Go.ChangeShapes Go.WideShapes Go.ChangeAt Go.RowKit

theorem cellsBoolP : Tryz.prog.cellsOf 4 = 1 := by kernel_rfl

theorem cellsStrsP : Tryz.prog.cellsOf 30 = 1 := by kernel_rfl

set_option maxRecDepth 100000 in
theorem ty_of_trod {H : Type} {enc : TypeId × Value → H} {W : World} {fuel : Nat} {cs : List Value} {x : DataW H × List MemPlace} (h : DataW.trod enc Tryz.prog W 0 (fun _ => true) true fuel 165 cs = some x) :
    ∃ t : Ty, cs = [.int .i64 t.kind, .int .i64 t.len, .string t.name] ∧ t.name.size ≤ maxLen ∧ i64E t.kind ∧ i64E t.len := by
  obtain ⟨ys, m, _, hx, hl, hyl, hf⟩ := DataW.trod_struct Tryz.underlying165 h
  rw [cellsType] at hl
  match cs, hl with
  | [c0, c1, c2], _ =>
    have hs : ys.length = 3 := hyl
    match ys, hs with
    | [y0, y1, y2], _ =>
      have f0 : DataW.trod enc Tryz.prog W 0 (fun _ => true) true m 3 (([c0, c1, c2].drop 0).take (Tryz.prog.cellsOf 3)) = some y0 := hf 0 _ rfl
      have f1 : DataW.trod enc Tryz.prog W 0 (fun _ => true) true m 3 (([c0, c1, c2].drop 1).take (Tryz.prog.cellsOf 3)) = some y1 := hf 1 _ rfl
      have f2 : DataW.trod enc Tryz.prog W 0 (fun _ => true) true m 9 (([c0, c1, c2].drop 2).take (Tryz.prog.cellsOf 9)) = some y2 := hf 2 _ rfl
      rw [cellsIntT] at f0 f1
      rw [cellsStrT] at f2
      obtain ⟨k, e0, x0, w0⟩ := DataW.trod_int Tryz.underlying3 f0
      obtain ⟨l, e1, x1, w1⟩ := DataW.trod_int Tryz.underlying3 f1
      obtain ⟨s, e2, x2, w2⟩ := DataW.trod_string Tryz.underlying9 f2
      simp at e0 e1 e2
      subst e0 e1 e2
      exact ⟨⟨k, l, s⟩, rfl, w2, i64E_of w0, i64E_of w1⟩

theorem cellsLabelsP : Tryz.prog.cellsOf 107 = 2 := by kernel_rfl

theorem cellsLabelsSP : Tryz.prog.cellsOf 22 = 1 := by kernel_rfl

theorem lenLab {lo : Nat} {w : World} {vs : List Value} {x : Lab} (h : RLab lo w vs x) : vs.length = 2 := by
  obtain ⟨_, _, rfl, _⟩ := h
  rfl

set_option maxRecDepth 100000 in
theorem lab_of_trod {H : Type} {enc : TypeId × Value → H} {W : World} (fuel : Nat) (cs : List Value) (x : DataW H × List MemPlace) (h : DataW.trod enc Tryz.prog W 0 (fun _ => true) true fuel 107 cs = some x) : ∃ e : Lab, RLab 0 W cs e := by
  obtain ⟨ys, n, hn, _, hl, hyl, hf⟩ := DataW.trod_struct Tryz.underlying107 h
  subst hn
  rw [cellsLabelsP] at hl
  match cs, hl with
  | [c0, c1], _ =>
    have hs : ys.length = 2 := hyl
    match ys, hs with
    | [y0, y1], _ =>
      have f0 : DataW.trod enc Tryz.prog W 0 (fun _ => true) true n 9 (([c0, c1].drop 0).take (Tryz.prog.cellsOf 9)) = some y0 := hf 0 _ rfl
      rw [cellsStrE] at f0
      obtain ⟨s0, e0, _, w0⟩ := DataW.trod_string Tryz.underlying9 f0
      have f1 : DataW.trod enc Tryz.prog W 0 (fun _ => true) true n 30 (([c0, c1].drop 1).take (Tryz.prog.cellsOf 30)) = some y1 := hf 1 _ rfl
      rw [cellsStrsP] at f1
      obtain ⟨a1, c1', s1, e1, k1⟩ := ss_of_trod f1
      simp at e0 e1
      subst e0 e1
      exact ⟨⟨s0, s1⟩, a1, c1', rfl, w0, k1⟩

set_option maxRecDepth 100000 in
theorem Labels_of_trod {H : Type} {enc : TypeId × Value → H} {W : World} {b0 : Nat} {r : Reach} {v : Value} {d : DataW H} {p : List MemPlace}
    (hv : Value.okWide Tryz.prog W r b0 107 v) (h : DataW.Trod enc Tryz.prog W 0 (fun _ => true) true 107 v d p) :
    ∃ (vs : List Value) (x : Lab), v = .agg vs.toArray ∧ RLab 0 W vs x := by
  obtain ⟨cs, rfl, hsz⟩ := okWide_struct Tryz.underlying107 hv
  obtain ⟨fuel, hf⟩ := h
  obtain ⟨e, hR⟩ := lab_of_trod fuel _ _ hf
  exact ⟨cs.toList, e, by simp, hR⟩

theorem cellsSeqP : Tryz.prog.cellsOf 110 = 2 := by kernel_rfl

theorem cellsSeqSP : Tryz.prog.cellsOf 23 = 1 := by kernel_rfl

theorem lenSq {lo : Nat} {w : World} {vs : List Value} {x : Sq} (h : RSq lo w vs x) : vs.length = 2 := by
  obtain ⟨rfl, _⟩ := h
  rfl

set_option maxRecDepth 100000 in
theorem sq_of_trod {H : Type} {enc : TypeId × Value → H} {W : World} (fuel : Nat) (cs : List Value) (x : DataW H × List MemPlace) (h : DataW.trod enc Tryz.prog W 0 (fun _ => true) true fuel 110 cs = some x) : ∃ e : Sq, RSq 0 W cs e := by
  obtain ⟨ys, n, hn, _, hl, hyl, hf⟩ := DataW.trod_struct Tryz.underlying110 h
  subst hn
  rw [cellsSeqP] at hl
  match cs, hl with
  | [c0, c1], _ =>
    have hs : ys.length = 2 := hyl
    match ys, hs with
    | [y0, y1], _ =>
      have f0 : DataW.trod enc Tryz.prog W 0 (fun _ => true) true n 9 (([c0, c1].drop 0).take (Tryz.prog.cellsOf 9)) = some y0 := hf 0 _ rfl
      rw [cellsStrE] at f0
      obtain ⟨s0, e0, _, w0⟩ := DataW.trod_string Tryz.underlying9 f0
      have f1 : DataW.trod enc Tryz.prog W 0 (fun _ => true) true n 3 (([c0, c1].drop 1).take (Tryz.prog.cellsOf 3)) = some y1 := hf 1 _ rfl
      rw [cellsIntE] at f1
      obtain ⟨s1, e1, _, w1⟩ := DataW.trod_int Tryz.underlying3 f1
      simp at e0 e1
      subst e0 e1
      exact ⟨⟨s0, s1⟩, rfl, ⟨w0, i64E_of w1⟩⟩

set_option maxRecDepth 100000 in
theorem Seq_of_trod {H : Type} {enc : TypeId × Value → H} {W : World} {b0 : Nat} {r : Reach} {v : Value} {d : DataW H} {p : List MemPlace}
    (hv : Value.okWide Tryz.prog W r b0 110 v) (h : DataW.Trod enc Tryz.prog W 0 (fun _ => true) true 110 v d p) :
    ∃ (vs : List Value) (x : Sq), v = .agg vs.toArray ∧ RSq 0 W vs x := by
  obtain ⟨cs, rfl, hsz⟩ := okWide_struct Tryz.underlying110 hv
  obtain ⟨fuel, hf⟩ := h
  obtain ⟨e, hR⟩ := sq_of_trod fuel _ _ hf
  exact ⟨cs.toList, e, by simp, hR⟩

theorem cellsColP : Tryz.prog.cellsOf 167 = 6 := by kernel_rfl

theorem cellsColSP : Tryz.prog.cellsOf 112 = 1 := by kernel_rfl

theorem lenCo {lo : Nat} {w : World} {vs : List Value} {x : Co} (h : RCo lo w vs x) : vs.length = 6 := by
  obtain ⟨_, _, rfl, _⟩ := h
  rfl

set_option maxRecDepth 100000 in
theorem co_of_trod {H : Type} {enc : TypeId × Value → H} {W : World} (fuel : Nat) (cs : List Value) (x : DataW H × List MemPlace) (h : DataW.trod enc Tryz.prog W 0 (fun _ => true) true fuel 167 cs = some x) : ∃ e : Co, RCo 0 W cs e := by
  obtain ⟨ys, n, hn, _, hl, hyl, hf⟩ := DataW.trod_struct Tryz.underlying167 h
  subst hn
  rw [cellsColP] at hl
  match cs, hl with
  | [c0, c1, c2, c3, c4, c5], _ =>
    have hs : ys.length = 4 := hyl
    match ys, hs with
    | [y0, y1, y2, y3], _ =>
      have f0 : DataW.trod enc Tryz.prog W 0 (fun _ => true) true n 9 (([c0, c1, c2, c3, c4, c5].drop 0).take (Tryz.prog.cellsOf 9)) = some y0 := hf 0 _ rfl
      rw [cellsStrE] at f0
      obtain ⟨s0, e0, _, w0⟩ := DataW.trod_string Tryz.underlying9 f0
      have f1 : DataW.trod enc Tryz.prog W 0 (fun _ => true) true n 165 (([c0, c1, c2, c3, c4, c5].drop 1).take (Tryz.prog.cellsOf 165)) = some y1 := hf 1 _ rfl
      rw [cellsType] at f1
      obtain ⟨s1, e1, w1⟩ := ty_of_trod f1
      have f2 : DataW.trod enc Tryz.prog W 0 (fun _ => true) true n 4 (([c0, c1, c2, c3, c4, c5].drop 4).take (Tryz.prog.cellsOf 4)) = some y2 := hf 2 _ rfl
      rw [cellsBoolP] at f2
      obtain ⟨s2, e2, _⟩ := DataW.trod_bool Tryz.underlying4 f2
      have f3 : DataW.trod enc Tryz.prog W 0 (fun _ => true) true n 119 (([c0, c1, c2, c3, c4, c5].drop 5).take (Tryz.prog.cellsOf 119)) = some y3 := hf 3 _ rfl
      rw [cellsKids] at f3
      obtain ⟨a3, c3', s3, e3, k3⟩ := ks_of_trod f3
      simp at e0 e1 e2 e3
      obtain ⟨e1a, e1b, e1c⟩ := e1
      subst e0 e1a e1b e1c e2 e3
      exact ⟨⟨s0, s1, s2, s3⟩, a3, c3', rfl, ⟨w0, w1.1, w1.2.1, w1.2.2⟩, k3⟩

set_option maxRecDepth 100000 in
theorem Col_of_trod {H : Type} {enc : TypeId × Value → H} {W : World} {b0 : Nat} {r : Reach} {v : Value} {d : DataW H} {p : List MemPlace}
    (hv : Value.okWide Tryz.prog W r b0 167 v) (h : DataW.Trod enc Tryz.prog W 0 (fun _ => true) true 167 v d p) :
    ∃ (vs : List Value) (x : Co), v = .agg vs.toArray ∧ RCo 0 W vs x := by
  obtain ⟨cs, rfl, hsz⟩ := okWide_struct Tryz.underlying167 hv
  obtain ⟨fuel, hf⟩ := h
  obtain ⟨e, hR⟩ := co_of_trod fuel _ _ hf
  exact ⟨cs.toList, e, by simp, hR⟩

theorem cellsRuleP : Tryz.prog.cellsOf 170 = 6 := by kernel_rfl

theorem cellsRuleSP : Tryz.prog.cellsOf 113 = 1 := by kernel_rfl

theorem lenRu {lo : Nat} {w : World} {vs : List Value} {x : Ru} (h : RRu lo w vs x) : vs.length = 6 := by
  obtain ⟨_, _, _, _, _, _, rfl, _⟩ := h
  rfl

set_option maxRecDepth 100000 in
theorem ru_of_trod {H : Type} {enc : TypeId × Value → H} {W : World} (fuel : Nat) (cs : List Value) (x : DataW H × List MemPlace) (h : DataW.trod enc Tryz.prog W 0 (fun _ => true) true fuel 170 cs = some x) : ∃ e : Ru, RRu 0 W cs e := by
  obtain ⟨ys, n, hn, _, hl, hyl, hf⟩ := DataW.trod_struct Tryz.underlying170 h
  subst hn
  rw [cellsRuleP] at hl
  match cs, hl with
  | [c0, c1, c2, c3, c4, c5], _ =>
    have hs : ys.length = 6 := hyl
    match ys, hs with
    | [y0, y1, y2, y3, y4, y5], _ =>
      have f0 : DataW.trod enc Tryz.prog W 0 (fun _ => true) true n 9 (([c0, c1, c2, c3, c4, c5].drop 0).take (Tryz.prog.cellsOf 9)) = some y0 := hf 0 _ rfl
      rw [cellsStrE] at f0
      obtain ⟨s0, e0, _, w0⟩ := DataW.trod_string Tryz.underlying9 f0
      have f1 : DataW.trod enc Tryz.prog W 0 (fun _ => true) true n 3 (([c0, c1, c2, c3, c4, c5].drop 1).take (Tryz.prog.cellsOf 3)) = some y1 := hf 1 _ rfl
      rw [cellsIntE] at f1
      obtain ⟨s1, e1, _, w1⟩ := DataW.trod_int Tryz.underlying3 f1
      have f2 : DataW.trod enc Tryz.prog W 0 (fun _ => true) true n 30 (([c0, c1, c2, c3, c4, c5].drop 2).take (Tryz.prog.cellsOf 30)) = some y2 := hf 2 _ rfl
      rw [cellsStrsP] at f2
      obtain ⟨a2, c2', s2, e2, k2⟩ := ss_of_trod f2
      have f3 : DataW.trod enc Tryz.prog W 0 (fun _ => true) true n 119 (([c0, c1, c2, c3, c4, c5].drop 3).take (Tryz.prog.cellsOf 119)) = some y3 := hf 3 _ rfl
      rw [cellsKids] at f3
      obtain ⟨a3, c3', s3, e3, k3⟩ := ks_of_trod f3
      have f4 : DataW.trod enc Tryz.prog W 0 (fun _ => true) true n 9 (([c0, c1, c2, c3, c4, c5].drop 4).take (Tryz.prog.cellsOf 9)) = some y4 := hf 4 _ rfl
      rw [cellsStrE] at f4
      obtain ⟨s4, e4, _, w4⟩ := DataW.trod_string Tryz.underlying9 f4
      have f5 : DataW.trod enc Tryz.prog W 0 (fun _ => true) true n 30 (([c0, c1, c2, c3, c4, c5].drop 5).take (Tryz.prog.cellsOf 30)) = some y5 := hf 5 _ rfl
      rw [cellsStrsP] at f5
      obtain ⟨a5, c5', s5, e5, k5⟩ := ss_of_trod f5
      simp at e0 e1 e2 e3 e4 e5
      subst e0 e1 e2 e3 e4 e5
      exact ⟨⟨s0, s1, s2, s3, s4, s5⟩, a2, c2', a3, c3', a5, c5', rfl, ⟨w0, i64E_of w1, w4⟩, k2, k3, k5⟩

set_option maxRecDepth 100000 in
theorem Rule_of_trod {H : Type} {enc : TypeId × Value → H} {W : World} {b0 : Nat} {r : Reach} {v : Value} {d : DataW H} {p : List MemPlace}
    (hv : Value.okWide Tryz.prog W r b0 170 v) (h : DataW.Trod enc Tryz.prog W 0 (fun _ => true) true 170 v d p) :
    ∃ (vs : List Value) (x : Ru), v = .agg vs.toArray ∧ RRu 0 W vs x := by
  obtain ⟨cs, rfl, hsz⟩ := okWide_struct Tryz.underlying170 hv
  obtain ⟨fuel, hf⟩ := h
  obtain ⟨e, hR⟩ := ru_of_trod fuel _ _ hf
  exact ⟨cs.toList, e, by simp, hR⟩

theorem cellsTableP : Tryz.prog.cellsOf 115 = 4 := by kernel_rfl

theorem cellsTableSP : Tryz.prog.cellsOf 24 = 1 := by kernel_rfl

theorem lenTb {lo : Nat} {w : World} {vs : List Value} {x : Tb} (h : RTb lo w vs x) : vs.length = 4 := by
  obtain ⟨_, _, _, _, rfl, _⟩ := h
  rfl

set_option maxRecDepth 100000 in
theorem tb_of_trod {H : Type} {enc : TypeId × Value → H} {W : World} (fuel : Nat) (cs : List Value) (x : DataW H × List MemPlace) (h : DataW.trod enc Tryz.prog W 0 (fun _ => true) true fuel 115 cs = some x) : ∃ e : Tb, RTb 0 W cs e := by
  obtain ⟨ys, n, hn, _, hl, hyl, hf⟩ := DataW.trod_struct Tryz.underlying115 h
  subst hn
  rw [cellsTableP] at hl
  match cs, hl with
  | [c0, c1, c2, c3], _ =>
    have hs : ys.length = 4 := hyl
    match ys, hs with
    | [y0, y1, y2, y3], _ =>
      have f0 : DataW.trod enc Tryz.prog W 0 (fun _ => true) true n 9 (([c0, c1, c2, c3].drop 0).take (Tryz.prog.cellsOf 9)) = some y0 := hf 0 _ rfl
      rw [cellsStrE] at f0
      obtain ⟨s0, e0, _, w0⟩ := DataW.trod_string Tryz.underlying9 f0
      have f1 : DataW.trod enc Tryz.prog W 0 (fun _ => true) true n 112 (([c0, c1, c2, c3].drop 1).take (Tryz.prog.cellsOf 112)) = some y1 := hf 1 _ rfl
      rw [cellsColSP] at f1
      obtain ⟨a1, c1', s1, e1, k1⟩ := sl_of_trod (R := RCo) Tryz.underlying112 cellsColP (by omega) (fun h => lenCo h) co_of_trod f1
      have f2 : DataW.trod enc Tryz.prog W 0 (fun _ => true) true n 113 (([c0, c1, c2, c3].drop 2).take (Tryz.prog.cellsOf 113)) = some y2 := hf 2 _ rfl
      rw [cellsRuleSP] at f2
      obtain ⟨a2, c2', s2, e2, k2⟩ := sl_of_trod (R := RRu) Tryz.underlying113 cellsRuleP (by omega) (fun h => lenRu h) ru_of_trod f2
      have f3 : DataW.trod enc Tryz.prog W 0 (fun _ => true) true n 3 (([c0, c1, c2, c3].drop 3).take (Tryz.prog.cellsOf 3)) = some y3 := hf 3 _ rfl
      rw [cellsIntE] at f3
      obtain ⟨s3, e3, _, w3⟩ := DataW.trod_int Tryz.underlying3 f3
      simp at e0 e1 e2 e3
      subst e0 e1 e2 e3
      exact ⟨⟨s0, s1, s2, s3⟩, a1, c1', a2, c2', rfl, ⟨w0, i64E_of w3⟩, k1, k2⟩

set_option maxRecDepth 100000 in
theorem Table_of_trod {H : Type} {enc : TypeId × Value → H} {W : World} {b0 : Nat} {r : Reach} {v : Value} {d : DataW H} {p : List MemPlace}
    (hv : Value.okWide Tryz.prog W r b0 115 v) (h : DataW.Trod enc Tryz.prog W 0 (fun _ => true) true 115 v d p) :
    ∃ (vs : List Value) (x : Tb), v = .agg vs.toArray ∧ RTb 0 W vs x := by
  obtain ⟨cs, rfl, hsz⟩ := okWide_struct Tryz.underlying115 hv
  obtain ⟨fuel, hf⟩ := h
  obtain ⟨e, hR⟩ := tb_of_trod fuel _ _ hf
  exact ⟨cs.toList, e, by simp, hR⟩

theorem cellsIndexP : Tryz.prog.cellsOf 117 = 4 := by kernel_rfl

theorem cellsIndexSP : Tryz.prog.cellsOf 25 = 1 := by kernel_rfl

theorem lenIx {lo : Nat} {w : World} {vs : List Value} {x : Ix} (h : RIx lo w vs x) : vs.length = 4 := by
  obtain ⟨_, _, rfl, _⟩ := h
  rfl

set_option maxRecDepth 100000 in
theorem ix_of_trod {H : Type} {enc : TypeId × Value → H} {W : World} (fuel : Nat) (cs : List Value) (x : DataW H × List MemPlace) (h : DataW.trod enc Tryz.prog W 0 (fun _ => true) true fuel 117 cs = some x) : ∃ e : Ix, RIx 0 W cs e := by
  obtain ⟨ys, n, hn, _, hl, hyl, hf⟩ := DataW.trod_struct Tryz.underlying117 h
  subst hn
  rw [cellsIndexP] at hl
  match cs, hl with
  | [c0, c1, c2, c3], _ =>
    have hs : ys.length = 4 := hyl
    match ys, hs with
    | [y0, y1, y2, y3], _ =>
      have f0 : DataW.trod enc Tryz.prog W 0 (fun _ => true) true n 9 (([c0, c1, c2, c3].drop 0).take (Tryz.prog.cellsOf 9)) = some y0 := hf 0 _ rfl
      rw [cellsStrE] at f0
      obtain ⟨s0, e0, _, w0⟩ := DataW.trod_string Tryz.underlying9 f0
      have f1 : DataW.trod enc Tryz.prog W 0 (fun _ => true) true n 9 (([c0, c1, c2, c3].drop 1).take (Tryz.prog.cellsOf 9)) = some y1 := hf 1 _ rfl
      rw [cellsStrE] at f1
      obtain ⟨s1, e1, _, w1⟩ := DataW.trod_string Tryz.underlying9 f1
      have f2 : DataW.trod enc Tryz.prog W 0 (fun _ => true) true n 30 (([c0, c1, c2, c3].drop 2).take (Tryz.prog.cellsOf 30)) = some y2 := hf 2 _ rfl
      rw [cellsStrsP] at f2
      obtain ⟨a2, c2', s2, e2, k2⟩ := ss_of_trod f2
      have f3 : DataW.trod enc Tryz.prog W 0 (fun _ => true) true n 4 (([c0, c1, c2, c3].drop 3).take (Tryz.prog.cellsOf 4)) = some y3 := hf 3 _ rfl
      rw [cellsBoolP] at f3
      obtain ⟨s3, e3, _⟩ := DataW.trod_bool Tryz.underlying4 f3
      simp at e0 e1 e2 e3
      subst e0 e1 e2 e3
      exact ⟨⟨s0, s1, s2, s3⟩, a2, c2', rfl, ⟨w0, w1⟩, k2⟩

set_option maxRecDepth 100000 in
theorem Index_of_trod {H : Type} {enc : TypeId × Value → H} {W : World} {b0 : Nat} {r : Reach} {v : Value} {d : DataW H} {p : List MemPlace}
    (hv : Value.okWide Tryz.prog W r b0 117 v) (h : DataW.Trod enc Tryz.prog W 0 (fun _ => true) true 117 v d p) :
    ∃ (vs : List Value) (x : Ix), v = .agg vs.toArray ∧ RIx 0 W vs x := by
  obtain ⟨cs, rfl, hsz⟩ := okWide_struct Tryz.underlying117 hv
  obtain ⟨fuel, hf⟩ := h
  obtain ⟨e, hR⟩ := ix_of_trod fuel _ _ hf
  exact ⟨cs.toList, e, by simp, hR⟩

theorem cellsViewP : Tryz.prog.cellsOf 121 = 4 := by kernel_rfl

theorem cellsViewSP : Tryz.prog.cellsOf 26 = 1 := by kernel_rfl

theorem lenVw {lo : Nat} {w : World} {vs : List Value} {x : Vw} (h : RVw lo w vs x) : vs.length = 4 := by
  obtain ⟨_, _, _, _, rfl, _⟩ := h
  rfl

set_option maxRecDepth 100000 in
theorem vw_of_trod {H : Type} {enc : TypeId × Value → H} {W : World} (fuel : Nat) (cs : List Value) (x : DataW H × List MemPlace) (h : DataW.trod enc Tryz.prog W 0 (fun _ => true) true fuel 121 cs = some x) : ∃ e : Vw, RVw 0 W cs e := by
  obtain ⟨ys, n, hn, _, hl, hyl, hf⟩ := DataW.trod_struct Tryz.underlying121 h
  subst hn
  rw [cellsViewP] at hl
  match cs, hl with
  | [c0, c1, c2, c3], _ =>
    have hs : ys.length = 4 := hyl
    match ys, hs with
    | [y0, y1, y2, y3], _ =>
      have f0 : DataW.trod enc Tryz.prog W 0 (fun _ => true) true n 9 (([c0, c1, c2, c3].drop 0).take (Tryz.prog.cellsOf 9)) = some y0 := hf 0 _ rfl
      rw [cellsStrE] at f0
      obtain ⟨s0, e0, _, w0⟩ := DataW.trod_string Tryz.underlying9 f0
      have f1 : DataW.trod enc Tryz.prog W 0 (fun _ => true) true n 9 (([c0, c1, c2, c3].drop 1).take (Tryz.prog.cellsOf 9)) = some y1 := hf 1 _ rfl
      rw [cellsStrE] at f1
      obtain ⟨s1, e1, _, w1⟩ := DataW.trod_string Tryz.underlying9 f1
      have f2 : DataW.trod enc Tryz.prog W 0 (fun _ => true) true n 30 (([c0, c1, c2, c3].drop 2).take (Tryz.prog.cellsOf 30)) = some y2 := hf 2 _ rfl
      rw [cellsStrsP] at f2
      obtain ⟨a2, c2', s2, e2, k2⟩ := ss_of_trod f2
      have f3 : DataW.trod enc Tryz.prog W 0 (fun _ => true) true n 119 (([c0, c1, c2, c3].drop 3).take (Tryz.prog.cellsOf 119)) = some y3 := hf 3 _ rfl
      rw [cellsKids] at f3
      obtain ⟨a3, c3', s3, e3, k3⟩ := ks_of_trod f3
      simp at e0 e1 e2 e3
      subst e0 e1 e2 e3
      exact ⟨⟨s0, s1, s2, s3⟩, a2, c2', a3, c3', rfl, ⟨w0, w1⟩, k2, k3⟩

set_option maxRecDepth 100000 in
theorem View_of_trod {H : Type} {enc : TypeId × Value → H} {W : World} {b0 : Nat} {r : Reach} {v : Value} {d : DataW H} {p : List MemPlace}
    (hv : Value.okWide Tryz.prog W r b0 121 v) (h : DataW.Trod enc Tryz.prog W 0 (fun _ => true) true 121 v d p) :
    ∃ (vs : List Value) (x : Vw), v = .agg vs.toArray ∧ RVw 0 W vs x := by
  obtain ⟨cs, rfl, hsz⟩ := okWide_struct Tryz.underlying121 hv
  obtain ⟨fuel, hf⟩ := h
  obtain ⟨e, hR⟩ := vw_of_trod fuel _ _ hf
  exact ⟨cs.toList, e, by simp, hR⟩

theorem cellsPlanP : Tryz.prog.cellsOf 28 = 6 := by kernel_rfl

theorem lenPl {lo : Nat} {w : World} {vs : List Value} {x : Pl} (h : RPl lo w vs x) : vs.length = 6 := by
  obtain ⟨_, _, _, _, _, _, _, _, _, _, rfl, _⟩ := h
  rfl

set_option maxRecDepth 100000 in
theorem pl_of_trod {H : Type} {enc : TypeId × Value → H} {W : World} (fuel : Nat) (cs : List Value) (x : DataW H × List MemPlace) (h : DataW.trod enc Tryz.prog W 0 (fun _ => true) true fuel 28 cs = some x) : ∃ e : Pl, RPl 0 W cs e := by
  obtain ⟨ys, n, hn, _, hl, hyl, hf⟩ := DataW.trod_struct Tryz.underlying28 h
  subst hn
  rw [cellsPlanP] at hl
  match cs, hl with
  | [c0, c1, c2, c3, c4, c5], _ =>
    have hs : ys.length = 6 := hyl
    match ys, hs with
    | [y0, y1, y2, y3, y4, y5], _ =>
      have f0 : DataW.trod enc Tryz.prog W 0 (fun _ => true) true n 22 (([c0, c1, c2, c3, c4, c5].drop 0).take (Tryz.prog.cellsOf 22)) = some y0 := hf 0 _ rfl
      rw [cellsLabelsSP] at f0
      obtain ⟨a0, c0', s0, e0, k0⟩ := sl_of_trod (R := RLab) Tryz.underlying22 cellsLabelsP (by omega) (fun h => lenLab h) lab_of_trod f0
      have f1 : DataW.trod enc Tryz.prog W 0 (fun _ => true) true n 23 (([c0, c1, c2, c3, c4, c5].drop 1).take (Tryz.prog.cellsOf 23)) = some y1 := hf 1 _ rfl
      rw [cellsSeqSP] at f1
      obtain ⟨a1, c1', s1, e1, k1⟩ := sl_of_trod (R := RSq) Tryz.underlying23 cellsSeqP (by omega) (fun h => lenSq h) sq_of_trod f1
      have f2 : DataW.trod enc Tryz.prog W 0 (fun _ => true) true n 24 (([c0, c1, c2, c3, c4, c5].drop 2).take (Tryz.prog.cellsOf 24)) = some y2 := hf 2 _ rfl
      rw [cellsTableSP] at f2
      obtain ⟨a2, c2', s2, e2, k2⟩ := sl_of_trod (R := RTb) Tryz.underlying24 cellsTableP (by omega) (fun h => lenTb h) tb_of_trod f2
      have f3 : DataW.trod enc Tryz.prog W 0 (fun _ => true) true n 25 (([c0, c1, c2, c3, c4, c5].drop 3).take (Tryz.prog.cellsOf 25)) = some y3 := hf 3 _ rfl
      rw [cellsIndexSP] at f3
      obtain ⟨a3, c3', s3, e3, k3⟩ := sl_of_trod (R := RIx) Tryz.underlying25 cellsIndexP (by omega) (fun h => lenIx h) ix_of_trod f3
      have f4 : DataW.trod enc Tryz.prog W 0 (fun _ => true) true n 26 (([c0, c1, c2, c3, c4, c5].drop 4).take (Tryz.prog.cellsOf 26)) = some y4 := hf 4 _ rfl
      rw [cellsViewSP] at f4
      obtain ⟨a4, c4', s4, e4, k4⟩ := sl_of_trod (R := RVw) Tryz.underlying26 cellsViewP (by omega) (fun h => lenVw h) vw_of_trod f4
      have f5 : DataW.trod enc Tryz.prog W 0 (fun _ => true) true n 3 (([c0, c1, c2, c3, c4, c5].drop 5).take (Tryz.prog.cellsOf 3)) = some y5 := hf 5 _ rfl
      rw [cellsIntE] at f5
      obtain ⟨s5, e5, _, w5⟩ := DataW.trod_int Tryz.underlying3 f5
      simp at e0 e1 e2 e3 e4 e5
      subst e0 e1 e2 e3 e4 e5
      exact ⟨⟨s0, s1, s2, s3, s4, s5⟩, a0, c0', a1, c1', a2, c2', a3, c3', a4, c4', rfl, i64E_of w5, k0, k1, k2, k3, k4⟩

set_option maxRecDepth 100000 in
theorem Plan_of_trod {H : Type} {enc : TypeId × Value → H} {W : World} {b0 : Nat} {r : Reach} {v : Value} {d : DataW H} {p : List MemPlace}
    (hv : Value.okWide Tryz.prog W r b0 28 v) (h : DataW.Trod enc Tryz.prog W 0 (fun _ => true) true 28 v d p) :
    ∃ (vs : List Value) (x : Pl), v = .agg vs.toArray ∧ RPl 0 W vs x := by
  obtain ⟨cs, rfl, hsz⟩ := okWide_struct Tryz.underlying28 hv
  obtain ⟨fuel, hf⟩ := h
  obtain ⟨e, hR⟩ := pl_of_trod fuel _ _ hf
  exact ⟨cs.toList, e, by simp, hR⟩

end Go.Proofs.YtjjdcdnaonfnmaaGreat
