/- How lists of structures among a law's arguments are opened. -/
/- How a type among a law's arguments is opened. -/
/- How schemas among a law's arguments are opened. Written by tools/gen_plan.py. -/
/- How a list of enumerations among a law's arguments is opened. -/
import Derived.Test.YtefjjcoaeanagaaDoorDat
import Derived.Test.YtefjjcoaeanagaaDoorMOpen
import Derived.Test.YtefjjcoaeanagaaDoorTyp
import Derived.Lib.SmallJoins
import Derived.Deep.Strs
import Derived.Test.YtefjjcoaeanagaaDoorMDat2
namespace Go.Proofs.YtefjjcoaeanagaaDoor
open Go.ChangeShapes Go.WideShapes Go.ChangeAt Go.RowKit

set_option maxRecDepth 100000 in
theorem sl_of_trod_le {H : Type} {enc : TypeId × Value → H} {W : World} {X : Type} {K N : Nat} {R : Rd X} {T TE : TypeId} (hT : Tryd.prog.underlying T = some (.slice TE)) (hK : Tryd.prog.cellsOf TE = K) (hK0 : 0 < K)
    (hlen : ∀ {cs : List Value} {e : X}, R 0 W cs e → cs.length = K)
    (hE : ∀ (fuel : Nat), fuel ≤ N → ∀ (cs : List Value) (x : DataW H × List MemPlace), DataW.trod enc Tryd.prog W 0 (fun _ => true) true fuel TE cs = some x → ∃ e : X, R 0 W cs e)
    {cs : List Value} {x : DataW H × List MemPlace} (h : DataW.trod enc Tryd.prog W 0 (fun _ => true) true N T cs = some x) :
    ∃ (a : Option Addr) (c : Nat) (xs : List X), cs = [.slice a xs.length c] ∧ Sl K R 0 W a c xs := by
  rcases DataW.trod_slice hT h with ⟨hcs, _⟩ | ⟨q, len, cap, elems, rest, m, hm, hcs, _, _, hlc, hcap, hlen', hel, _, _⟩
  · exact ⟨none, 0, [], hcs, Sl.nil _ _ _ _⟩
  · subst hcs
    have hpick : ∀ i, i < len → ∃ (e : X) (vs : List Value), (∀ (j : Nat) (hj : j < vs.length), W.cell? (q.add (i * K + j)) = some vs[j]) ∧ R 0 W vs e := by
      intro i hi
      have hh := hel i hi
      rw [hK, List.getElem?_eq_getElem (by omega)] at hh
      obtain ⟨cs', hc, ht⟩ := Option.bind_eq_some_iff.1 hh
      obtain ⟨e, hR⟩ := hE m (by omega) cs' _ ht
      obtain ⟨_, _, hat⟩ := World.cells?_some hc
      refine ⟨e, cs', fun j hj => ?_, hR⟩
      rw [← Go.Deep.add_add, hat j (by rw [← hlen hR]; exact hj), List.getElem?_eq_getElem hj]
    have hall : ∃ es : List X, es.length = len ∧ ∀ (i : Nat) (h : i < es.length), ∃ vs : List Value, (∀ (j : Nat) (hj : j < vs.length), W.cell? (q.add (i * K + j)) = some vs[j]) ∧ R 0 W vs es[i] := by
      suffices HH : ∀ z, z ≤ len → ∃ es : List X, es.length = z ∧ ∀ (i : Nat) (h : i < es.length), ∃ vs : List Value, (∀ (j : Nat) (hj : j < vs.length), W.cell? (q.add (i * K + j)) = some vs[j]) ∧ R 0 W vs es[i] from HH len (Nat.le_refl _)
      intro z
      induction z with
      | zero => exact fun _ => ⟨[], rfl, fun i h => by simp at h⟩
      | succ z ihz =>
        intro hz
        obtain ⟨es, hes, hc⟩ := ihz (by omega)
        obtain ⟨e, vs, he⟩ := hpick z (by omega)
        refine ⟨es ++ [e], by simp [hes], fun i h => ?_⟩
        by_cases hiz : i < es.length
        · rw [List.getElem_append_left hiz]; exact hc i hiz
        · have : i = z := by simp at h; omega
          subst this
          refine ⟨vs, he.1, ?_⟩
          rw [List.getElem_append_right (by omega)]
          simpa [hes] using he.2
    obtain ⟨es, hesl, hes⟩ := hall
    subst hesl
    refine ⟨some q, cap, es, rfl, hlc, hcap, (fun h => by cases h), fun hp => ?_⟩
    obtain ⟨b, off, spot⟩ := q
    obtain ⟨vs0, h0, hR0⟩ := hes 0 hp
    have hv0 : 0 < vs0.length := by rw [hlen hR0]; exact hK0
    have h00 := h0 0 hv0
    have hspot : spot = none := by simpa [Addr.add] using World.cell?_spot h00
    subst hspot
    have hadd : ∀ j, (⟨b, off, none⟩ : Addr).add j = ⟨b, off + j, none⟩ := fun j => by unfold Addr.add; by_cases h0 : j = 0 <;> simp [h0]
    refine ⟨b, off, rfl, Nat.zero_le _, ?_, fun i hi' => ?_⟩
    · rw [hadd] at h00
      rcases Nat.lt_or_ge b W.heap.size with hlt | hge
      · exact hlt
      · simp [World.cell?, Array.getElem?_eq_none hge] at h00
    · obtain ⟨vs, h1, h2⟩ := hes i hi'
      refine ⟨vs, fun j hj => ?_, h2⟩
      rw [← h1 j hj, hadd]
      congr 2
      omega

theorem sl_of_trod {H : Type} {enc : TypeId × Value → H} {W : World} {X : Type} {K : Nat} {R : Rd X} {T TE : TypeId} (hT : Tryd.prog.underlying T = some (.slice TE)) (hK : Tryd.prog.cellsOf TE = K) (hK0 : 0 < K)
    (hlen : ∀ {cs : List Value} {e : X}, R 0 W cs e → cs.length = K)
    (hE : ∀ (fuel : Nat) (cs : List Value) (x : DataW H × List MemPlace), DataW.trod enc Tryd.prog W 0 (fun _ => true) true fuel TE cs = some x → ∃ e : X, R 0 W cs e)
    {fuel : Nat} {cs : List Value} {x : DataW H × List MemPlace} (h : DataW.trod enc Tryd.prog W 0 (fun _ => true) true fuel T cs = some x) :
    ∃ (a : Option Addr) (c : Nat) (xs : List X), cs = [.slice a xs.length c] ∧ Sl K R 0 W a c xs :=
  sl_of_trod_le hT hK hK0 hlen (fun f _ => hE f) h

/-- One text in one cell. -/
def RStr : Rd ByteArray := fun _ _ vs s => vs = [.string s] ∧ s.size ≤ maxLen

set_option maxRecDepth 100000 in
theorem ss_of_trod {H : Type} {enc : TypeId × Value → H} {W : World} {fuel : Nat} {cs : List Value} {x : DataW H × List MemPlace} (h : DataW.trod enc Tryd.prog W 0 (fun _ => true) true fuel 39 cs = some x) :
    ∃ (a : Option Addr) (c : Nat) (xs : List ByteArray), cs = [.slice a xs.length c] ∧ Ss 0 W a c xs := by
  obtain ⟨a, c, xs, rfl, h1, h2, h3, h4⟩ := sl_of_trod (R := RStr) (K := 1) Tryd.underlying39 (by kernel_rfl) (by omega) (fun h => by rw [h.1]; rfl)
    (fun fuel cs x h => by obtain ⟨s, e1, _, w1⟩ := DataW.trod_string Tryd.underlying9 h; exact ⟨s, e1, w1⟩) h
  refine ⟨a, c, xs, rfl, Strs.ss0 ⟨h1, h2, fun s hs => ?_, h3, fun hp => ?_⟩⟩
  · obtain ⟨i, hi, rfl⟩ := List.mem_iff_getElem.1 hs
    obtain ⟨b, off, _, _, _, hc⟩ := h4 (by omega)
    obtain ⟨_, _, hR⟩ := hc i hi
    exact hR.2
  · obtain ⟨b, off, ha, _, hb, hc⟩ := h4 hp
    refine ⟨b, off, ha, hb, fun i hi => ?_⟩
    obtain ⟨vs, hv, hR⟩ := hc i hi
    obtain ⟨rfl, _⟩ := hR
    have := hv 0 (by simp)
    simpa using this

/-- One expression in four cells. -/
def RX (d : Nat) : Rd Ex := fun lo w vs e => ∃ a c, vs = [.int .i64 e.kind, .string e.text, .int .i64 e.num, .slice a e.kids.length c] ∧ e.fit ∧ KidsB lo w d a c e.kids

theorem Sl.kidsB {lo d : Nat} {w : World} {a : Option Addr} {c : Nat} {kids : List Ex} (h : Sl 4 (RX d) lo w a c kids) : KidsB lo w (d + 1) a c kids := by
  obtain ⟨h1, h2, h3, h4⟩ := h
  refine ⟨h1, h2, h3, fun hp => ?_⟩
  obtain ⟨b, off, ha, hl, hb, hc⟩ := h4 hp
  refine ⟨b, off, ha, hl, hb, fun i hi => ?_⟩
  obtain ⟨vs, hv, hR⟩ := hc i hi
  obtain ⟨a', c', rfl, hfit, hk⟩ := hR
  exact ⟨hv 0 (by simp), hv 1 (by simp), hv 2 (by simp), hfit, a', c', hv 3 (by simp), hk⟩

set_option maxRecDepth 100000 in
theorem ks_of_trod {H : Type} {enc : TypeId × Value → H} {W : World} {fuel : Nat} {cs : List Value} {x : DataW H × List MemPlace} (h : DataW.trod enc Tryd.prog W 0 (fun _ => true) true fuel 45 cs = some x) :
    ∃ (a : Option Addr) (c : Nat) (xs : List Ex), cs = [.slice a xs.length c] ∧ Ks 0 W a c xs := by
  obtain ⟨a, c, xs, he, hs⟩ := sl_of_trod_le (R := RX fuel) (K := 4) (N := fuel) Tryd.underlying45 (by kernel_rfl) (by omega) (fun h => by obtain ⟨_, _, rfl, _⟩ := h; rfl)
    (fun f hf cs x h => by obtain ⟨e, a, c, rfl, hfit, hk⟩ := ex_of_trod f cs x h; exact ⟨e, a, c, rfl, hfit, (hk.mono hf).b0⟩) h
  exact ⟨a, c, xs, he, fuel, hs.kidsB⟩

end Go.Proofs.YtefjjcoaeanagaaDoor

namespace Go.Proofs.YtefjjcoaeanagaaDoor
open Go.ChangeShapes Go.WideShapes Go.ChangeAt Go.RowKit

theorem cellsType : Tryd.prog.cellsOf 48 = 3 := by kernel_rfl
theorem cellsIntT : Tryd.prog.cellsOf 3 = 1 := by kernel_rfl
theorem cellsStrT : Tryd.prog.cellsOf 9 = 1 := by kernel_rfl

set_option maxRecDepth 100000 in
theorem Type_of_trod {H : Type} {enc : TypeId × Value → H} {W : World} {base b0 : Nat} {r : Reach} {v : Value} {d : DataW H} {p : List MemPlace}
    (hv : Value.okWide Tryd.prog W r b0 48 v) (h : DataW.Trod enc Tryd.prog W base (fun _ => true) true 48 v d p) :
    ∃ t : Ty, v = t.v ∧ t.ok := by
  obtain ⟨cs, rfl, hsz⟩ := okWide_struct Tryd.underlying48 hv
  obtain ⟨fuel, hf⟩ := h
  obtain ⟨ys, m, _, hx, hl, hyl, hf⟩ := DataW.trod_struct Tryd.underlying48 hf
  obtain ⟨l⟩ := cs
  match l, hsz.trans cellsType with
  | [c0, c1, c2], _ =>
    have hs : ys.length = 3 := hyl
    match ys, hs with
    | [y0, y1, y2], _ =>
      have f0 : DataW.trod enc Tryd.prog W base (fun _ => true) true m 3 (([c0, c1, c2].drop 0).take (Tryd.prog.cellsOf 3)) = some y0 := hf 0 _ rfl
      have f1 : DataW.trod enc Tryd.prog W base (fun _ => true) true m 3 (([c0, c1, c2].drop 1).take (Tryd.prog.cellsOf 3)) = some y1 := hf 1 _ rfl
      have f2 : DataW.trod enc Tryd.prog W base (fun _ => true) true m 9 (([c0, c1, c2].drop 2).take (Tryd.prog.cellsOf 9)) = some y2 := hf 2 _ rfl
      rw [cellsIntT] at f0 f1
      rw [cellsStrT] at f2
      obtain ⟨k, e0, x0, w0⟩ := DataW.trod_int Tryd.underlying3 f0
      obtain ⟨l, e1, x1, w1⟩ := DataW.trod_int Tryd.underlying3 f1
      obtain ⟨s, e2, x2, w2⟩ := DataW.trod_string Tryd.underlying9 f2
      simp at e0 e1 e2
      subst e0 e1 e2
      exact ⟨⟨k, l, s⟩, rfl, w2, w0, w1⟩

end Go.Proofs.YtefjjcoaeanagaaDoor

namespace Go.Proofs.YtefjjcoaeanagaaDoor
open Go.ChangeShapes Go.WideShapes Go.ChangeAt Go.RowKit

theorem cellsBoolP : Tryd.prog.cellsOf 4 = 1 := by kernel_rfl

theorem cellsStrsP : Tryd.prog.cellsOf 39 = 1 := by kernel_rfl

set_option maxRecDepth 100000 in
theorem ty_of_trod {H : Type} {enc : TypeId × Value → H} {W : World} {fuel : Nat} {cs : List Value} {x : DataW H × List MemPlace} (h : DataW.trod enc Tryd.prog W 0 (fun _ => true) true fuel 48 cs = some x) :
    ∃ t : Ty, cs = [.int .i64 t.kind, .int .i64 t.len, .string t.name] ∧ t.name.size ≤ maxLen ∧ i64E t.kind ∧ i64E t.len := by
  obtain ⟨ys, m, _, hx, hl, hyl, hf⟩ := DataW.trod_struct Tryd.underlying48 h
  rw [cellsType] at hl
  match cs, hl with
  | [c0, c1, c2], _ =>
    have hs : ys.length = 3 := hyl
    match ys, hs with
    | [y0, y1, y2], _ =>
      have f0 : DataW.trod enc Tryd.prog W 0 (fun _ => true) true m 3 (([c0, c1, c2].drop 0).take (Tryd.prog.cellsOf 3)) = some y0 := hf 0 _ rfl
      have f1 : DataW.trod enc Tryd.prog W 0 (fun _ => true) true m 3 (([c0, c1, c2].drop 1).take (Tryd.prog.cellsOf 3)) = some y1 := hf 1 _ rfl
      have f2 : DataW.trod enc Tryd.prog W 0 (fun _ => true) true m 9 (([c0, c1, c2].drop 2).take (Tryd.prog.cellsOf 9)) = some y2 := hf 2 _ rfl
      rw [cellsIntT] at f0 f1
      rw [cellsStrT] at f2
      obtain ⟨k, e0, x0, w0⟩ := DataW.trod_int Tryd.underlying3 f0
      obtain ⟨l, e1, x1, w1⟩ := DataW.trod_int Tryd.underlying3 f1
      obtain ⟨s, e2, x2, w2⟩ := DataW.trod_string Tryd.underlying9 f2
      simp at e0 e1 e2
      subst e0 e1 e2
      exact ⟨⟨k, l, s⟩, rfl, w2, i64E_of w0, i64E_of w1⟩

theorem cellsLabelsP : Tryd.prog.cellsOf 93 = 2 := by kernel_rfl

theorem cellsLabelsSP : Tryd.prog.cellsOf 49 = 1 := by kernel_rfl

theorem lenLab {lo : Nat} {w : World} {vs : List Value} {x : Lab} (h : RLab lo w vs x) : vs.length = 2 := by
  obtain ⟨_, _, rfl, _⟩ := h
  rfl

set_option maxRecDepth 100000 in
theorem lab_of_trod {H : Type} {enc : TypeId × Value → H} {W : World} (fuel : Nat) (cs : List Value) (x : DataW H × List MemPlace) (h : DataW.trod enc Tryd.prog W 0 (fun _ => true) true fuel 93 cs = some x) : ∃ e : Lab, RLab 0 W cs e := by
  obtain ⟨ys, n, hn, _, hl, hyl, hf⟩ := DataW.trod_struct Tryd.underlying93 h
  subst hn
  rw [cellsLabelsP] at hl
  match cs, hl with
  | [c0, c1], _ =>
    have hs : ys.length = 2 := hyl
    match ys, hs with
    | [y0, y1], _ =>
      have f0 : DataW.trod enc Tryd.prog W 0 (fun _ => true) true n 9 (([c0, c1].drop 0).take (Tryd.prog.cellsOf 9)) = some y0 := hf 0 _ rfl
      rw [cellsStrE] at f0
      obtain ⟨s0, e0, _, w0⟩ := DataW.trod_string Tryd.underlying9 f0
      have f1 : DataW.trod enc Tryd.prog W 0 (fun _ => true) true n 39 (([c0, c1].drop 1).take (Tryd.prog.cellsOf 39)) = some y1 := hf 1 _ rfl
      rw [cellsStrsP] at f1
      obtain ⟨a1, c1', s1, e1, k1⟩ := ss_of_trod f1
      simp at e0 e1
      subst e0 e1
      exact ⟨⟨s0, s1⟩, a1, c1', rfl, w0, k1⟩

set_option maxRecDepth 100000 in
theorem Labels_of_trod {H : Type} {enc : TypeId × Value → H} {W : World} {b0 : Nat} {r : Reach} {v : Value} {d : DataW H} {p : List MemPlace}
    (hv : Value.okWide Tryd.prog W r b0 93 v) (h : DataW.Trod enc Tryd.prog W 0 (fun _ => true) true 93 v d p) :
    ∃ (vs : List Value) (x : Lab), v = .agg vs.toArray ∧ RLab 0 W vs x := by
  obtain ⟨cs, rfl, hsz⟩ := okWide_struct Tryd.underlying93 hv
  obtain ⟨fuel, hf⟩ := h
  obtain ⟨e, hR⟩ := lab_of_trod fuel _ _ hf
  exact ⟨cs.toList, e, by simp, hR⟩

theorem lenSq {lo : Nat} {w : World} {vs : List Value} {x : Sq} (h : RSq lo w vs x) : vs.length = 2 := by
  obtain ⟨rfl, _⟩ := h
  rfl

theorem lenCo {lo : Nat} {w : World} {vs : List Value} {x : Co} (h : RCo lo w vs x) : vs.length = 6 := by
  obtain ⟨_, _, rfl, _⟩ := h
  rfl

theorem lenRu {lo : Nat} {w : World} {vs : List Value} {x : Ru} (h : RRu lo w vs x) : vs.length = 6 := by
  obtain ⟨_, _, _, _, _, _, rfl, _⟩ := h
  rfl

theorem lenTb {lo : Nat} {w : World} {vs : List Value} {x : Tb} (h : RTb lo w vs x) : vs.length = 4 := by
  obtain ⟨_, _, _, _, rfl, _⟩ := h
  rfl

theorem lenIx {lo : Nat} {w : World} {vs : List Value} {x : Ix} (h : RIx lo w vs x) : vs.length = 4 := by
  obtain ⟨_, _, rfl, _⟩ := h
  rfl

theorem lenVw {lo : Nat} {w : World} {vs : List Value} {x : Vw} (h : RVw lo w vs x) : vs.length = 4 := by
  obtain ⟨_, _, _, _, rfl, _⟩ := h
  rfl

theorem lenPl {lo : Nat} {w : World} {vs : List Value} {x : Pl} (h : RPl lo w vs x) : vs.length = 6 := by
  obtain ⟨_, _, _, _, _, _, _, _, _, _, rfl, _⟩ := h
  rfl

end Go.Proofs.YtefjjcoaeanagaaDoor

namespace Go.Proofs.YtefjjcoaeanagaaDoor
open Go.ChangeShapes Go.WideShapes Go.ChangeAt Go.RowKit

set_option maxRecDepth 100000 in
theorem LabelsS_of_trod {H : Type} {enc : TypeId × Value → H} {W : World} {a : Option Addr} {l c : Nat} {d : DataW H} {p : List MemPlace}
    (h : DataW.Trod enc Tryd.prog W 0 (fun _ => true) true 49 (.slice a l c) d p) : ∃ xs : List Lab, l = xs.length ∧ Sl 2 RLab 0 W a c xs := by
  obtain ⟨fuel, hf⟩ := h
  obtain ⟨a', c', xs, he, hs⟩ := sl_of_trod (R := RLab) Tryd.underlying49 cellsLabelsP (by omega) (fun h => lenLab h) lab_of_trod hf
  simp [Value.cells] at he
  obtain ⟨rfl, rfl, rfl⟩ := he
  exact ⟨xs, rfl, hs⟩

end Go.Proofs.YtefjjcoaeanagaaDoor
