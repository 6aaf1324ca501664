/- How schemas among a law's arguments are opened. Written by tools/gen_plan.py. -/
import Derived.Test.YtefjjcoaeanagaaPl
import Derived.Test.YtefjjcoaeanagaaDatOpen
import Derived.Test.YtefjjcoaeanagaaOpenType
namespace Go.Proofs.Ytefjjcoaeanagaa
open Go.ChangeShapes Go.WideShapes Go.ChangeAt Go.RowKit

theorem cellsBoolP : Try.prog.cellsOf 4 = 1 := by kernel_rfl

theorem cellsStrsP : Try.prog.cellsOf 65 = 1 := by kernel_rfl

set_option maxRecDepth 100000 in
theorem ty_of_trod {H : Type} {enc : TypeId × Value → H} {W : World} {fuel : Nat} {cs : List Value} {x : DataW H × List MemPlace} (h : DataW.trod enc Try.prog W 0 (fun _ => true) true fuel 155 cs = some x) :
    ∃ t : Ty, cs = [.int .i64 t.kind, .int .i64 t.len, .string t.name] ∧ t.name.size ≤ maxLen ∧ i64E t.kind ∧ i64E t.len := by
  obtain ⟨ys, m, _, hx, hl, hyl, hf⟩ := DataW.trod_struct Try.underlying155 h
  rw [cellsType] at hl
  match cs, hl with
  | [c0, c1, c2], _ =>
    have hs : ys.length = 3 := hyl
    match ys, hs with
    | [y0, y1, y2], _ =>
      have f0 : DataW.trod enc Try.prog W 0 (fun _ => true) true m 3 (([c0, c1, c2].drop 0).take (Try.prog.cellsOf 3)) = some y0 := hf 0 _ rfl
      have f1 : DataW.trod enc Try.prog W 0 (fun _ => true) true m 3 (([c0, c1, c2].drop 1).take (Try.prog.cellsOf 3)) = some y1 := hf 1 _ rfl
      have f2 : DataW.trod enc Try.prog W 0 (fun _ => true) true m 9 (([c0, c1, c2].drop 2).take (Try.prog.cellsOf 9)) = some y2 := hf 2 _ rfl
      rw [cellsIntT] at f0 f1
      rw [cellsStrT] at f2
      obtain ⟨k, e0, x0, w0⟩ := DataW.trod_int Try.underlying3 f0
      obtain ⟨l, e1, x1, w1⟩ := DataW.trod_int Try.underlying3 f1
      obtain ⟨s, e2, x2, w2⟩ := DataW.trod_string Try.underlying9 f2
      simp at e0 e1 e2
      subst e0 e1 e2
      exact ⟨⟨k, l, s⟩, rfl, w2, i64E_of w0, i64E_of w1⟩

theorem cellsLabelsP : Try.prog.cellsOf 137 = 2 := by kernel_rfl

theorem cellsLabelsSP : Try.prog.cellsOf 42 = 1 := by kernel_rfl

theorem lenLab {lo : Nat} {w : World} {vs : List Value} {x : Lab} (h : RLab lo w vs x) : vs.length = 2 := by
  obtain ⟨_, _, rfl, _⟩ := h
  rfl

set_option maxRecDepth 100000 in
theorem lab_of_trod {H : Type} {enc : TypeId × Value → H} {W : World} (fuel : Nat) (cs : List Value) (x : DataW H × List MemPlace) (h : DataW.trod enc Try.prog W 0 (fun _ => true) true fuel 137 cs = some x) : ∃ e : Lab, RLab 0 W cs e := by
  obtain ⟨ys, n, hn, _, hl, hyl, hf⟩ := DataW.trod_struct Try.underlying137 h
  subst hn
  rw [cellsLabelsP] at hl
  match cs, hl with
  | [c0, c1], _ =>
    have hs : ys.length = 2 := hyl
    match ys, hs with
    | [y0, y1], _ =>
      have f0 : DataW.trod enc Try.prog W 0 (fun _ => true) true n 9 (([c0, c1].drop 0).take (Try.prog.cellsOf 9)) = some y0 := hf 0 _ rfl
      rw [cellsStrE] at f0
      obtain ⟨s0, e0, _, w0⟩ := DataW.trod_string Try.underlying9 f0
      have f1 : DataW.trod enc Try.prog W 0 (fun _ => true) true n 65 (([c0, c1].drop 1).take (Try.prog.cellsOf 65)) = some y1 := hf 1 _ rfl
      rw [cellsStrsP] at f1
      obtain ⟨a1, c1', s1, e1, k1⟩ := ss_of_trod f1
      simp at e0 e1
      subst e0 e1
      exact ⟨⟨s0, s1⟩, a1, c1', rfl, w0, k1⟩

set_option maxRecDepth 100000 in
theorem Labels_of_trod {H : Type} {enc : TypeId × Value → H} {W : World} {b0 : Nat} {r : Reach} {v : Value} {d : DataW H} {p : List MemPlace}
    (hv : Value.okWide Try.prog W r b0 137 v) (h : DataW.Trod enc Try.prog W 0 (fun _ => true) true 137 v d p) :
    ∃ (vs : List Value) (x : Lab), v = .agg vs.toArray ∧ RLab 0 W vs x := by
  obtain ⟨cs, rfl, hsz⟩ := okWide_struct Try.underlying137 hv
  obtain ⟨fuel, hf⟩ := h
  obtain ⟨e, hR⟩ := lab_of_trod fuel _ _ hf
  exact ⟨cs.toList, e, by simp, hR⟩

theorem cellsSeqP : Try.prog.cellsOf 139 = 2 := by kernel_rfl

theorem cellsSeqSP : Try.prog.cellsOf 43 = 1 := by kernel_rfl

theorem lenSq {lo : Nat} {w : World} {vs : List Value} {x : Sq} (h : RSq lo w vs x) : vs.length = 2 := by
  obtain ⟨rfl, _⟩ := h
  rfl

set_option maxRecDepth 100000 in
theorem sq_of_trod {H : Type} {enc : TypeId × Value → H} {W : World} (fuel : Nat) (cs : List Value) (x : DataW H × List MemPlace) (h : DataW.trod enc Try.prog W 0 (fun _ => true) true fuel 139 cs = some x) : ∃ e : Sq, RSq 0 W cs e := by
  obtain ⟨ys, n, hn, _, hl, hyl, hf⟩ := DataW.trod_struct Try.underlying139 h
  subst hn
  rw [cellsSeqP] at hl
  match cs, hl with
  | [c0, c1], _ =>
    have hs : ys.length = 2 := hyl
    match ys, hs with
    | [y0, y1], _ =>
      have f0 : DataW.trod enc Try.prog W 0 (fun _ => true) true n 9 (([c0, c1].drop 0).take (Try.prog.cellsOf 9)) = some y0 := hf 0 _ rfl
      rw [cellsStrE] at f0
      obtain ⟨s0, e0, _, w0⟩ := DataW.trod_string Try.underlying9 f0
      have f1 : DataW.trod enc Try.prog W 0 (fun _ => true) true n 3 (([c0, c1].drop 1).take (Try.prog.cellsOf 3)) = some y1 := hf 1 _ rfl
      rw [cellsIntE] at f1
      obtain ⟨s1, e1, _, w1⟩ := DataW.trod_int Try.underlying3 f1
      simp at e0 e1
      subst e0 e1
      exact ⟨⟨s0, s1⟩, rfl, ⟨w0, i64E_of w1⟩⟩

set_option maxRecDepth 100000 in
theorem Seq_of_trod {H : Type} {enc : TypeId × Value → H} {W : World} {b0 : Nat} {r : Reach} {v : Value} {d : DataW H} {p : List MemPlace}
    (hv : Value.okWide Try.prog W r b0 139 v) (h : DataW.Trod enc Try.prog W 0 (fun _ => true) true 139 v d p) :
    ∃ (vs : List Value) (x : Sq), v = .agg vs.toArray ∧ RSq 0 W vs x := by
  obtain ⟨cs, rfl, hsz⟩ := okWide_struct Try.underlying139 hv
  obtain ⟨fuel, hf⟩ := h
  obtain ⟨e, hR⟩ := sq_of_trod fuel _ _ hf
  exact ⟨cs.toList, e, by simp, hR⟩

theorem cellsColP : Try.prog.cellsOf 157 = 6 := by kernel_rfl

theorem cellsColSP : Try.prog.cellsOf 53 = 1 := by kernel_rfl

theorem lenCo {lo : Nat} {w : World} {vs : List Value} {x : Co} (h : RCo lo w vs x) : vs.length = 6 := by
  obtain ⟨_, _, rfl, _⟩ := h
  rfl

set_option maxRecDepth 100000 in
theorem co_of_trod {H : Type} {enc : TypeId × Value → H} {W : World} (fuel : Nat) (cs : List Value) (x : DataW H × List MemPlace) (h : DataW.trod enc Try.prog W 0 (fun _ => true) true fuel 157 cs = some x) : ∃ e : Co, RCo 0 W cs e := by
  obtain ⟨ys, n, hn, _, hl, hyl, hf⟩ := DataW.trod_struct Try.underlying157 h
  subst hn
  rw [cellsColP] at hl
  match cs, hl with
  | [c0, c1, c2, c3, c4, c5], _ =>
    have hs : ys.length = 4 := hyl
    match ys, hs with
    | [y0, y1, y2, y3], _ =>
      have f0 : DataW.trod enc Try.prog W 0 (fun _ => true) true n 9 (([c0, c1, c2, c3, c4, c5].drop 0).take (Try.prog.cellsOf 9)) = some y0 := hf 0 _ rfl
      rw [cellsStrE] at f0
      obtain ⟨s0, e0, _, w0⟩ := DataW.trod_string Try.underlying9 f0
      have f1 : DataW.trod enc Try.prog W 0 (fun _ => true) true n 155 (([c0, c1, c2, c3, c4, c5].drop 1).take (Try.prog.cellsOf 155)) = some y1 := hf 1 _ rfl
      rw [cellsType] at f1
      obtain ⟨s1, e1, w1⟩ := ty_of_trod f1
      have f2 : DataW.trod enc Try.prog W 0 (fun _ => true) true n 4 (([c0, c1, c2, c3, c4, c5].drop 4).take (Try.prog.cellsOf 4)) = some y2 := hf 2 _ rfl
      rw [cellsBoolP] at f2
      obtain ⟨s2, e2, _⟩ := DataW.trod_bool Try.underlying4 f2
      have f3 : DataW.trod enc Try.prog W 0 (fun _ => true) true n 143 (([c0, c1, c2, c3, c4, c5].drop 5).take (Try.prog.cellsOf 143)) = some y3 := hf 3 _ rfl
      rw [cellsKids] at f3
      obtain ⟨a3, c3', s3, e3, k3⟩ := ks_of_trod f3
      simp at e0 e1 e2 e3
      obtain ⟨e1a, e1b, e1c⟩ := e1
      subst e0 e1a e1b e1c e2 e3
      exact ⟨⟨s0, s1, s2, s3⟩, a3, c3', rfl, ⟨w0, w1.1, w1.2.1, w1.2.2⟩, k3⟩

set_option maxRecDepth 100000 in
theorem Col_of_trod {H : Type} {enc : TypeId × Value → H} {W : World} {b0 : Nat} {r : Reach} {v : Value} {d : DataW H} {p : List MemPlace}
    (hv : Value.okWide Try.prog W r b0 157 v) (h : DataW.Trod enc Try.prog W 0 (fun _ => true) true 157 v d p) :
    ∃ (vs : List Value) (x : Co), v = .agg vs.toArray ∧ RCo 0 W vs x := by
  obtain ⟨cs, rfl, hsz⟩ := okWide_struct Try.underlying157 hv
  obtain ⟨fuel, hf⟩ := h
  obtain ⟨e, hR⟩ := co_of_trod fuel _ _ hf
  exact ⟨cs.toList, e, by simp, hR⟩

theorem cellsRuleP : Try.prog.cellsOf 160 = 6 := by kernel_rfl

theorem cellsRuleSP : Try.prog.cellsOf 54 = 1 := by kernel_rfl

theorem lenRu {lo : Nat} {w : World} {vs : List Value} {x : Ru} (h : RRu lo w vs x) : vs.length = 6 := by
  obtain ⟨_, _, _, _, _, _, rfl, _⟩ := h
  rfl

set_option maxRecDepth 100000 in
theorem ru_of_trod {H : Type} {enc : TypeId × Value → H} {W : World} (fuel : Nat) (cs : List Value) (x : DataW H × List MemPlace) (h : DataW.trod enc Try.prog W 0 (fun _ => true) true fuel 160 cs = some x) : ∃ e : Ru, RRu 0 W cs e := by
  obtain ⟨ys, n, hn, _, hl, hyl, hf⟩ := DataW.trod_struct Try.underlying160 h
  subst hn
  rw [cellsRuleP] at hl
  match cs, hl with
  | [c0, c1, c2, c3, c4, c5], _ =>
    have hs : ys.length = 6 := hyl
    match ys, hs with
    | [y0, y1, y2, y3, y4, y5], _ =>
      have f0 : DataW.trod enc Try.prog W 0 (fun _ => true) true n 9 (([c0, c1, c2, c3, c4, c5].drop 0).take (Try.prog.cellsOf 9)) = some y0 := hf 0 _ rfl
      rw [cellsStrE] at f0
      obtain ⟨s0, e0, _, w0⟩ := DataW.trod_string Try.underlying9 f0
      have f1 : DataW.trod enc Try.prog W 0 (fun _ => true) true n 3 (([c0, c1, c2, c3, c4, c5].drop 1).take (Try.prog.cellsOf 3)) = some y1 := hf 1 _ rfl
      rw [cellsIntE] at f1
      obtain ⟨s1, e1, _, w1⟩ := DataW.trod_int Try.underlying3 f1
      have f2 : DataW.trod enc Try.prog W 0 (fun _ => true) true n 65 (([c0, c1, c2, c3, c4, c5].drop 2).take (Try.prog.cellsOf 65)) = some y2 := hf 2 _ rfl
      rw [cellsStrsP] at f2
      obtain ⟨a2, c2', s2, e2, k2⟩ := ss_of_trod f2
      have f3 : DataW.trod enc Try.prog W 0 (fun _ => true) true n 143 (([c0, c1, c2, c3, c4, c5].drop 3).take (Try.prog.cellsOf 143)) = some y3 := hf 3 _ rfl
      rw [cellsKids] at f3
      obtain ⟨a3, c3', s3, e3, k3⟩ := ks_of_trod f3
      have f4 : DataW.trod enc Try.prog W 0 (fun _ => true) true n 9 (([c0, c1, c2, c3, c4, c5].drop 4).take (Try.prog.cellsOf 9)) = some y4 := hf 4 _ rfl
      rw [cellsStrE] at f4
      obtain ⟨s4, e4, _, w4⟩ := DataW.trod_string Try.underlying9 f4
      have f5 : DataW.trod enc Try.prog W 0 (fun _ => true) true n 65 (([c0, c1, c2, c3, c4, c5].drop 5).take (Try.prog.cellsOf 65)) = some y5 := hf 5 _ rfl
      rw [cellsStrsP] at f5
      obtain ⟨a5, c5', s5, e5, k5⟩ := ss_of_trod f5
      simp at e0 e1 e2 e3 e4 e5
      subst e0 e1 e2 e3 e4 e5
      exact ⟨⟨s0, s1, s2, s3, s4, s5⟩, a2, c2', a3, c3', a5, c5', rfl, ⟨w0, i64E_of w1, w4⟩, k2, k3, k5⟩

set_option maxRecDepth 100000 in
theorem Rule_of_trod {H : Type} {enc : TypeId × Value → H} {W : World} {b0 : Nat} {r : Reach} {v : Value} {d : DataW H} {p : List MemPlace}
    (hv : Value.okWide Try.prog W r b0 160 v) (h : DataW.Trod enc Try.prog W 0 (fun _ => true) true 160 v d p) :
    ∃ (vs : List Value) (x : Ru), v = .agg vs.toArray ∧ RRu 0 W vs x := by
  obtain ⟨cs, rfl, hsz⟩ := okWide_struct Try.underlying160 hv
  obtain ⟨fuel, hf⟩ := h
  obtain ⟨e, hR⟩ := ru_of_trod fuel _ _ hf
  exact ⟨cs.toList, e, by simp, hR⟩

theorem cellsTableP : Try.prog.cellsOf 56 = 4 := by kernel_rfl

theorem cellsTableSP : Try.prog.cellsOf 44 = 1 := by kernel_rfl

theorem lenTb {lo : Nat} {w : World} {vs : List Value} {x : Tb} (h : RTb lo w vs x) : vs.length = 4 := by
  obtain ⟨_, _, _, _, rfl, _⟩ := h
  rfl

set_option maxRecDepth 100000 in
theorem tb_of_trod {H : Type} {enc : TypeId × Value → H} {W : World} (fuel : Nat) (cs : List Value) (x : DataW H × List MemPlace) (h : DataW.trod enc Try.prog W 0 (fun _ => true) true fuel 56 cs = some x) : ∃ e : Tb, RTb 0 W cs e := by
  obtain ⟨ys, n, hn, _, hl, hyl, hf⟩ := DataW.trod_struct Try.underlying56 h
  subst hn
  rw [cellsTableP] at hl
  match cs, hl with
  | [c0, c1, c2, c3], _ =>
    have hs : ys.length = 4 := hyl
    match ys, hs with
    | [y0, y1, y2, y3], _ =>
      have f0 : DataW.trod enc Try.prog W 0 (fun _ => true) true n 9 (([c0, c1, c2, c3].drop 0).take (Try.prog.cellsOf 9)) = some y0 := hf 0 _ rfl
      rw [cellsStrE] at f0
      obtain ⟨s0, e0, _, w0⟩ := DataW.trod_string Try.underlying9 f0
      have f1 : DataW.trod enc Try.prog W 0 (fun _ => true) true n 53 (([c0, c1, c2, c3].drop 1).take (Try.prog.cellsOf 53)) = some y1 := hf 1 _ rfl
      rw [cellsColSP] at f1
      obtain ⟨a1, c1', s1, e1, k1⟩ := sl_of_trod (R := RCo) Try.underlying53 cellsColP (by omega) (fun h => lenCo h) co_of_trod f1
      have f2 : DataW.trod enc Try.prog W 0 (fun _ => true) true n 54 (([c0, c1, c2, c3].drop 2).take (Try.prog.cellsOf 54)) = some y2 := hf 2 _ rfl
      rw [cellsRuleSP] at f2
      obtain ⟨a2, c2', s2, e2, k2⟩ := sl_of_trod (R := RRu) Try.underlying54 cellsRuleP (by omega) (fun h => lenRu h) ru_of_trod f2
      have f3 : DataW.trod enc Try.prog W 0 (fun _ => true) true n 3 (([c0, c1, c2, c3].drop 3).take (Try.prog.cellsOf 3)) = some y3 := hf 3 _ rfl
      rw [cellsIntE] at f3
      obtain ⟨s3, e3, _, w3⟩ := DataW.trod_int Try.underlying3 f3
      simp at e0 e1 e2 e3
      subst e0 e1 e2 e3
      exact ⟨⟨s0, s1, s2, s3⟩, a1, c1', a2, c2', rfl, ⟨w0, i64E_of w3⟩, k1, k2⟩

set_option maxRecDepth 100000 in
theorem Table_of_trod {H : Type} {enc : TypeId × Value → H} {W : World} {b0 : Nat} {r : Reach} {v : Value} {d : DataW H} {p : List MemPlace}
    (hv : Value.okWide Try.prog W r b0 56 v) (h : DataW.Trod enc Try.prog W 0 (fun _ => true) true 56 v d p) :
    ∃ (vs : List Value) (x : Tb), v = .agg vs.toArray ∧ RTb 0 W vs x := by
  obtain ⟨cs, rfl, hsz⟩ := okWide_struct Try.underlying56 hv
  obtain ⟨fuel, hf⟩ := h
  obtain ⟨e, hR⟩ := tb_of_trod fuel _ _ hf
  exact ⟨cs.toList, e, by simp, hR⟩

theorem cellsIndexP : Try.prog.cellsOf 141 = 4 := by kernel_rfl

theorem cellsIndexSP : Try.prog.cellsOf 45 = 1 := by kernel_rfl

theorem lenIx {lo : Nat} {w : World} {vs : List Value} {x : Ix} (h : RIx lo w vs x) : vs.length = 4 := by
  obtain ⟨_, _, rfl, _⟩ := h
  rfl

set_option maxRecDepth 100000 in
theorem ix_of_trod {H : Type} {enc : TypeId × Value → H} {W : World} (fuel : Nat) (cs : List Value) (x : DataW H × List MemPlace) (h : DataW.trod enc Try.prog W 0 (fun _ => true) true fuel 141 cs = some x) : ∃ e : Ix, RIx 0 W cs e := by
  obtain ⟨ys, n, hn, _, hl, hyl, hf⟩ := DataW.trod_struct Try.underlying141 h
  subst hn
  rw [cellsIndexP] at hl
  match cs, hl with
  | [c0, c1, c2, c3], _ =>
    have hs : ys.length = 4 := hyl
    match ys, hs with
    | [y0, y1, y2, y3], _ =>
      have f0 : DataW.trod enc Try.prog W 0 (fun _ => true) true n 9 (([c0, c1, c2, c3].drop 0).take (Try.prog.cellsOf 9)) = some y0 := hf 0 _ rfl
      rw [cellsStrE] at f0
      obtain ⟨s0, e0, _, w0⟩ := DataW.trod_string Try.underlying9 f0
      have f1 : DataW.trod enc Try.prog W 0 (fun _ => true) true n 9 (([c0, c1, c2, c3].drop 1).take (Try.prog.cellsOf 9)) = some y1 := hf 1 _ rfl
      rw [cellsStrE] at f1
      obtain ⟨s1, e1, _, w1⟩ := DataW.trod_string Try.underlying9 f1
      have f2 : DataW.trod enc Try.prog W 0 (fun _ => true) true n 65 (([c0, c1, c2, c3].drop 2).take (Try.prog.cellsOf 65)) = some y2 := hf 2 _ rfl
      rw [cellsStrsP] at f2
      obtain ⟨a2, c2', s2, e2, k2⟩ := ss_of_trod f2
      have f3 : DataW.trod enc Try.prog W 0 (fun _ => true) true n 4 (([c0, c1, c2, c3].drop 3).take (Try.prog.cellsOf 4)) = some y3 := hf 3 _ rfl
      rw [cellsBoolP] at f3
      obtain ⟨s3, e3, _⟩ := DataW.trod_bool Try.underlying4 f3
      simp at e0 e1 e2 e3
      subst e0 e1 e2 e3
      exact ⟨⟨s0, s1, s2, s3⟩, a2, c2', rfl, ⟨w0, w1⟩, k2⟩

set_option maxRecDepth 100000 in
theorem Index_of_trod {H : Type} {enc : TypeId × Value → H} {W : World} {b0 : Nat} {r : Reach} {v : Value} {d : DataW H} {p : List MemPlace}
    (hv : Value.okWide Try.prog W r b0 141 v) (h : DataW.Trod enc Try.prog W 0 (fun _ => true) true 141 v d p) :
    ∃ (vs : List Value) (x : Ix), v = .agg vs.toArray ∧ RIx 0 W vs x := by
  obtain ⟨cs, rfl, hsz⟩ := okWide_struct Try.underlying141 hv
  obtain ⟨fuel, hf⟩ := h
  obtain ⟨e, hR⟩ := ix_of_trod fuel _ _ hf
  exact ⟨cs.toList, e, by simp, hR⟩

theorem cellsViewP : Try.prog.cellsOf 145 = 4 := by kernel_rfl

theorem cellsViewSP : Try.prog.cellsOf 46 = 1 := by kernel_rfl

theorem lenVw {lo : Nat} {w : World} {vs : List Value} {x : Vw} (h : RVw lo w vs x) : vs.length = 4 := by
  obtain ⟨_, _, _, _, rfl, _⟩ := h
  rfl

set_option maxRecDepth 100000 in
theorem vw_of_trod {H : Type} {enc : TypeId × Value → H} {W : World} (fuel : Nat) (cs : List Value) (x : DataW H × List MemPlace) (h : DataW.trod enc Try.prog W 0 (fun _ => true) true fuel 145 cs = some x) : ∃ e : Vw, RVw 0 W cs e := by
  obtain ⟨ys, n, hn, _, hl, hyl, hf⟩ := DataW.trod_struct Try.underlying145 h
  subst hn
  rw [cellsViewP] at hl
  match cs, hl with
  | [c0, c1, c2, c3], _ =>
    have hs : ys.length = 4 := hyl
    match ys, hs with
    | [y0, y1, y2, y3], _ =>
      have f0 : DataW.trod enc Try.prog W 0 (fun _ => true) true n 9 (([c0, c1, c2, c3].drop 0).take (Try.prog.cellsOf 9)) = some y0 := hf 0 _ rfl
      rw [cellsStrE] at f0
      obtain ⟨s0, e0, _, w0⟩ := DataW.trod_string Try.underlying9 f0
      have f1 : DataW.trod enc Try.prog W 0 (fun _ => true) true n 9 (([c0, c1, c2, c3].drop 1).take (Try.prog.cellsOf 9)) = some y1 := hf 1 _ rfl
      rw [cellsStrE] at f1
      obtain ⟨s1, e1, _, w1⟩ := DataW.trod_string Try.underlying9 f1
      have f2 : DataW.trod enc Try.prog W 0 (fun _ => true) true n 65 (([c0, c1, c2, c3].drop 2).take (Try.prog.cellsOf 65)) = some y2 := hf 2 _ rfl
      rw [cellsStrsP] at f2
      obtain ⟨a2, c2', s2, e2, k2⟩ := ss_of_trod f2
      have f3 : DataW.trod enc Try.prog W 0 (fun _ => true) true n 143 (([c0, c1, c2, c3].drop 3).take (Try.prog.cellsOf 143)) = some y3 := hf 3 _ rfl
      rw [cellsKids] at f3
      obtain ⟨a3, c3', s3, e3, k3⟩ := ks_of_trod f3
      simp at e0 e1 e2 e3
      subst e0 e1 e2 e3
      exact ⟨⟨s0, s1, s2, s3⟩, a2, c2', a3, c3', rfl, ⟨w0, w1⟩, k2, k3⟩

set_option maxRecDepth 100000 in
theorem View_of_trod {H : Type} {enc : TypeId × Value → H} {W : World} {b0 : Nat} {r : Reach} {v : Value} {d : DataW H} {p : List MemPlace}
    (hv : Value.okWide Try.prog W r b0 145 v) (h : DataW.Trod enc Try.prog W 0 (fun _ => true) true 145 v d p) :
    ∃ (vs : List Value) (x : Vw), v = .agg vs.toArray ∧ RVw 0 W vs x := by
  obtain ⟨cs, rfl, hsz⟩ := okWide_struct Try.underlying145 hv
  obtain ⟨fuel, hf⟩ := h
  obtain ⟨e, hR⟩ := vw_of_trod fuel _ _ hf
  exact ⟨cs.toList, e, by simp, hR⟩

theorem cellsPlanP : Try.prog.cellsOf 48 = 6 := by kernel_rfl

theorem lenPl {lo : Nat} {w : World} {vs : List Value} {x : Pl} (h : RPl lo w vs x) : vs.length = 6 := by
  obtain ⟨_, _, _, _, _, _, _, _, _, _, rfl, _⟩ := h
  rfl

set_option maxRecDepth 100000 in
theorem pl_of_trod {H : Type} {enc : TypeId × Value → H} {W : World} (fuel : Nat) (cs : List Value) (x : DataW H × List MemPlace) (h : DataW.trod enc Try.prog W 0 (fun _ => true) true fuel 48 cs = some x) : ∃ e : Pl, RPl 0 W cs e := by
  obtain ⟨ys, n, hn, _, hl, hyl, hf⟩ := DataW.trod_struct Try.underlying48 h
  subst hn
  rw [cellsPlanP] at hl
  match cs, hl with
  | [c0, c1, c2, c3, c4, c5], _ =>
    have hs : ys.length = 6 := hyl
    match ys, hs with
    | [y0, y1, y2, y3, y4, y5], _ =>
      have f0 : DataW.trod enc Try.prog W 0 (fun _ => true) true n 42 (([c0, c1, c2, c3, c4, c5].drop 0).take (Try.prog.cellsOf 42)) = some y0 := hf 0 _ rfl
      rw [cellsLabelsSP] at f0
      obtain ⟨a0, c0', s0, e0, k0⟩ := sl_of_trod (R := RLab) Try.underlying42 cellsLabelsP (by omega) (fun h => lenLab h) lab_of_trod f0
      have f1 : DataW.trod enc Try.prog W 0 (fun _ => true) true n 43 (([c0, c1, c2, c3, c4, c5].drop 1).take (Try.prog.cellsOf 43)) = some y1 := hf 1 _ rfl
      rw [cellsSeqSP] at f1
      obtain ⟨a1, c1', s1, e1, k1⟩ := sl_of_trod (R := RSq) Try.underlying43 cellsSeqP (by omega) (fun h => lenSq h) sq_of_trod f1
      have f2 : DataW.trod enc Try.prog W 0 (fun _ => true) true n 44 (([c0, c1, c2, c3, c4, c5].drop 2).take (Try.prog.cellsOf 44)) = some y2 := hf 2 _ rfl
      rw [cellsTableSP] at f2
      obtain ⟨a2, c2', s2, e2, k2⟩ := sl_of_trod (R := RTb) Try.underlying44 cellsTableP (by omega) (fun h => lenTb h) tb_of_trod f2
      have f3 : DataW.trod enc Try.prog W 0 (fun _ => true) true n 45 (([c0, c1, c2, c3, c4, c5].drop 3).take (Try.prog.cellsOf 45)) = some y3 := hf 3 _ rfl
      rw [cellsIndexSP] at f3
      obtain ⟨a3, c3', s3, e3, k3⟩ := sl_of_trod (R := RIx) Try.underlying45 cellsIndexP (by omega) (fun h => lenIx h) ix_of_trod f3
      have f4 : DataW.trod enc Try.prog W 0 (fun _ => true) true n 46 (([c0, c1, c2, c3, c4, c5].drop 4).take (Try.prog.cellsOf 46)) = some y4 := hf 4 _ rfl
      rw [cellsViewSP] at f4
      obtain ⟨a4, c4', s4, e4, k4⟩ := sl_of_trod (R := RVw) Try.underlying46 cellsViewP (by omega) (fun h => lenVw h) vw_of_trod f4
      have f5 : DataW.trod enc Try.prog W 0 (fun _ => true) true n 3 (([c0, c1, c2, c3, c4, c5].drop 5).take (Try.prog.cellsOf 3)) = some y5 := hf 5 _ rfl
      rw [cellsIntE] at f5
      obtain ⟨s5, e5, _, w5⟩ := DataW.trod_int Try.underlying3 f5
      simp at e0 e1 e2 e3 e4 e5
      subst e0 e1 e2 e3 e4 e5
      exact ⟨⟨s0, s1, s2, s3, s4, s5⟩, a0, c0', a1, c1', a2, c2', a3, c3', a4, c4', rfl, i64E_of w5, k0, k1, k2, k3, k4⟩

set_option maxRecDepth 100000 in
theorem Plan_of_trod {H : Type} {enc : TypeId × Value → H} {W : World} {b0 : Nat} {r : Reach} {v : Value} {d : DataW H} {p : List MemPlace}
    (hv : Value.okWide Try.prog W r b0 48 v) (h : DataW.Trod enc Try.prog W 0 (fun _ => true) true 48 v d p) :
    ∃ (vs : List Value) (x : Pl), v = .agg vs.toArray ∧ RPl 0 W vs x := by
  obtain ⟨cs, rfl, hsz⟩ := okWide_struct Try.underlying48 hv
  obtain ⟨fuel, hf⟩ := h
  obtain ⟨e, hR⟩ := pl_of_trod fuel _ _ hf
  exact ⟨cs.toList, e, by simp, hR⟩

end Go.Proofs.Ytefjjcoaeanagaa
