/- How a type among a law's arguments is opened. -/
import Derived.Test.YtndbmnnomokfkaaDoorTyp
import Derived.Test.YtndbmnnomokfkaaDoorOpen
import Derived.Lib.SmallJoins
import Derived.Deep.Strs
namespace Go.Proofs.YtndbmnnomokfkaaDoor
open Go.ChangeShapes Go.WideShapes Go.ChangeAt Go.RowKit

theorem cellsType : Tryd.prog.cellsOf 23 = 3 := by kernel_rfl
theorem cellsIntT : Tryd.prog.cellsOf 3 = 1 := by kernel_rfl
theorem cellsStrT : Tryd.prog.cellsOf 9 = 1 := by kernel_rfl

theorem Type_of_trod {H : Type} {enc : TypeId × Value → H} {W : World} {base b0 : Nat} {r : Reach} {v : Value} {d : DataW H} {p : List MemPlace}
    (hv : Value.okWide Tryd.prog W r b0 23 v) (h : DataW.Trod enc Tryd.prog W base (fun _ => true) true 23 v d p) :
    ∃ t : Ty, v = t.v ∧ t.ok := by
  obtain ⟨cs, rfl, hsz⟩ := okWide_struct Tryd.underlying23 hv
  obtain ⟨fuel, hf⟩ := h
  obtain ⟨ys, m, _, hx, hl, hyl, hf⟩ := DataW.trod_struct Tryd.underlying23 hf
  obtain ⟨l⟩ := cs
  match l, hsz.trans cellsType with
  | [c0, c1, c2], _ =>
    have hs : ys.length = 3 := hyl
    match ys, hs with
    | [y0, y1, y2], _ =>
      have f0 : DataW.trod enc Tryd.prog W base (fun _ => true) true m 3 (([c0, c1, c2].drop 0).take (Tryd.prog.cellsOf 3)) = some y0 := hf 0 _ rfl
      have f1 : DataW.trod enc Tryd.prog W base (fun _ => true) true m 3 (([c0, c1, c2].drop 1).take (Tryd.prog.cellsOf 3)) = some y1 := hf 1 _ rfl
      have f2 : DataW.trod enc Tryd.prog W base (fun _ => true) true m 9 (([c0, c1, c2].drop 2).take (Tryd.prog.cellsOf 9)) = some y2 := hf 2 _ rfl
      rw [cellsIntT] at f0 f1
      rw [cellsStrT] at f2
      obtain ⟨k, e0, x0, w0⟩ := DataW.trod_int Tryd.underlying3 f0
      obtain ⟨l, e1, x1, w1⟩ := DataW.trod_int Tryd.underlying3 f1
      obtain ⟨s, e2, x2, w2⟩ := DataW.trod_string Tryd.underlying9 f2
      simp at e0 e1 e2
      subst e0 e1 e2
      exact ⟨⟨k, l, s⟩, rfl, w2, w0, w1⟩

end Go.Proofs.YtndbmnnomokfkaaDoor
