/- How a type among a law's arguments is opened. -/
import Derived.Test.YtefjjcoaeanagaaTyp
import Derived.Test.YtefjjcoaeanagaaOpen
import Derived.Lib.SmallJoins
import Derived.Deep.Strs
namespace Go.Proofs.Ytefjjcoaeanagaa
open Go.ChangeShapes Go.WideShapes Go.ChangeAt Go.RowKit

theorem cellsType : Try.prog.cellsOf 155 = 3 := by kernel_rfl
theorem cellsIntT : Try.prog.cellsOf 3 = 1 := by kernel_rfl
theorem cellsStrT : Try.prog.cellsOf 9 = 1 := by kernel_rfl

set_option maxRecDepth 100000 in
theorem Type_of_trod {H : Type} {enc : TypeId × Value → H} {W : World} {base b0 : Nat} {r : Reach} {v : Value} {d : DataW H} {p : List MemPlace}
    (hv : Value.okWide Try.prog W r b0 155 v) (h : DataW.Trod enc Try.prog W base (fun _ => true) true 155 v d p) :
    ∃ t : Ty, v = t.v ∧ t.ok := by
  obtain ⟨cs, rfl, hsz⟩ := okWide_struct Try.underlying155 hv
  obtain ⟨fuel, hf⟩ := h
  obtain ⟨ys, m, _, hx, hl, hyl, hf⟩ := DataW.trod_struct Try.underlying155 hf
  obtain ⟨l⟩ := cs
  match l, hsz.trans cellsType with
  | [c0, c1, c2], _ =>
    have hs : ys.length = 3 := hyl
    match ys, hs with
    | [y0, y1, y2], _ =>
      have f0 : DataW.trod enc Try.prog W base (fun _ => true) true m 3 (([c0, c1, c2].drop 0).take (Try.prog.cellsOf 3)) = some y0 := hf 0 _ rfl
      have f1 : DataW.trod enc Try.prog W base (fun _ => true) true m 3 (([c0, c1, c2].drop 1).take (Try.prog.cellsOf 3)) = some y1 := hf 1 _ rfl
      have f2 : DataW.trod enc Try.prog W base (fun _ => true) true m 9 (([c0, c1, c2].drop 2).take (Try.prog.cellsOf 9)) = some y2 := hf 2 _ rfl
      rw [cellsIntT] at f0 f1
      rw [cellsStrT] at f2
      obtain ⟨k, e0, x0, w0⟩ := DataW.trod_int Try.underlying3 f0
      obtain ⟨l, e1, x1, w1⟩ := DataW.trod_int Try.underlying3 f1
      obtain ⟨s, e2, x2, w2⟩ := DataW.trod_string Try.underlying9 f2
      simp at e0 e1 e2
      subst e0 e1 e2
      exact ⟨⟨k, l, s⟩, rfl, w2, w0, w1⟩

end Go.Proofs.Ytefjjcoaeanagaa
