/- The model's ExprOk. -/
import Derived.Test.YtefjjcoaeanagaaDoorShapeS
namespace Go.Proofs.YtefjjcoaeanagaaDoor
open Go.RowKit

set_option maxHeartbeats 1000000 in
theorem specExprOk (e : Ex) (a : Option Addr) (c d : Nat) (w : World) (hk : KidsAt w d a c e.kids) (hwt : e.wt ≤ 1048576) (v : Bool) (hv : (decide (e.nodes ≤ 40) && shapeE e) = v) :
    Calls Tryd.prog 11 #[.agg #[.int .i64 e.kind, .string e.text, .int .i64 e.num, .slice a e.kids.length c]] w fun x w' => x = .returned (.bool v) ∧ Below w.heap.size w w' := by
  have hwe := Ex.wt_eq e
  have hnw := nodes_wt e
  have HE := Lib.hid (Ex.eta e)
  have HK := Lib.hid (fun w' hb => hk.below (w' := w') hb)
  have HBX := Lib.hid (fun T => boxK_new w e.kind e.text e.num a e.kids.length c T)
  clear hk
  by_cases hn : e.nodes ≤ 40
  · rw [decide_eq_true hn, Bool.true_and] at hv
    have hd : decide ((e.nodes : Int) ≤ 40) = true := by simp; omega
    subst hv
    go_enter Tryd.func11, Tryd.ntmps11
    go_wp2_with fail
    refine (specNodes d e a c _ (by omega) (HK.out _ (HBX.out _).bel)).mono ?_
    rintro x w2 ⟨rfl, hb2⟩
    have BX := (HBX.out _).below hb2
    obtain ⟨hW1, c0, c1, c2, c3, bW1⟩ := BX
    clear hb2
    go_wp2_with fail
    refine (specShape d e.kind e.text e.num e.kids a c _ (by omega) (by omega) (HK.out _ bW1)).mono ?_
    rw [← HE.out]
    rintro x w3 ⟨rfl, hb3⟩
    have B3 := Lib.hid (bW1.trans (hb3.mono bW1.size))
    clear hb3
    cases hs : shapeE e with
    | true => go_wp2_with fail; go_ret; exact ⟨by rw [hs]; rfl, B3.out⟩
    | false => go_wp2_with fail; go_ret; exact ⟨by rw [hs]; rfl, B3.out⟩
  · rw [decide_eq_false hn, Bool.false_and] at hv
    have hd : decide ((e.nodes : Int) ≤ 40) = false := by simp; omega
    subst hv
    go_enter Tryd.func11, Tryd.ntmps11
    go_wp2_with fail
    refine (specNodes d e a c _ (by omega) (HK.out _ (HBX.out _).bel)).mono ?_
    rintro x w2 ⟨rfl, hb2⟩
    have B2 := Lib.hid ((HBX.out _).below hb2).bel
    clear hb2
    go_wp2_with fail
    go_ret
    exact ⟨rfl, B2.out⟩

end Go.Proofs.YtefjjcoaeanagaaDoor
