/- spec.PutExpr. -/
import Derived.Test.YtnepfnbmmdcgpaaDoorPutExT
import Derived.Test.YtnepfnbmmdcgpaaDoorShapeE
namespace Go.Proofs.YtnepfnbmmdcgpaaDoor
open Go.RowKit

theorem tE_zero (e : Ex) : tE e 0 = tE e 1 := tE_out (by omega)

set_option maxHeartbeats 1000000 in
theorem specPutExpr (e : Ex) (a : Option Addr) (c d : Nat) (w : World) (hk : KidsAt w d a c e.kids) (hwt : e.wt ≤ 1048576) (r : ByteArray) (hr : putT e = r) :
    Calls Tryd.prog 16 #[.agg #[.int .i64 e.kind, .string e.text, .int .i64 e.num, .slice a e.kids.length c]] w fun x w' => x = .returned (.string r) ∧ Below w.heap.size w w' := by
  have HK := Lib.hid (fun w' hb => hk.below (w' := w') hb)
  have HBX := Lib.hid (fun T => boxK_new w e.kind e.text e.num a e.kids.length c T)
  clear hk
  cases hok : (decide (e.nodes ≤ 40) && shapeE e) with
  | true =>
    have hr2 : tE e 0 = r := by rw [tE_zero, ← hr, putT, if_pos hok]
    have HOK := Lib.hid hok
    have hb := hok
    rw [Bool.and_eq_true, decide_eq_true_eq] at hb
    have HR := Lib.hid hr2
    clear hok hr hr2
    go_enter Tryd.func16, Tryd.ntmps16
    go_wp2_with fail
    refine (specExprOk e a c d _ (HK.out _ (HBX.out _).bel) hwt true HOK.out).mono ?_
    rintro x w2 ⟨rfl, hb2⟩
    have BX := (HBX.out _).below hb2
    obtain ⟨hW1, c0, c1, c2, c3, bW1⟩ := BX
    clear hb2
    go_wp2_with fail
    have hput := specPut d e a c 0 w2 hb.2 hb.1 (by omega) (HK.out _ bW1)
    rw [HR.out] at hput
    refine hput.mono ?_
    rintro x w3 ⟨rfl, hb3⟩
    have B3 := Lib.hid (bW1.trans (hb3.mono bW1.size))
    clear hb3 hput
    go_wp2_with fail
    go_ret
    exact ⟨rfl, B3.out⟩
  | false =>
    have HOK := Lib.hid hok
    have HR : Hid (r = txt []) := by unfold Hid; rw [← hr, putT, if_neg (by rw [hok]; decide)]
    clear hok hr
    go_enter Tryd.func16, Tryd.ntmps16
    go_wp2_with fail
    refine (specExprOk e a c d _ (HK.out _ (HBX.out _).bel) hwt false HOK.out).mono ?_
    rintro x w2 ⟨rfl, hb2⟩
    have B2 := Lib.hid ((HBX.out _).below hb2).bel
    clear hb2
    go_wp2_with fail
    go_ret
    exact ⟨by rw [HR.out]; rfl, B2.out⟩

end Go.Proofs.YtnepfnbmmdcgpaaDoor
