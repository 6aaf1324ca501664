/- The walk of FnExactPutExpr. -/
import Derived.Test.YtnepfnbmmdcgpaaDoorTie
import Derived.Test.YtnepfnbmmdcgpaaDoorPutExU
import Derived.Test.YtnepfnbmmdcgpaaDoorTxtJ
import Derived.Test.YtnepfnbmmdcgpaaDoorExBoxes
import Derived.ProofKit
import Derived.OpenShut
import Derived.ShutString
import Derived.ChangeOld
import Derived.Below
import Derived.LaidMore
import Derived.Lay
import Derived.Lib.LaidTab
import Derived.Stop.LaidErr
import Derived.SevenTiedAt
import Derived.Stop.Joined
import Derived.OpenVars
namespace Go.Proofs.YtnepfnbmmdcgpaaDoor
open Go.ChangeShapes Go.WideShapes Go.ChangeAt Go.RowKit

set_option maxHeartbeats 1000000 in
theorem walkFnExactPutExpr (e : Ex) (a : Option Addr) (c d : Nat) (w : World) (he : e.fit ∧ KidsAt w d a c e.kids) (hL : laidMetH Tryd.prog Rows.fnExactPutExprRow.laid w) :
    Calls Tryd.prog 5 #[e.v a c] w fun x w' => x = .returned (.bool true) ∧ Below w.heap.size w w' := by
  obtain ⟨hfit, hk⟩ := he
  unfold Ex.v
  have HK := Lib.hid (fun w' hb => hk.below (w' := w') hb)
  have HB := Lib.hid (fun T => box4_new w T e a c)
  have hb0 := fun o => (Below.refl w.heap.size w).alloc (Nat.le_refl _) o
  have HB0 := Lib.hid hb0
  have hL2 := laidMet.tail (laidMet.tail (show laidMet Tryd.prog _ w from hL))
  have hp := powTab_of hL2
  have hF := formsAt_of (laidMet.tail hL2)
  have hcell : w.cell? ⟨1, 0, none⟩ = some (.int .u64 (Lib.pow10Tab.getD 0 0)) := hp.cell gPow 0 (by rw [Lib.pow10Tab_length]; omega)
  have hT : Tabs w := ⟨hF, hp, World.block_lt_of_cell? w ⟨1, 0, none⟩ hcell⟩
  have HT := Lib.hid (fun w' hb => hT.below (w' := w') (B := w.heap.size) hb hT.big)
  obtain ⟨r, hr⟩ : ∃ r, putT e = r := ⟨_, rfl⟩
  have HR := Lib.hid hr
  have hne : (!(r.toList == r.toList)) = false := by simp
  clear hk hb0 hL hL2 hp hF hcell hT hr
  go_enter Tryd.func5, Tryd.ntmps5
  go_wp2_with fail
  refine (szEx d e a c 1048576 _ hfit (HK.out _ (HB0.out _)) (by omega) (by omega)).mono ?_
  by_cases h1 : (1048576 : Int) < e.wt
  · rw [show leftN e.wt 1048576 = -1 from if_pos h1]
    rintro x w1 ⟨rfl, b1⟩
    go_wp2_with fail
    go_ret
    exact ⟨rfl, (HB0.out _).trans (b1.mono (by simp))⟩
  · rw [show leftN e.wt 1048576 = 1048576 - e.wt from if_neg h1]
    have hwt : e.wt ≤ 1048576 := by omega
    have hn : e.nodes ≤ 1073741824 := by have := nodes_wt e; omega
    have hd : decide ((1048576 : Int) - e.wt < 0) = false := by simp; omega
    rintro x w1 ⟨rfl, b1⟩
    have B1 := Lib.hid ((HB0.out _).trans (b1.mono (by simp)))
    have X1 := Lib.hid ((HB.out _).below b1)
    obtain ⟨_, c0, c1, c2, c3⟩ := X1.out
    clear b1
    go_wp2_with fail
    refine (toEx d e a c _ hfit hwt (HK.out _ B1.out)).mono ?_
    rintro x w2 ⟨a2, c2', rfl, k2, b2⟩
    have B2 := Lib.hid (B1.out.trans (b2.mono B1.out.size))
    have X2 := Lib.hid (X1.out.below b2)
    clear b2 c0 c1 c2 c3
    have K2 := Lib.hid k2.at
    clear k2
    go_wp2_with fail
    refine (specPutExpr e a2 c2' d _ K2.out hwt r HR.out).mono ?_
    rintro x w3 ⟨rfl, b3⟩
    have B3 := Lib.hid (B2.out.trans (b3.mono B2.out.size))
    have X3 := Lib.hid (X2.out.below b3)
    obtain ⟨_, c0, c1, c2, c3⟩ := X3.out
    clear b3
    go_wp2_with fail
    refine (toEx d e a c _ hfit hwt (HK.out _ B3.out)).mono ?_
    rintro x w4 ⟨a4, c4, rfl, k4, b4⟩
    have B4 := Lib.hid (B3.out.trans (b4.mono B3.out.size))
    have X4 := Lib.hid (X3.out.below b4)
    have K4 := Lib.hid k4.at
    clear b4 c0 c1 c2 c3 k4
    go_wp2_with fail
    have T4 := Lib.hid (Two.new X4.out K4.out B4.out 26)
    refine (implPutExpr e a4 c4 d _ (HT.out _ T4.out.2.2.2) hfit T4.out.2.2.1 hn r HR.out).mono ?_
    rintro x w5 ⟨rfl, b5⟩
    have T5 := Lib.hid (T4.out.below b5)
    clear b5
    have hst : Hid (∀ p q : World, (Cells8 w.heap.size w4.heap.size e a a4 c c4 p ∧ Hid (Two w w4.heap.size e a a4 c c4 d p)) → Below p.heap.size p q → (Cells8 w.heap.size w4.heap.size e a a4 c c4 q ∧ Hid (Two w w4.heap.size e a a4 c c4 d q))) := fun p q h hb => ⟨(h.2.out.below hb).cells, h.2.out.below hb⟩
    unfold Cells8 at hst
    go_wp2_with fail
    go_region_held3 (fun w' => ((w'.cell? ⟨w.heap.size, 0, none⟩ = some (.int .i64 e.kind) ∧ w'.cell? ⟨w.heap.size, 1, none⟩ = some (.string e.text) ∧ w'.cell? ⟨w.heap.size, 2, none⟩ = some (.int .i64 e.num) ∧ w'.cell? ⟨w.heap.size, 3, none⟩ = some (.slice a e.kids.length c)) ∧ (w'.cell? ⟨w4.heap.size, 0, none⟩ = some (.int .i64 e.kind) ∧ w'.cell? ⟨w4.heap.size, 1, none⟩ = some (.string e.text) ∧ w'.cell? ⟨w4.heap.size, 2, none⟩ = some (.int .i64 e.num) ∧ w'.cell? ⟨w4.heap.size, 3, none⟩ = some (.slice a4 e.kids.length c4))) ∧ Hid (Two w w4.heap.size e a a4 c c4 d w')) (first | assumption | exact ⟨T5.out.drew.cells, T5.out.drew⟩)
      (first
        | (go_at_call 14; refine (toEx d e a c _ hfit hwt (HK.out _ (And.right (by assumption : _ ∧ Hid (Two w w4.heap.size e a a4 c c4 d _))).out.2.2.2)).mono ?_; rintro x wq ⟨a6, c6, rfl, k6, bq⟩; have hq := hst.out _ _ (by assumption) bq; have K6 := Lib.hid k6.at; clear k6)
        | (go_at_call 15; refine (eqEx d e a4 a6 c4 c6 _ hq.2.out.2.2.1 K6.out).mono ?_; rintro x wz ⟨rfl, bz⟩; have hz := hst.out _ _ (by assumption) bz; have T9 := Lib.hid hz.2.out))
    go_wp2_with fail
    go_ret
    exact ⟨rfl, T9.out.2.2.2⟩

end Go.Proofs.YtnepfnbmmdcgpaaDoor
