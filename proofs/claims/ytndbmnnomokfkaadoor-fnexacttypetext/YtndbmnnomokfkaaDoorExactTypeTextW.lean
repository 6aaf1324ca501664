/- The walk of FnExactTypeText. -/
import Derived.Test.YtndbmnnomokfkaaDoorCards
import Derived.Test.YtndbmnnomokfkaaDoorTie
import Derived.Test.YtndbmnnomokfkaaDoorTypeTextJ
import Derived.Test.YtndbmnnomokfkaaDoorOpenType
import Derived.ProofKit
import Derived.OpenShut
import Derived.ShutString
import Derived.ChangeOld
import Derived.Below
import Derived.LaidMore
import Derived.Lay
import Derived.Lib.LaidTab
import Derived.Stop.LaidErr
import Derived.SevenTiedAt
import Derived.Stop.Joined
namespace Go.Proofs.YtndbmnnomokfkaaDoor
open Go.ChangeShapes Go.WideShapes Go.ChangeAt Go.RowKit

theorem implTypeText (k l : Int) (s : ByteArray) (w : World) (hs : s.size ≤ 1048576) (hk : (Lit.int .i64 k).wf = true)
    (HT : Hid (∀ W : World, Below w.heap.size w W → Lib.TabIs Tryd.prog W "internal/strconv.uint64pow10" .u64 Lib.pow10Tab)) (r : ByteArray) (hr : typeTextT k l s = r) :
    Calls Tryd.prog 7 #[.agg #[.int .i64 k, .int .i64 l, .string s]] w fun e w' => e = .returned (.string r) ∧ Below w.heap.size w w' := by
  by_cases hin : 0 ≤ k ∧ k ≤ 4
  · obtain ⟨f, mn, mx, nm, hf, hfit, hfz, hch, htx⟩ := typeText_eq k l s hin
    have hd : decide (0 ≤ k ∧ k ≤ 4) = true := decide_eq_true hin
    have HL : Hid (∀ (W : World) (b : Nat), W.ownsMap Tryd.prog 3 formR b 5 formsD → (Instr.lookup 35 (.map (some b)) (.int .i64 k) true).run Tryd.prog W = .ok (.tuple #[.agg #[.string f, .int .i64 mn, .int .i64 mx, .bool nm], .bool true]) W) :=
      fun W b h => by rw [lookForm h k hk, hf, hd]
    cases hok : typeOkB k l s with
    | false =>
      exact typeTextBad k l s w hs f mn mx nm hfz r HL (hfit.trans hok) (by unfold Hid; rw [← hr, typeTextT, if_pos hok])
    | true =>
      have ht := htx hok
      rw [hr] at ht
      unfold formText at ht
      by_cases hm : 0 < mx
      · have hl := hch hm hok
        rw [if_pos hm] at ht
        exact typeTextChar k l s w hs f mn mx nm hfz r HL (hfit.trans hok) (decide_eq_true hm) (by omega) (by omega) _ (dec_size l (by omega) (by omega)) rfl ht.symm HT
      · rw [if_neg hm] at ht
        cases nm with
        | true => exact typeTextEnum k l s w hs f mn mx hfz r HL (hfit.trans hok) (decide_eq_false hm) _ (nameT_size s) rfl ht.symm
        | false => exact typeTextWord k l s w hs f mn mx hfz r HL (hfit.trans hok) (decide_eq_false hm) ht.symm
  · have hd : decide (0 ≤ k ∧ k ≤ 4) = false := decide_eq_false hin
    have hf : formOf k = .agg #[.string ⟨#[]⟩, .int .i64 0, .int .i64 0, .bool false] := by
      unfold formOf
      rw [if_neg (by omega), if_neg (by omega), if_neg (by omega), if_neg (by omega), if_neg (by omega)]
      rfl
    have hok : typeOkB k l s = false := by rw [typeOkB, if_neg (by omega), if_neg (by omega), if_neg (by omega)]
    exact typeTextNone k l s w hs ⟨#[]⟩ 0 0 false (by decide) r (fun W b h => by rw [lookForm h k hk, hf, hd]) (by unfold Hid; rw [← hr, typeTextT, if_pos hok])

set_option maxHeartbeats 1000000 in
theorem walkFnExactTypeText (t : Ty) (w : World) (ht : t.ok) (hL : laidMetH Tryd.prog Rows.fnExactTypeTextRow.laid w) :
    Calls Tryd.prog 3 #[t.v] w fun e w' => e = .returned (.bool true) ∧ Below w.heap.size w w' := by
  have hp := powTab_of (laidMet.tail (laidMet.tail (show laidMet Tryd.prog _ w from hL)))
  have hcell : w.cell? ⟨0, 0, none⟩ = some (.int .u64 (Lib.pow10Tab.getD 0 0)) := hp.cell gPow 0 (by rw [Lib.pow10Tab_length]; omega)
  have hlt2 : 0 < w.heap.size := by
    rcases Nat.lt_or_ge 0 w.heap.size with h | h
    · exact h
    · simp [World.cell?, Array.getElem?_eq_none h] at hcell
  have HT : Hid (∀ W : World, Below w.heap.size w W → Lib.TabIs Tryd.prog W "internal/strconv.uint64pow10" .u64 Lib.pow10Tab) := fun W hB => var?_below hB gPow hlt2 hp
  clear hp hcell hlt2 hL
  obtain ⟨k, l, s⟩ := t
  obtain ⟨hs, hk, _⟩ := ht
  simp only [Ty.v] at *
  have hlay := Lib.hid (lay1_new w 23 k l s)
  by_cases h1 : (1048576 : Int) - s.size < 0
  · go_enter Tryd.func3, Tryd.ntmps3
    go_wp2_with fail
    refine (szTy k l s 1048576 _ hs (by omega) (by omega)).mono ?_
    rintro e w1 ⟨rfl, b1⟩
    rw [if_pos (by omega)]
    go_wp2_with fail
    go_ret
    exact ⟨rfl, (hlay.out.below b1).2.2⟩
  · have hsz : s.size ≤ 1048576 := by omega
    have hsp := fun w => specTypeText k l s w hsz _ rfl
    have him := fun W HT => implTypeText k l s W hsz hk HT _ rfl
    generalize typeTextT k l s = r at hsp him
    have hbb : (!(r.toList == r.toList)) = false := by simp
    have HI := Lib.hid him
    clear him
    go_enter Tryd.func3, Tryd.ntmps3
    go_wp2_with fail
    refine (szTy k l s 1048576 _ hs (by omega) (by omega)).mono ?_
    rintro e w1 ⟨rfl, b1⟩
    rw [if_neg (by omega)]
    have hd : decide ((1048576 : Int) - s.size < 0) = false := by simp; omega
    have L1 := Lib.hid (hlay.out.below b1)
    obtain ⟨⟨c0, c1, c2⟩, _, _⟩ := L1.out
    clear b1 h1
    go_wp2_with fail
    refine (toTy k l s _).mono ?_
    rintro e w2 ⟨rfl, b2⟩
    have L2 := Lib.hid (L1.out.below b2)
    clear b2 c0 c1 c2
    go_wp2_with fail
    refine (hsp _).mono ?_
    rintro e w3 ⟨rfl, b3⟩
    have L3 := Lib.hid (L2.out.below b3)
    obtain ⟨⟨c0, c1, c2⟩, _, _⟩ := L3.out
    clear b3
    go_wp2_with fail
    refine (toTy k l s _).mono ?_
    rintro e w4 ⟨rfl, b4⟩
    have L4 := Lib.hid (L3.out.below b4)
    clear b4 c0 c1 c2
    go_wp2_with fail
    refine (HI.out w4 (fun W hB => HT.out W (L4.out.2.2.trans (hB.mono L4.out.2.2.size)))).mono ?_
    rintro e w5 ⟨rfl, b5⟩
    have L5 := Lib.hid (L4.out.below b5)
    clear b5
    go_wp2_with fail
    go_ret
    exact ⟨rfl, L5.out.2.2⟩

end Go.Proofs.YtndbmnnomokfkaaDoor
