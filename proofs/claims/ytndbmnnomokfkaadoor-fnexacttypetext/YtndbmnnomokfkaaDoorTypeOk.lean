/- The forms' fits, and the model's TypeOk. -/
import Derived.Test.YtndbmnnomokfkaaDoorForms
import Derived.Test.YtndbmnnomokfkaaDoorNameSpec
import Derived.Test.YtndbmnnomokfkaaDoorNameImpl
import Derived.Test.YtndbmnnomokfkaaDoorTyp2
namespace Go.Proofs.YtndbmnnomokfkaaDoor
open Go.RowKit

/-- A type fits a form. -/
def fitsB (mn mx : Int) (nm : Bool) (l : Int) (s : ByteArray) : Bool :=
  if l < mn then false else if mx < l then false else if nm then nameB s.data.toList else s.toList.isEmpty

def typeOkB (k l : Int) (s : ByteArray) : Bool :=
  if k = 0 ∨ k = 1 ∨ k = 2 then (l == 0) && s.toList.isEmpty else if k = 3 then inI l 1 100 && s.toList.isEmpty else if k = 4 then (l == 0) && nameB s.data.toList else false

set_option maxHeartbeats 1000000 in
theorem implFits (f : ByteArray) (mn mx : Int) (nm : Bool) (k l : Int) (s : ByteArray) (w : World) (v : Bool) (hv : fitsB mn mx nm l s = v) :
    Calls Tryd.prog 12 #[.agg #[.string f, .int .i64 mn, .int .i64 mx, .bool nm], .agg #[.int .i64 k, .int .i64 l, .string s]] w fun e w' => e = .returned (.bool v) ∧ Below w.heap.size w w' := by
  by_cases h1 : l < mn
  · have HV : Hid (v = false) := by unfold Hid; rw [← hv, fitsB, if_pos h1]
    have f1 : decide (l < mn) = true := decide_eq_true h1
    clear hv h1
    go_enter Tryd.func12, Tryd.ntmps12
    go_wp2_with fail
    go_ret
    exact ⟨by rw [HV.out]; rfl, below2 _ _ _⟩
  · have f1 : decide (l < mn) = false := decide_eq_false h1
    by_cases h2 : mx < l
    · have HV : Hid (v = false) := by unfold Hid; rw [← hv, fitsB, if_neg h1, if_pos h2]
      have f2 : decide (mx < l) = true := decide_eq_true h2
      clear hv h1 h2
      go_enter Tryd.func12, Tryd.ntmps12
      go_wp2_with fail
      go_ret
      exact ⟨by rw [HV.out]; rfl, below2 _ _ _⟩
    · have f2 : decide (mx < l) = false := decide_eq_false h2
      cases nm with
      | true =>
        have HV : Hid (nameB s.data.toList = v) := by unfold Hid; rw [← hv, fitsB, if_neg h1, if_neg h2]; rfl
        clear hv h1 h2
        go_enter Tryd.func12, Tryd.ntmps12
        go_wp2_with fail
        refine (implNameOk s _ v HV.out).mono ?_
        rintro e w1 ⟨rfl, rfl⟩
        go_wp2_with fail
        go_ret
        exact ⟨rfl, below2 _ _ _⟩
      | false =>
        have HV : Hid (v = s.toList.isEmpty) := by unfold Hid; rw [← hv, fitsB, if_neg h1, if_neg h2]; rfl
        clear hv h1 h2
        go_enter Tryd.func12, Tryd.ntmps12
        go_wp2_with fail
        go_ret
        exact ⟨by rw [HV.out]; rfl, below2 _ _ _⟩

theorem typeOk_eq (k l : Int) (s : ByteArray) (h : 0 ≤ k ∧ k ≤ 4) : ∃ f mn mx nm, formOf k = .agg #[.string f, .int .i64 mn, .int .i64 mx, .bool nm] ∧ fitsB mn mx nm l s = typeOkB k l s := by
  have hc : k = 0 ∨ k = 1 ∨ k = 2 ∨ k = 3 ∨ k = 4 := by omega
  have h00 : ∀ c : Bool, (if l < 0 then false else if 0 < l then false else c) = ((l == 0) && c) := fun c => by
    by_cases a : l < 0
    · rw [if_pos a, show (l == 0) = false by rw [beq_eq_false_iff_ne]; omega]; rfl
    · rw [if_neg a]
      by_cases b : 0 < l
      · rw [if_pos b, show (l == 0) = false by rw [beq_eq_false_iff_ne]; omega]; rfl
      · rw [if_neg b, show (l == 0) = true by rw [beq_iff_eq]; omega]; rfl
  have h11 : ∀ c : Bool, (if l < 1 then false else if 100 < l then false else c) = (inI l 1 100 && c) := fun c => by
    unfold inI
    by_cases a : l < 1
    · rw [if_pos a, decide_eq_false (by omega : ¬ 1 ≤ l)]; rfl
    · rw [if_neg a, decide_eq_true (by omega : 1 ≤ l)]
      by_cases b : 100 < l
      · rw [if_pos b, decide_eq_false (by omega : ¬ l ≤ 100)]; rfl
      · rw [if_neg b, decide_eq_true (by omega : l ≤ 100)]; rfl
  rcases hc with rfl | rfl | rfl | rfl | rfl
  · exact ⟨_, _, _, _, rfl, h00 _⟩
  · exact ⟨_, _, _, _, rfl, h00 _⟩
  · exact ⟨_, _, _, _, rfl, h00 _⟩
  · exact ⟨_, _, _, _, rfl, h11 _⟩
  · exact ⟨_, _, _, _, rfl, h00 _⟩

set_option maxHeartbeats 4000000 in
theorem specTypeOk (k l : Int) (s : ByteArray) (w : World) (hs : s.size ≤ 1048576) (v : Bool) (hv : typeOkB k l s = v) :
    Calls Tryd.prog 8 #[.agg #[.int .i64 k, .int .i64 l, .string s]] w fun e w' => e = .returned (.bool v) ∧ Below w.heap.size w w' := by
  have b1 : Below w.heap.size w (w.alloc (.cells #[.int .i64 k, .int .i64 l, .string s] 26)) := (Below.refl _ _).alloc (Nat.le_refl _) _
  have HB := Lib.hid b1
  clear b1
  by_cases hk : 0 ≤ k ∧ k ≤ 4
  · have hc : k = 0 ∨ k = 1 ∨ k = 2 ∨ k = 3 ∨ k = 4 := by omega
    clear hk
    rcases hc with rfl | rfl | rfl | rfl | rfl
    · cases h1 : (l == 0) with
      | false =>
        have HV : Hid (v = false) := by unfold Hid; rw [← hv]; show ((l == 0) && _) = _; rw [h1]; rfl
        clear hv
        go_enter Tryd.func8, Tryd.ntmps8
        go_wp2_with fail
        refine (specInIs _ 0 4 _ true (by decide)).mono ?_
        rintro e w1 ⟨rfl, rfl⟩
        go_wp2_with fail
        go_ret
        exact ⟨by rw [HV.out]; rfl, HB.out⟩
      | true =>
        have HV : Hid (v = s.toList.isEmpty) := by unfold Hid; rw [← hv]; show ((l == 0) && _) = _; rw [h1]; rfl
        clear hv
        go_enter Tryd.func8, Tryd.ntmps8
        go_wp2_with fail
        refine (specInIs _ 0 4 _ true (by decide)).mono ?_
        rintro e w1 ⟨rfl, rfl⟩
        go_wp2_with fail
        go_ret
        exact ⟨by rw [HV.out]; rfl, HB.out⟩
    · cases h1 : (l == 0) with
      | false =>
        have HV : Hid (v = false) := by unfold Hid; rw [← hv]; show ((l == 0) && _) = _; rw [h1]; rfl
        clear hv
        go_enter Tryd.func8, Tryd.ntmps8
        go_wp2_with fail
        refine (specInIs _ 0 4 _ true (by decide)).mono ?_
        rintro e w1 ⟨rfl, rfl⟩
        go_wp2_with fail
        go_ret
        exact ⟨by rw [HV.out]; rfl, HB.out⟩
      | true =>
        have HV : Hid (v = s.toList.isEmpty) := by unfold Hid; rw [← hv]; show ((l == 0) && _) = _; rw [h1]; rfl
        clear hv
        go_enter Tryd.func8, Tryd.ntmps8
        go_wp2_with fail
        refine (specInIs _ 0 4 _ true (by decide)).mono ?_
        rintro e w1 ⟨rfl, rfl⟩
        go_wp2_with fail
        go_ret
        exact ⟨by rw [HV.out]; rfl, HB.out⟩
    · cases h1 : (l == 0) with
      | false =>
        have HV : Hid (v = false) := by unfold Hid; rw [← hv]; show ((l == 0) && _) = _; rw [h1]; rfl
        clear hv
        go_enter Tryd.func8, Tryd.ntmps8
        go_wp2_with fail
        refine (specInIs _ 0 4 _ true (by decide)).mono ?_
        rintro e w1 ⟨rfl, rfl⟩
        go_wp2_with fail
        go_ret
        exact ⟨by rw [HV.out]; rfl, HB.out⟩
      | true =>
        have HV : Hid (v = s.toList.isEmpty) := by unfold Hid; rw [← hv]; show ((l == 0) && _) = _; rw [h1]; rfl
        clear hv
        go_enter Tryd.func8, Tryd.ntmps8
        go_wp2_with fail
        refine (specInIs _ 0 4 _ true (by decide)).mono ?_
        rintro e w1 ⟨rfl, rfl⟩
        go_wp2_with fail
        go_ret
        exact ⟨by rw [HV.out]; rfl, HB.out⟩
    · cases h1 : inI l 1 100 with
      | false =>
        have HV : Hid (v = false) := by unfold Hid; rw [← hv]; show (inI l 1 100 && _) = _; rw [h1]; rfl
        have H1 := Lib.hid h1
        clear hv h1
        go_enter Tryd.func8, Tryd.ntmps8
        go_wp2_with fail
        refine (specInIs _ 0 4 _ true (by decide)).mono ?_
        rintro e w1 ⟨rfl, rfl⟩
        go_wp2_with fail
        refine (specInIs _ 1 100 _ false H1.out).mono ?_
        rintro e w1 ⟨rfl, rfl⟩
        go_wp2_with fail
        go_ret
        exact ⟨by rw [HV.out]; rfl, HB.out⟩
      | true =>
        have HV : Hid (v = s.toList.isEmpty) := by unfold Hid; rw [← hv]; show (inI l 1 100 && _) = _; rw [h1]; rfl
        have H1 := Lib.hid h1
        clear hv h1
        go_enter Tryd.func8, Tryd.ntmps8
        go_wp2_with fail
        refine (specInIs _ 0 4 _ true (by decide)).mono ?_
        rintro e w1 ⟨rfl, rfl⟩
        go_wp2_with fail
        refine (specInIs _ 1 100 _ true H1.out).mono ?_
        rintro e w1 ⟨rfl, rfl⟩
        go_wp2_with fail
        go_ret
        exact ⟨by rw [HV.out]; rfl, HB.out⟩
    · cases h1 : (l == 0) with
      | false =>
        have HV : Hid (v = false) := by unfold Hid; rw [← hv]; show ((l == 0) && _) = _; rw [h1]; rfl
        clear hv
        go_enter Tryd.func8, Tryd.ntmps8
        go_wp2_with fail
        refine (specInIs _ 0 4 _ true (by decide)).mono ?_
        rintro e w1 ⟨rfl, rfl⟩
        go_wp2_with fail
        go_ret
        exact ⟨by rw [HV.out]; rfl, HB.out⟩
      | true =>
        cases h2 : nameB s.data.toList with
        | false =>
          have HV : Hid (v = false) := by unfold Hid; rw [← hv]; show ((l == 0) && _) = _; rw [h1, h2]; rfl
          have H2 := Lib.hid h2
          clear hv h2
          go_enter Tryd.func8, Tryd.ntmps8
          go_wp2_with fail
          refine (specInIs _ 0 4 _ true (by decide)).mono ?_
          rintro e w1 ⟨rfl, rfl⟩
          go_wp2_with fail
          refine (specNameOk s _ hs false H2.out).mono ?_
          rintro e w1 ⟨rfl, rfl⟩
          go_wp2_with fail
          go_ret
          exact ⟨by rw [HV.out]; rfl, HB.out⟩
        | true =>
          have HV : Hid (v = true) := by unfold Hid; rw [← hv]; show ((l == 0) && _) = _; rw [h1, h2]; rfl
          have H2 := Lib.hid h2
          clear hv h2
          go_enter Tryd.func8, Tryd.ntmps8
          go_wp2_with fail
          refine (specInIs _ 0 4 _ true (by decide)).mono ?_
          rintro e w1 ⟨rfl, rfl⟩
          go_wp2_with fail
          refine (specNameOk s _ hs true H2.out).mono ?_
          rintro e w1 ⟨rfl, rfl⟩
          go_wp2_with fail
          go_ret
          exact ⟨by rw [HV.out]; rfl, HB.out⟩
  · have HV : Hid (v = false) := by
      unfold Hid
      rw [← hv, typeOkB, if_neg (by omega), if_neg (by omega), if_neg (by omega)]
    have HI : Hid (inI k 0 4 = false) := by
      unfold Hid inI
      rw [Bool.and_eq_false_iff, decide_eq_false_iff_not, decide_eq_false_iff_not]
      omega
    clear hv hk
    go_enter Tryd.func8, Tryd.ntmps8
    go_wp2_with fail
    refine (specInIs _ 0 4 _ false HI.out).mono ?_
    rintro e w1 ⟨rfl, rfl⟩
    go_wp2_with fail
    go_ret
    exact ⟨by rw [HV.out]; rfl, HB.out⟩

end Go.Proofs.YtndbmnnomokfkaaDoor
