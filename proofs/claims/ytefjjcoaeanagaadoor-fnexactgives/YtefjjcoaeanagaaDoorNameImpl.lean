/- The program's names: impl.NameOk. -/
import Derived.Test.YtefjjcoaeanagaaDoorMLexM
import Derived.Test.YtefjjcoaeanagaaDoorMBytes
import Derived.Test.YtefjjcoaeanagaaDoorShelf
import Derived.IntWalk
namespace Go.Proofs.YtefjjcoaeanagaaDoor
open Go.RowKit

theorem index_lt (l : List UInt8) (c : UInt8) : -1 ≤ Lib.indexByte l c ∧ (Lib.indexByte l c < 0 ↔ l.contains c = false) := by
  induction l with
  | nil => simp [Lib.indexByte]
  | cons b r ih =>
    rw [Lib.indexByte]
    by_cases h : b = c
    · subst h; simp
    · have hb : (b == c) = false := by simpa using h
      rw [hb]
      simp only [Bool.false_eq_true, if_false]
      have hc : (b :: r).contains c = r.contains c := by
        rw [List.contains_cons]
        have : (c == b) = false := by simpa using fun e => h e.symm
        rw [this]; rfl
      rw [hc]
      by_cases h1 : Lib.indexByte r c = -1
      · rw [if_pos (by simpa using h1)]
        exact ⟨by omega, by rw [← ih.2]; omega⟩
      · rw [if_neg (by simpa using h1)]
        exact ⟨by omega, by rw [← ih.2]; omega⟩

theorem name_eq (s : ByteArray) : nameB s.data.toList = (!s.toList.isEmpty && (decide ((s.size : Int) ≤ 40) && decide (Lib.indexByte s.data.toList 0 < 0))) := by
  have hl : s.data.toList.length = s.size := by simp
  have hi := (index_lt s.data.toList 0).2
  rw [Bool.eq_iff_iff]
  unfold nameB
  simp only [Bool.and_eq_true, decide_eq_true_eq, Bool.not_eq_true', Lib.toList_data]
  rw [hi, hl]
  constructor
  · rintro ⟨⟨h1, h2⟩, h3⟩
    refine ⟨?_, by omega, h3⟩
    rw [List.isEmpty_eq_false_iff]
    intro e
    rw [e] at hl
    simp at hl
    omega
  · rintro ⟨h1, h2, h3⟩
    rw [List.isEmpty_eq_false_iff] at h1
    have : 0 < s.data.toList.length := List.length_pos_iff.2 h1
    exact ⟨⟨by omega, by omega⟩, h3⟩

set_option maxHeartbeats 1000000 in
theorem implNameFits (s : ByteArray) (w : World) (v : Bool) (hv : nameB s.data.toList = v) :
    Calls Tryd.prog 110 #[.string s] w fun e w' => e = .returned (.bool v) ∧ w = w' := by
  rw [name_eq] at hv
  have HI : Hid (∀ W, Calls Tryd.prog 114 #[.string s, .int .u8 0] W fun e w' => e = .returned (.int .i64 (Lib.indexByte s.data.toList 0)) ∧ W = w') := fun W =>
    (Tryd.strings_IndexByte s 0 W).mono fun e w' ⟨he, hw⟩ => ⟨he, hw.symm⟩
  generalize Lib.indexByte s.data.toList 0 = ix at hv HI
  cases h1 : s.toList.isEmpty with
  | true =>
    have hse : s.toList = [] := List.isEmpty_iff.1 h1
    have hv' : v = false := by rw [← hv, h1]; rfl
    have HV := Lib.hid hv'
    have hn : (!(s.toList == [])) = false := by rw [hse]; rfl
    clear hv hv' hse
    go_enter Tryd.func110, Tryd.ntmps110
    go_wp2_with fail
    go_ret
    exact ⟨by rw [HV.out]; rfl, rfl⟩
  | false =>
    by_cases h2 : (s.size : Int) ≤ 40
    · have hv' : v = decide (ix < 0) := by rw [← hv, h1]; simp [h2]
      have HV := Lib.hid hv'
      have hn : (!(s.toList == [])) = true := by
        have : s.toList ≠ [] := by intro e; rw [e] at h1; cases h1
        simpa using this
      clear hv hv'
      go_enter Tryd.func110, Tryd.ntmps110
      go_wp2_with fail
      refine (HI.out _).mono ?_
      rintro e w1 ⟨rfl, rfl⟩
      go_wp2_with fail
      go_ret
      exact ⟨by rw [HV.out]; rfl, rfl⟩
    · have hv' : v = false := by rw [← hv, h1]; simp [h2]
      have HV := Lib.hid hv'
      have ht : decide ((s.size : Int) ≤ 40) = false := by simpa using h2
      have hn : (!(s.toList == [])) = true := by
        have : s.toList ≠ [] := by intro e; rw [e] at h1; cases h1
        simpa using this
      clear hv hv'
      go_enter Tryd.func110, Tryd.ntmps110
      go_wp2_with fail
      go_ret
      exact ⟨by rw [HV.out]; rfl, rfl⟩

theorem implNameOk (s : ByteArray) (w : World) (v : Bool) (hv : nameB s.data.toList = v) :
    Calls Tryd.prog 98 #[.string s] w fun e w' => e = .returned (.bool v) ∧ w = w' := by
  go_enter Tryd.func98, Tryd.ntmps98
  go_wp2_with fail
  refine (implNameFits s _ v hv).mono ?_
  rintro e w' ⟨rfl, rfl⟩
  go_wp2_with fail
  go_ret
  exact ⟨rfl, rfl⟩

end Go.Proofs.YtefjjcoaeanagaaDoor
