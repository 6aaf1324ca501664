/- spec.l04Kids. -/
import Derived.Test.YtdggcgipchijjaaMem
namespace Go.Proofs.Ytdggcgipchijjaa
open Go.RowKit

def inV (x lo hi : Int) : Bool := decide (lo ≤ x) && decide (x ≤ hi)

theorem specInW (x lo hi : Int) (w : World) : Calls Try.prog 67 #[.int .i64 x, .int .i64 lo, .int .i64 hi] w fun e w' => e = .returned (.bool (inV x lo hi)) ∧ w = w' := by
  by_cases h1 : lo ≤ x
  · have H : Hid (inV x lo hi = decide (x ≤ hi)) := by unfold Hid inV; simp [h1]
    go_enter Try.func67, Try.ntmps67
    go_wp2
    go_ret
    exact ⟨by rw [H.out]; rfl, rfl⟩
  · have H : Hid (inV x lo hi = false) := by unfold Hid inV; simp [h1]
    have ht : decide (lo ≤ x) = false := by simp; omega
    go_enter Try.func67, Try.ntmps67
    go_wp2
    go_ret
    exact ⟨by rw [H.out]; rfl, rfl⟩

theorem specInV (x lo hi : Int) (w : World) (v : Bool) (h : inV x lo hi = v) : Calls Try.prog 67 #[.int .i64 x, .int .i64 lo, .int .i64 hi] w fun e w' => e = .returned (.bool v) ∧ w = w' := h ▸ specInW x lo hi w

def kidsV (k : Int) : Int := if k < 0 ∨ 18 < k then -1 else if k ≤ 5 then 0 else if k ≤ 7 then 1 else 2

set_option maxHeartbeats 1000000 in
theorem specKidsV (k : Int) (w : World) (v : Int) (hv : kidsV k = v) :
    Calls Try.prog 54 #[.int .i64 k] w fun e w' => e = .returned (.int .i64 v) ∧ w = w' := by
  unfold kidsV at hv
  by_cases h1 : k < 0 ∨ 18 < k
  · rw [if_pos h1] at hv
    subst hv
    have H1 : Hid (inV k 0 18 = false) := by unfold Hid inV; simp; omega
    clear h1
    go_enter Try.func54, Try.ntmps54
    go_wp2_with (go_at_call 67; refine (specInV _ 0 18 _ false H1.out).mono ?_; rintro e w' ⟨rfl, rfl⟩)
    go_ret
    exact ⟨rfl, rfl⟩
  · rw [if_neg h1] at hv
    have H1 : Hid (inV k 0 18 = true) := by unfold Hid inV; simp; omega
    by_cases h5 : k ≤ 5
    · rw [if_pos h5] at hv
      subst hv
      clear h1
      go_enter Try.func54, Try.ntmps54
      go_wp2_with (go_at_call 67; refine (specInV _ 0 18 _ true H1.out).mono ?_; rintro e w' ⟨rfl, rfl⟩)
      go_ret
      exact ⟨rfl, rfl⟩
    · rw [if_neg h5] at hv
      by_cases h7 : k ≤ 7
      · rw [if_pos h7] at hv
        subst hv
        clear h1
        go_enter Try.func54, Try.ntmps54
        go_wp2_with (go_at_call 67; refine (specInV _ 0 18 _ true H1.out).mono ?_; rintro e w' ⟨rfl, rfl⟩)
        go_ret
        exact ⟨rfl, rfl⟩
      · rw [if_neg h7] at hv
        subst hv
        clear h1
        go_enter Try.func54, Try.ntmps54
        go_wp2_with (go_at_call 67; refine (specInV _ 0 18 _ true H1.out).mono ?_; rintro e w' ⟨rfl, rfl⟩)
        go_ret
        exact ⟨rfl, rfl⟩

end Go.Proofs.Ytdggcgipchijjaa
