/- spec.Rising answers whether each text of a list is ahead of the next. -/
import Derived.Test.YtdggcgipchijjaaRising2
import Derived.Test.YtdggcgipchijjaaPutSpec
namespace Go.Proofs.Ytdggcgipchijjaa
open Go.RowKit

theorem pairAt_eq (xs : List ByteArray) (k : Nat) (h : k + 1 < xs.length) : pairAt xs k = (xs[k], xs[k + 1]) := by
  simp [pairAt, h, show k < xs.length by omega]

set_option maxHeartbeats 1000000 in
theorem specRising (a : Option Addr) (c : Nat) (xs : List ByteArray) (w : World) (hx : Strs w a c xs) :
    Calls Try.prog 12 #[.slice a xs.length c] w (Quiet w (.bool (risingB xs))) := by
  have hl := hx.len
  go_enter Try.func12, Try.ntmps12
  go_wp2
  go_loopw [3] (fun i wr => ∃ k n : Nat, k ≤ xs.length - 1 ∧ i = .int .i64 ((k : Int) + 1) ∧ Hid (∀ j, j < k → lessB (pairAt xs j).1 (pairAt xs j).2 = true) ∧ Hid (wr = w.drewN n)) (fun i _ => xs.length - (intOf i).toNat)
  case atStart => exact ⟨0, 0, Nat.zero_le _, rfl, fun j h => absurd h (by omega), rfl⟩
  case round =>
    obtain ⟨k, n, hk, rfl, hall, hwr⟩ := hrel
    have hx' : Strs wr a c xs := by rw [hwr.out]; exact hx
    by_cases hlt : k + 1 < xs.length
    · have hkl : k < xs.length := by omega
      obtain ⟨b, off, rfl, hb, hc1⟩ := hx'.spot hkl
      obtain ⟨b', off', he, _, hc2⟩ := hx'.spot hlt
      cases he
      have hs1 := hx.2.2.1 xs[k] (List.getElem_mem _)
      have hs2 := hx.2.2.1 xs[k + 1] (List.getElem_mem hlt)
      have Hp := Lib.hid (pairAt_eq xs k hlt)
      have hw0 : IntKind.i64.wrap ((k : Int) + 1 - 1) = (k : Int) := by rw [IntWalk.i64_in _ (by omega)]; omega
      have hw1 : IntKind.i64.wrap (k : Int) = (k : Int) := IntWalk.i64_in _ (by omega)
      have hi0 : (0 : Int) ≤ (k : Int) := by omega
      have hi1 : (k : Int) < (xs.length : Int) := by omega
      have hi2 : (0 : Int) ≤ (k : Int) + 1 := by omega
      have hi3 : (k : Int) + 1 < (xs.length : Int) := by omega
      have hi4 : ((k : Int) + 1).toNat = k + 1 := by omega
      cases hle : lessB xs[k] xs[k + 1] with
      | true =>
        have Hle := Lib.hid hle
        clear hle
        go_wp2_with fail
        go_quiet ((go_at_call 35; exact Calls.quiet_of (specBeforeIs _ _ _ hs1 hs2 true Hle.out)))
        clear hw0 hw1
        go_wp2
        go_roundw
        case rel => exact ⟨k + 1, n + nq, by omega, by go_num, (fun j hj => by
          rcases Nat.lt_or_ge j k with h | h
          · exact hall.out j h
          · obtain rfl : j = k := by omega
            rw [Hp.out]; exact Hle.out), by unfold Hid; rw [hwr.out, World.drewN_drewN]⟩
        case measure => simp [intOf]; omega
      | false =>
        have Hle := Lib.hid hle
        clear hle
        go_wp2_with fail
        go_quiet ((go_at_call 35; exact Calls.quiet_of (specBeforeIs _ _ _ hs1 hs2 false Hle.out)))
        clear hw0 hw1
        have HE : Hid (risingB xs = false) := by
          unfold Hid risingB
          rw [List.all_eq_false]
          exact ⟨pairAt xs k, List.mem_map.2 ⟨k, List.mem_range.2 (by omega), rfl⟩, by rw [Hp.out]; simp [Hle.out]⟩
        go_wp2
        go_ret
        exact ⟨by rw [HE.out]; rfl, n + nq, by rw [hwr.out, World.drewN_drewN]⟩
    · obtain rfl : k = xs.length - 1 := by omega
      have ht : decide (((xs.length - 1 : Nat) : Int) + 1 < (xs.length : Int)) = false := by simp; omega
      have HE : Hid (risingB xs = true) := by
        unfold Hid risingB
        rw [List.all_eq_true]
        intro y hy
        obtain ⟨j, hj, rfl⟩ := List.mem_map.1 hy
        exact hall.out j (List.mem_range.1 hj)
      go_wp2
      go_ret
      exact ⟨by rw [HE.out]; rfl, n, hwr.out⟩

end Go.Proofs.Ytdggcgipchijjaa
