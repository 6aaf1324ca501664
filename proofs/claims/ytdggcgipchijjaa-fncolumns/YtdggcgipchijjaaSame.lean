/- laws.sameTexts answers true at two lists of the same texts. -/
import Derived.Test.YtdggcgipchijjaaStrs
namespace Go.Proofs.Ytdggcgipchijjaa
open Go.RowKit

set_option maxHeartbeats 400000 in
theorem sameStrs (a a' : Option Addr) (c c' : Nat) (xs ys : List ByteArray) (w : World) (hx : Strs w a c xs) (hy : Strs w a' c' ys) (he : xs = ys) :
    Calls Try.prog 10 #[.slice a xs.length c, .slice a' ys.length c'] w (Quiet w (.bool true)) := by
  subst he
  have hl := hx.len
  have hne : (((xs.length : Int)) != (xs.length : Int)) = false := by simp
  go_enter Try.func10, Try.ntmps10
  go_wp2
  go_loopw [5] (fun i wr => ∃ k n : Nat, k ≤ xs.length ∧ i = .int .i64 k ∧ wr = w.drewN n) (fun i _ => xs.length - (intOf i).toNat)
  case atStart => exact ⟨0, 0, Nat.zero_le _, rfl, rfl⟩
  case round =>
    obtain ⟨k, n, hk, rfl, rfl⟩ := hrel
    by_cases hlt : k < xs.length
    · obtain ⟨b, off, rfl, hb, hc⟩ := hx.spot hlt
      obtain ⟨b', off', rfl, hb', hc'⟩ := hy.spot hlt
      have hs : (!(xs[k].toList == xs[k].toList)) = false := by simp
      go_wp2
      go_quiet (fail)
      go_wp2
      go_roundw
      case rel => exact ⟨k + 1, n + nq, by omega, by go_num, rfl⟩
      case measure => simp [intOf]; omega
    · go_wp2
      go_ret
      exact ⟨rfl, _, rfl⟩

end Go.Proofs.Ytdggcgipchijjaa
