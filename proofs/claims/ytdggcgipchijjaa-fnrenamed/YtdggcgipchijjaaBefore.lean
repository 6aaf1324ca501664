/- spec.Before and impl.Before both answer by the byte order of the two texts, and leave memory alone. -/
import Derived.Test.YtdggcgipchijjaaRows
import Derived.Test.YtdggcgipchijjaaPlain
import Derived.WalkKit
import Derived.WalkLawsBesides
import Derived.WalkSpells
import Derived.Deep.QuietTactic
import Derived.BigQuiet
import Derived.Deep.LoopGhost
import Derived.Outline
import Derived.Lib.Strings
namespace Go.Proofs.Ytdggcgipchijjaa
open Go.RowKit

set_option maxHeartbeats 400000 in
theorem specBefore (a b : ByteArray) (w : World) (ha : a.size ≤ maxLen) (_hb : b.size ≤ maxLen) :
    Calls Try.prog 35 #[.string a, .string b] w fun e w' => e = .returned (.bool (Op.bytesLess a.toList b.toList)) ∧ ∃ n, w' = w.drewN n := by
  unfold maxLen at ha _hb
  go_enter Try.func35, Try.ntmps35
  go_wp2
  go_loopw [5] (fun i wr => ∃ (k n : Nat), k ≤ a.size ∧ k ≤ b.size ∧ i = .int .i64 k ∧ Hid (a.data.toList.take k = b.data.toList.take k) ∧ wr = w.drewN n) (fun i _ => a.size - (intOf i).toNat)
  case atStart => exact ⟨0, 0, Nat.zero_le _, Nat.zero_le _, rfl, rfl, rfl⟩
  case round =>
    obtain ⟨k, n, hka, hkb, rfl, heq, rfl⟩ := hrel
    by_cases hk1 : k < a.size
    · by_cases hk2 : k < b.size
      · have hla : k < a.data.toList.length := by simpa using hk1
        have hlb : k < b.data.toList.length := by simpa using hk2
        by_cases hc : a[k] = b[k]
        · have ht : ((a[k].toNat : Int) != (b[k].toNat : Int)) = false := by simp [hc]
          have H := Lib.hid (Plain.take_more k _ _ hla hlb heq.out (by exact hc))
          have Hc := Lib.hid hc
          clear hc
          go_wp2
          go_quiet (fail)
          go_wp2
          go_roundw
          case rel => exact ⟨k + 1, n + nq, by omega, by omega, by go_num, H, rfl⟩
          case measure => simp [intOf]; omega
        · have ht : ((a[k].toNat : Int) != (b[k].toNat : Int)) = true := by
            rw [bne_iff_ne]; intro h; exact hc (UInt8.toNat_inj.1 (by exact_mod_cast h))
          have H := Lib.hid (Plain.less_at k _ _ hla hlb heq.out (by exact hc))
          clear hc
          go_wp2
          go_quiet (fail)
          go_wp2
          go_quiet (fail)
          go_wp2
          go_ret
          refine ⟨?_, _, by rw [World.drewN_drewN, World.drewN_drewN]⟩
          rw [Lib.toList_data, Lib.toList_data, H.out]
          simp [UInt8.lt_iff_toNat_lt]
          exact Iff.rfl
      · have H := Lib.hid (Plain.less_end k a.data.toList b.data.toList (by simpa using hka) (by simpa using hkb) heq.out (.inr (by simp; omega)))
        go_wp2
        go_ret
        refine ⟨?_, _, rfl⟩
        rw [Lib.toList_data, Lib.toList_data, H.out]
        simp
    · have H := Lib.hid (Plain.less_end k a.data.toList b.data.toList (by simpa using hka) (by simpa using hkb) heq.out (.inl (by simp; omega)))
      go_wp2
      go_ret
      refine ⟨?_, _, rfl⟩
      rw [Lib.toList_data, Lib.toList_data, H.out]
      simp

end Go.Proofs.Ytdggcgipchijjaa
