/- Plain facts on lists of bytes and of strings; nothing of the program. -/
/- spec.Before and impl.Before both answer by the byte order of the two texts, and leave memory alone. -/
import Derived.WalkKit
import Derived.Lib.Hide
import Derived.Test.YtefjjcoaeanagaaDoorRows
import Derived.WalkLawsBesides
import Derived.WalkSpells
import Derived.Deep.QuietTactic
import Derived.BigQuiet
import Derived.Deep.LoopGhost
import Derived.Outline
import Derived.Lib.Strings
namespace Go.Proofs.YtefjjcoaeanagaaDoor.Plain

theorem less_drop : ∀ (k : Nat) (a b : List UInt8), k ≤ a.length → k ≤ b.length → a.take k = b.take k →
    Op.bytesLess a b = Op.bytesLess (a.drop k) (b.drop k)
  | 0, _, _, _, _, _ => rfl
  | k + 1, [], _, h, _, _ => absurd h (by simp)
  | k + 1, _ :: _, [], _, h, _ => absurd h (by simp)
  | k + 1, x :: a, y :: b, ha, hb, h => by
    simp only [List.take_succ_cons, List.cons.injEq] at h
    obtain ⟨rfl, h⟩ := h
    have ih := less_drop k a b (by simpa using ha) (by simpa using hb) h
    simp only [List.drop_succ_cons, ← ih]
    simp [Op.bytesLess]

theorem less_at (k : Nat) (a b : List UInt8) (ha : k < a.length) (hb : k < b.length) (h : a.take k = b.take k) (hne : a[k] ≠ b[k]) :
    Op.bytesLess a b = decide (a[k] < b[k]) := by
  rw [less_drop k a b (by omega) (by omega) h, List.drop_eq_getElem_cons ha, List.drop_eq_getElem_cons hb]
  simp [Op.bytesLess, hne]

theorem less_end (k : Nat) (a b : List UInt8) (ha : k ≤ a.length) (hb : k ≤ b.length) (h : a.take k = b.take k) (he : k = a.length ∨ k = b.length) :
    Op.bytesLess a b = decide (a.length < b.length) := by
  rw [less_drop k a b ha hb h]
  rcases he with he | he
  · subst he
    rw [List.drop_length]
    rcases hd : b.drop a.length with _ | ⟨y, r⟩
    · have := congrArg List.length hd
      simp at this
      simp [Op.bytesLess]; omega
    · have := congrArg List.length hd
      simp at this
      simp [Op.bytesLess]; omega
  · subst he
    rw [List.drop_length]
    rcases hd : a.drop b.length with _ | ⟨y, r⟩ <;> simp [Op.bytesLess] <;> omega

theorem take_more (k : Nat) (a b : List UInt8) (ha : k < a.length) (hb : k < b.length) (h : a.take k = b.take k) (he : a[k] = b[k]) :
    a.take (k + 1) = b.take (k + 1) := by
  rw [List.take_succ_eq_append_getElem ha, List.take_succ_eq_append_getElem hb, h, he]

end Go.Proofs.YtefjjcoaeanagaaDoor.Plain

namespace Go.Proofs.YtefjjcoaeanagaaDoor
open Go.RowKit

set_option maxHeartbeats 400000 in
theorem specBefore (a b : ByteArray) (w : World) (ha : a.size ≤ maxLen) (_hb : b.size ≤ maxLen) :
    Calls Tryd.prog 84 #[.string a, .string b] w fun e w' => e = .returned (.bool (Op.bytesLess a.toList b.toList)) ∧ ∃ n, w' = w.drewN n := by
  unfold maxLen at ha _hb
  go_enter Tryd.func84, Tryd.ntmps84
  go_wp2
  go_loopw [5] (fun i wr => ∃ (k n : Nat), k ≤ a.size ∧ k ≤ b.size ∧ i = .int .i64 k ∧ Hid (a.data.toList.take k = b.data.toList.take k) ∧ wr = w.drewN n) (fun i _ => a.size - (intOf i).toNat)
  case atStart => exact ⟨0, 0, Nat.zero_le _, Nat.zero_le _, rfl, rfl, rfl⟩
  case round =>
    obtain ⟨k, n, hka, hkb, rfl, heq, rfl⟩ := hrel
    by_cases hk1 : k < a.size
    · by_cases hk2 : k < b.size
      · have hla : k < a.data.toList.length := by simpa using hk1
        have hlb : k < b.data.toList.length := by simpa using hk2
        by_cases hc : a[k] = b[k]
        · have ht : ((a[k].toNat : Int) != (b[k].toNat : Int)) = false := by simp [hc]
          have H := Lib.hid (Plain.take_more k _ _ hla hlb heq.out (by exact hc))
          have Hc := Lib.hid hc
          clear hc
          go_wp2
          go_quiet (fail)
          go_wp2
          go_roundw
          case rel => exact ⟨k + 1, n + nq, by omega, by omega, by go_num, H, rfl⟩
          case measure => simp [intOf]; omega
        · have ht : ((a[k].toNat : Int) != (b[k].toNat : Int)) = true := by
            rw [bne_iff_ne]; intro h; exact hc (UInt8.toNat_inj.1 (by exact_mod_cast h))
          have H := Lib.hid (Plain.less_at k _ _ hla hlb heq.out (by exact hc))
          clear hc
          go_wp2
          go_quiet (fail)
          go_wp2
          go_quiet (fail)
          go_wp2
          go_ret
          refine ⟨?_, _, by rw [World.drewN_drewN, World.drewN_drewN]⟩
          rw [Lib.toList_data, Lib.toList_data, H.out]
          simp [UInt8.lt_iff_toNat_lt]
          exact Iff.rfl
      · have H := Lib.hid (Plain.less_end k a.data.toList b.data.toList (by simpa using hka) (by simpa using hkb) heq.out (.inr (by simp; omega)))
        go_wp2
        go_ret
        refine ⟨?_, _, rfl⟩
        rw [Lib.toList_data, Lib.toList_data, H.out]
        simp
    · have H := Lib.hid (Plain.less_end k a.data.toList b.data.toList (by simpa using hka) (by simpa using hkb) heq.out (.inl (by simp; omega)))
      go_wp2
      go_ret
      refine ⟨?_, _, rfl⟩
      rw [Lib.toList_data, Lib.toList_data, H.out]
      simp

end Go.Proofs.YtefjjcoaeanagaaDoor
