/- The model's names: spec.NameOk. -/
import Derived.Test.YtnepfnbmmdcgpaaDoorLexSpec1
namespace Go.Proofs.YtnepfnbmmdcgpaaDoor
open Go.RowKit

theorem beqF {b : UInt8} {n : Int} (h : (b.toNat : Int) ≠ n) : (((b.toNat : Int)) == n) = false := by rw [beq_eq_false_iff_ne]; exact h
theorem beqT {b : UInt8} {n : Int} (h : (b.toNat : Int) = n) : (((b.toNat : Int)) == n) = true := by simp [h]

theorem name_zero (s : ByteArray) (k : Nat) (h : k < s.size) (hb : s[k].toNat = 0) : nameB s.data.toList = false := by
  have hm : s.data.toList.contains 0 = true := by
    rw [List.contains_iff_mem, List.mem_iff_getElem]
    exact ⟨k, by simpa using h, UInt8.toNat_inj.1 hb⟩
  unfold nameB; rw [hm]; simp

theorem name_noZero (s : ByteArray) (h : ∀ (k : Nat) (hk : k < s.size), s[k].toNat ≠ 0) : nameB s.data.toList = inI (s.size : Int) 1 40 := by
  have hm : s.data.toList.contains 0 = false := by
    rw [Bool.eq_false_iff]
    intro hc
    rw [List.contains_iff_mem, List.mem_iff_getElem] at hc
    obtain ⟨k, hk, e⟩ := hc
    have hk' : k < s.size := by simpa using hk
    exact h k hk' (by have : s[k] = 0 := e; rw [this]; rfl)
  have hl : s.data.toList.length = s.size := by simp
  unfold nameB inI
  rw [hm, hl, Bool.eq_iff_iff]
  simp only [Bool.and_eq_true, decide_eq_true_eq, Bool.not_false, and_true]
  omega

set_option maxHeartbeats 1000000 in
theorem specName (s : ByteArray) (w : World) (hs : s.size ≤ 1048576) :
    Calls Tryd.prog 76 #[.string s] w fun e w' => e = .returned (.bool (nameB s.data.toList)) ∧ w = w' := by
  go_enter Tryd.func76, Tryd.ntmps76
  go_wp2_with fail
  go_loop [3] (fun i => ∃ k : Nat, k ≤ s.size ∧ i = .int .i64 k ∧ Hid (∀ (j : Nat) (hj : j < s.size), j < k → s[j].toNat ≠ 0)) (fun i => s.size - (intOf i).toNat)
  case atStart => exact ⟨0, Nat.zero_le _, rfl, fun j _ h => by omega⟩
  case round =>
    obtain ⟨k, hk, rfl, hall⟩ := hrel
    by_cases hlt : k < s.size
    · have hby := byte_le s[k]
      by_cases h0 : s[k].toNat = 0
      · have HN := Lib.hid (name_zero s k hlt h0)
        have T := beqT (b := s[k]) (n := 0) (by omega)
        clear h0
        go_wp2_with fail
        go_ret
        exact ⟨by rw [HN.out]; rfl, rfl⟩
      · have HA : Hid (∀ (j : Nat) (hj : j < s.size), j < k + 1 → s[j].toNat ≠ 0) := fun j hj hjk => by
          by_cases e : j = k
          · subst e; exact h0
          · exact hall.out j hj (by omega)
        have T := beqF (b := s[k]) (n := 0) (by omega)
        clear h0
        go_wp2_with fail
        exact ⟨⟨k + 1, by omega, by go_num, HA⟩, by simp [intOf]; omega⟩
    · have HN : Hid (nameB s.data.toList = inI (s.size : Int) 1 40) := name_noZero s (fun j hj => hall.out j hj (by omega))
      go_wp2_with fail
      refine (specIn _ 1 40 _).mono ?_
      rintro e w' ⟨rfl, rfl⟩
      go_wp2_with fail
      go_ret
      exact ⟨by rw [HN.out]; rfl, rfl⟩

theorem specNameOk (s : ByteArray) (w : World) (hs : s.size ≤ 1048576) (v : Bool) (hv : nameB s.data.toList = v) :
    Calls Tryd.prog 53 #[.string s] w fun e w' => e = .returned (.bool v) ∧ w = w' := by
  subst hv
  go_enter Tryd.func53, Tryd.ntmps53
  go_wp2_with fail
  refine (specName s _ hs).mono ?_
  rintro e w' ⟨rfl, rfl⟩
  go_wp2_with fail
  go_ret
  exact ⟨rfl, rfl⟩

end Go.Proofs.YtnepfnbmmdcgpaaDoor
