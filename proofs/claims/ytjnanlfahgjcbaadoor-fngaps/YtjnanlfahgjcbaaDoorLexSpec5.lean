/- The model's signs. -/
import Derived.Test.YtjnanlfahgjcbaaDoorLexSpec4
namespace Go.Proofs.YtjnanlfahgjcbaaDoor
open Go.RowKit

theorem extract_toList (s : ByteArray) (i j : Nat) : (s.extract i j).toList = (s.data.toList.drop i).take (j - i) := by
  rw [Lib.toList_data, ByteArray.data_extract]
  simp [List.drop_take]

theorem extract_two (s : ByteArray) (i : Nat) (h : i + 1 < s.size) : (s.extract i (i + 2)).toList = [s[i], s[i + 1]] := by
  rw [extract_toList, drop_at s i (by omega), drop_at s (i + 1) h, show i + 2 - i = 2 by omega]
  rfl

theorem two_eq (s : ByteArray) (i : Nat) (h : i + 1 < s.size) (a b : UInt8) : ((s.extract i (i + 2)).toList == [a, b]) = (s[i] == a && s[i + 1] == b) := by
  rw [extract_two s i h]
  cases h1 : s[i] == a <;> cases h2 : s[i + 1] == b <;> simp_all

theorem twoCases (a b : UInt8) :
    ((a == 60 && b == 61) = true ∧ twoB a b = true) ∨ ((a == 60 && b == 61) = false ∧ (a == 62 && b == 61) = true ∧ twoB a b = true) ∨
    ((a == 60 && b == 61) = false ∧ (a == 62 && b == 61) = false ∧ (a == 60 && b == 62) = true ∧ twoB a b = true) ∨
    ((a == 60 && b == 61) = false ∧ (a == 62 && b == 61) = false ∧ (a == 60 && b == 62) = false ∧ twoB a b = false) := by
  have e : ∀ (x : UInt8) (n : Nat) (hn : n < 256), (x == UInt8.ofNat n) = (x.toNat == n) := fun x n hn => by
    rw [Bool.eq_iff_iff]
    simp only [beq_iff_eq]
    constructor
    · rintro rfl; rw [UInt8.toNat_ofNat']; omega
    · intro h; apply UInt8.toNat_inj.1; rw [UInt8.toNat_ofNat']; omega
  have a60 : (a == 60) = (a.toNat == 60) := e a 60 (by omega)
  have a62 : (a == 62) = (a.toNat == 62) := e a 62 (by omega)
  have b61 : (b == 61) = (b.toNat == 61) := e b 61 (by omega)
  have b62 : (b == 62) = (b.toNat == 62) := e b 62 (by omega)
  rw [a60, a62, b61, b62]
  unfold twoB
  cases h1 : a.toNat == 60 <;> cases h2 : a.toNat == 62 <;> cases h3 : b.toNat == 61 <;> cases h4 : b.toNat == 62 <;> simp

theorem signN_at (s : ByteArray) (i : Nat) (h : i < s.size) (h2 : s.size = i + 1 ∨ ∃ h1 : i + 1 < s.size, twoB s[i] s[i + 1] = false) : signN (s.data.toList.drop i) = if signB s[i] then 1 else 0 := by
  rw [drop_at s i h]
  rcases h2 with h1 | ⟨h1, h2⟩
  · rw [List.drop_of_length_le (by simp; omega), signN]
  · rw [drop_at s (i + 1) h1, signN, if_neg (by simp [h2])]

theorem signN_two_at (s : ByteArray) (i : Nat) (h : i + 1 < s.size) (h2 : twoB s[i] s[i + 1] = true) : signN (s.data.toList.drop i) = 2 := by
  rw [drop_at s i (by omega), drop_at s (i + 1) h, signN, if_pos h2]

theorem sign_some {b : UInt8} {n : Int} (h : (b.toNat : Int) = n) (hm : n ∈ [(40 : Int), 41, 44, 59, 61, 60, 62, 43, 45, 42, 46]) : signB b = true := by
  unfold signB
  simp only [List.mem_cons, List.not_mem_nil, or_false] at hm
  simp only [List.contains_eq_mem, List.mem_cons, List.not_mem_nil, or_false, decide_eq_true_eq]
  omega

set_option maxHeartbeats 4000000 in
theorem specSign (s : ByteArray) (i : Nat) (w : World) (hi : i < s.size) (hs : s.size ≤ 1048576) :
    Calls Tryd.prog 54 #[.string s, .int .i64 (i : Int)] w fun e w' => e = .returned (.int .i64 (signN (s.data.toList.drop i) : Nat)) ∧ w = w' := by
  have hby := byte_le s[i]
  by_cases h1 : i + 1 < s.size
  · have e1 := two_eq s i h1 60 61
    have e2 := two_eq s i h1 62 61
    have e3 := two_eq s i h1 60 62
    rcases twoCases s[i] s[i + 1] with ⟨t1, h2⟩ | ⟨t1, t2, h2⟩ | ⟨t1, t2, t3, h2⟩ | ⟨t1, t2, t3, h2⟩
    · rw [t1] at e1
      have HS := Lib.hid (signN_two_at s i h1 h2)
      clear e2 e3 t1 h2
      go_enter Tryd.func54, Tryd.ntmps54
      go_wp2_with fail
      go_ret
      exact ⟨by rw [HS.out]; rfl, rfl⟩
    · rw [t1] at e1
      rw [t2] at e2
      have HS := Lib.hid (signN_two_at s i h1 h2)
      clear e3 t1 t2 h2
      go_enter Tryd.func54, Tryd.ntmps54
      go_wp2_with fail
      go_ret
      exact ⟨by rw [HS.out]; rfl, rfl⟩
    · rw [t1] at e1
      rw [t2] at e2
      rw [t3] at e3
      have HS := Lib.hid (signN_two_at s i h1 h2)
      clear t1 t2 t3 h2
      go_enter Tryd.func54, Tryd.ntmps54
      go_wp2_with fail
      go_ret
      exact ⟨by rw [HS.out]; rfl, rfl⟩
    · rw [t1] at e1
      rw [t2] at e2
      rw [t3] at e3
      have HS := Lib.hid (signN_at s i hi (.inr ⟨h1, h2⟩))
      clear t1 t2 t3 h2
      generalize hb : s[i] = b at *
      go_enter Tryd.func54, Tryd.ntmps54
      go_wp2_with fail
      all_goals go_ret
      all_goals first
        | exact ⟨by rw [HS.out, if_pos (sign_some (b := b) (beq_iff_eq.1 (by assumption)) (by simp))]; rfl, rfl⟩
        | (refine ⟨?_, rfl⟩; rw [HS.out, if_neg (by simp only [beq_eq_false_iff_ne, ne_eq] at *; unfold signB; simp only [List.contains_eq_mem, List.mem_cons, List.not_mem_nil, or_false, decide_eq_true_eq]; omega)]; rfl)
  · have HS := Lib.hid (signN_at s i hi (.inl (by omega)))
    have ht : ¬ ((i : Int) + 1 < (s.size : Int)) := by omega
    generalize hb : s[i] = b at *
    go_enter Tryd.func54, Tryd.ntmps54
    go_wp2_with fail
    all_goals go_ret
    all_goals first
        | exact ⟨by rw [HS.out, if_pos (sign_some (b := b) (beq_iff_eq.1 (by assumption)) (by simp))]; rfl, rfl⟩
        | (refine ⟨?_, rfl⟩; rw [HS.out, if_neg (by simp only [beq_eq_false_iff_ne, ne_eq] at *; unfold signB; simp only [List.contains_eq_mem, List.mem_cons, List.not_mem_nil, or_false, decide_eq_true_eq]; omega)]; rfl)

end Go.Proofs.YtjnanlfahgjcbaaDoor
