/- The model's gaps. -/
import Derived.Test.YtjnanlfahgjcbaaDoorLexSpec1
namespace Go.Proofs.YtjnanlfahgjcbaaDoor
open Go.RowKit

theorem drop_at (s : ByteArray) (k : Nat) (h : k < s.size) : s.data.toList.drop k = s[k] :: s.data.toList.drop (k + 1) := by
  rw [List.drop_eq_getElem_cons (by simpa using h)]; rfl

theorem gap_blank_at (s : ByteArray) (k : Nat) (h : k < s.size) (hb : blankB s[k] = true) : gap false (s.data.toList.drop k) = 1 + gap false (s.data.toList.drop (k + 1)) := by
  rw [drop_at s k h, gap, if_pos hb]

theorem gap_note_at (s : ByteArray) (k : Nat) (h : k < s.size) (hb : s[k].toNat = 45) (h1 : k + 1 < s.size) (hc : s[k + 1].toNat = 45) : gap false (s.data.toList.drop k) = gap true (s.data.toList.drop k) := by
  have hn : blankB s[k] = false := by simp [blankB, hb]
  have hh : (List.head? (s.data.toList.drop (k + 1))).map (·.toNat) = some 45 := by rw [drop_at s (k + 1) h1]; simp [hc]
  have e1 : gap false (s[k] :: s.data.toList.drop (k + 1)) = 1 + gap true (s.data.toList.drop (k + 1)) := by
    rw [gap, if_neg (by simp [hn]), if_pos (by rw [hh, hb]; rfl)]
  have e2 : gap true (s[k] :: s.data.toList.drop (k + 1)) = 1 + gap true (s.data.toList.drop (k + 1)) := by
    have : (s[k].toNat != 10) = true := by simp [hb]
    rw [gap, this]
  rw [drop_at s k h, e1, e2]

theorem gap_stop_at (s : ByteArray) (k : Nat) (h : k < s.size) (hb : blankB s[k] = false) (hs : s[k].toNat ≠ 45 ∨ s.size = k + 1 ∨ ∃ h1 : k + 1 < s.size, s[k + 1].toNat ≠ 45) : gap false (s.data.toList.drop k) = 0 := by
  rw [drop_at s k h, gap, if_neg (by simp [hb])]
  rw [if_neg]
  intro hc
  simp only [Bool.and_eq_true, beq_iff_eq] at hc
  rcases hs with h1 | h1 | ⟨h1, h2⟩
  · exact h1 hc.1
  · have : s.data.toList.drop (k + 1) = [] := List.drop_eq_nil_iff.2 (by simp; omega)
    rw [this] at hc
    simp at hc
  · rw [drop_at s (k + 1) h1] at hc
    simp at hc
    exact h2 hc.2

theorem gap_in_at (s : ByteArray) (k : Nat) (h : k < s.size) (hb : s[k].toNat ≠ 10) : gap true (s.data.toList.drop k) = 1 + gap true (s.data.toList.drop (k + 1)) := by
  rw [drop_at s k h, gap]
  have : (s[k].toNat != 10) = true := by simpa using hb
  rw [this]

theorem gap_out_at (s : ByteArray) (k : Nat) (h : k < s.size) (hb : s[k].toNat = 10) : gap true (s.data.toList.drop k) = gap false (s.data.toList.drop k) := by
  have e1 : gap false (s[k] :: s.data.toList.drop (k + 1)) = 1 + gap false (s.data.toList.drop (k + 1)) := by
    rw [gap, if_pos (by simp [blankB, hb])]
  have e2 : gap true (s[k] :: s.data.toList.drop (k + 1)) = 1 + gap false (s.data.toList.drop (k + 1)) := by
    have : (s[k].toNat != 10) = false := by simp [hb]
    rw [gap, this]
  rw [drop_at s k h, e1, e2]

theorem gap_end_at (s : ByteArray) (c : Bool) : gap c (s.data.toList.drop s.size) = 0 := by
  rw [List.drop_of_length_le (by simp)]
  cases c <;> rfl

theorem blankCases (b : UInt8) :
    (((b.toNat : Int) == 32) = true ∧ blankB b = true) ∨ (((b.toNat : Int) == 32) = false ∧ ((b.toNat : Int) == 9) = true ∧ blankB b = true) ∨
    (((b.toNat : Int) == 32) = false ∧ ((b.toNat : Int) == 9) = false ∧ ((b.toNat : Int) == 10) = true ∧ blankB b = true) ∨
    (((b.toNat : Int) == 32) = false ∧ ((b.toNat : Int) == 9) = false ∧ ((b.toNat : Int) == 10) = false ∧ ((b.toNat : Int) == 13) = true ∧ blankB b = true) ∨
    (((b.toNat : Int) == 32) = false ∧ ((b.toNat : Int) == 9) = false ∧ ((b.toNat : Int) == 10) = false ∧ ((b.toNat : Int) == 13) = false ∧ blankB b = false) := by
  have e : ∀ n : Nat, ((b.toNat : Int) == (n : Int)) = (b.toNat == n) := fun n => by
    rw [Bool.eq_iff_iff]; simp only [beq_iff_eq]; omega
  have e32 := e 32
  have e9 := e 9
  have e10 := e 10
  have e13 := e 13
  simp only [Int.cast_ofNat_Int] at e32 e9 e10 e13
  rw [e32, e9, e10, e13]
  unfold blankB
  cases b.toNat == 32 <;> cases b.toNat == 9 <;> cases b.toNat == 10 <;> cases b.toNat == 13 <;> simp

theorem bneF {b : UInt8} {n : Int} (h : (b.toNat : Int) = n) : (((b.toNat : Int)) != n) = false := by simp [h]
theorem bneT {b : UInt8} {n : Int} (h : (b.toNat : Int) ≠ n) : (((b.toNat : Int)) != n) = true := by rw [bne_iff_ne]; exact h
theorem beqF {b : UInt8} {n : Int} (h : (b.toNat : Int) ≠ n) : (((b.toNat : Int)) == n) = false := by rw [beq_eq_false_iff_ne]; exact h
theorem beqT {b : UInt8} {n : Int} (h : (b.toNat : Int) = n) : (((b.toNat : Int)) == n) = true := by simp [h]

theorem step_gap {a n b c : Nat} (h : a = n + b) (h1 : b = 1 + c) : Hid (a = (n + 1) + c) := by unfold Hid; omega

set_option maxHeartbeats 2000000 in
theorem specGap (s : ByteArray) (i : Nat) (w : World) (hi : i ≤ s.size) (hs : s.size ≤ 1048576) :
    Calls Tryd.prog 28 #[.string s, .int .i64 (i : Int)] w fun e w' => e = .returned (.int .i64 (gap false (s.data.toList.drop i) : Nat)) ∧ w = w' := by
  go_enter Tryd.func28, Tryd.ntmps28
  go_wp2_with fail
  go_loop [5] (fun v => ∃ n : Nat, v = .int .i64 n ∧ i + n ≤ s.size ∧ Hid (gap false (s.data.toList.drop i) = n + gap false (s.data.toList.drop (i + n)))) (fun v => s.size - (intOf v).toNat)
  case atStart => exact ⟨0, rfl, by omega, by unfold Hid; simp⟩
  case round =>
    obtain ⟨n, rfl, hn, hg⟩ := hrel
    by_cases hlt : i + n < s.size
    · have hby := byte_le s[i + n]
      rcases blankCases s[i + n] with ⟨t0, hb⟩ | ⟨t0, t1, hb⟩ | ⟨t0, t1, t2, hb⟩ | ⟨t0, t1, t2, t3, hb⟩ | ⟨t0, t1, t2, t3, hb⟩
      · have HG := Lib.hid (gap_blank_at s (i + n) hlt hb)
        clear hb
        go_wp2_with fail
        exact ⟨⟨n + 1, by go_num, by omega, step_gap hg.out HG.out⟩, by simp [intOf]; omega⟩
      · have HG := Lib.hid (gap_blank_at s (i + n) hlt hb)
        clear hb
        go_wp2_with fail
        exact ⟨⟨n + 1, by go_num, by omega, step_gap hg.out HG.out⟩, by simp [intOf]; omega⟩
      · have HG := Lib.hid (gap_blank_at s (i + n) hlt hb)
        clear hb
        go_wp2_with fail
        exact ⟨⟨n + 1, by go_num, by omega, step_gap hg.out HG.out⟩, by simp [intOf]; omega⟩
      · have HG := Lib.hid (gap_blank_at s (i + n) hlt hb)
        clear hb
        go_wp2_with fail
        exact ⟨⟨n + 1, by go_num, by omega, step_gap hg.out HG.out⟩, by simp [intOf]; omega⟩
      · by_cases h45 : s[i + n].toNat = 45
        · by_cases h1 : i + n + 1 < s.size
          · have hby1 := byte_le s[i + n + 1]
            by_cases h46 : s[i + n + 1].toNat = 45
            · have HN := Lib.hid (gap_note_at s (i + n) hlt h45 h1 h46)
              have T1 := bneF (b := s[i + n]) (n := 45) (by omega)
              have T2 := bneF (b := s[i + n + 1]) (n := 45) (by omega)
              have T3 : (((i : Int) + (n : Int) + 1) == (s.size : Int)) = false := by rw [beq_eq_false_iff_ne]; omega
              have h10 : s[i + n].toNat ≠ 10 := by omega
              have H10 := Lib.hid h10
              clear hb h45 h46 h10
              go_wp2_with fail
              go_loop [5] (fun v => ∃ m : Nat, v = .int .i64 m ∧ n ≤ m ∧ i + m ≤ s.size ∧ Hid (gap false (s.data.toList.drop i) = m + gap true (s.data.toList.drop (i + m)))) (fun v => s.size - (intOf v).toNat)
              case atStart => exact ⟨n, rfl, Nat.le_refl _, by omega, by unfold Hid; rw [hg.out, HN.out]⟩
              case round =>
                obtain ⟨m, rfl, hnm, hm, hgm⟩ := hrel
                by_cases hltm : i + m < s.size
                · have hbym := byte_le s[i + m]
                  by_cases hten : s[i + m].toNat = 10
                  · have HO := Lib.hid (gap_out_at s (i + m) hltm hten)
                    have T4 := bneF (b := s[i + m]) (n := 10) (by omega)
                    have hnm' : n < m := by
                      rcases Nat.lt_or_ge n m with h | h
                      · exact h
                      · have : m = n := by omega
                        subst this
                        exact absurd hten H10.out
                    clear hten
                    go_wp2_with fail
                    exact ⟨⟨m, rfl, by omega, by unfold Hid; rw [hgm.out, HO.out]⟩, by simp [intOf]; omega⟩
                  · have HI := Lib.hid (gap_in_at s (i + m) hltm hten)
                    have T4 := bneT (b := s[i + m]) (n := 10) (by omega)
                    clear hten
                    go_wp2_with fail
                    exact ⟨⟨m + 1, by go_num, by omega, by omega, step_gap hgm.out HI.out⟩, by simp [intOf]; omega⟩
                · have hme : i + m = s.size := by omega
                  have HE : Hid (gap true (s.data.toList.drop (i + m)) = gap false (s.data.toList.drop (i + m))) := by unfold Hid; rw [hme, gap_end_at, gap_end_at]
                  clear hme
                  go_wp2_with fail
                  exact ⟨⟨m, rfl, by omega, by unfold Hid; rw [hgm.out, HE.out]⟩, by simp [intOf]; omega⟩
            · have HS := Lib.hid (gap_stop_at s (i + n) hlt hb (.inr (.inr ⟨h1, h46⟩)))
              have T1 := bneF (b := s[i + n]) (n := 45) (by omega)
              have T2 := bneT (b := s[i + n + 1]) (n := 45) (by omega)
              have T3 : (((i : Int) + (n : Int) + 1) == (s.size : Int)) = false := by rw [beq_eq_false_iff_ne]; omega
              clear hb h45 h46
              go_wp2_with fail
              go_ret
              exact ⟨by rw [hg.out, HS.out]; rfl, rfl⟩
          · have HS := Lib.hid (gap_stop_at s (i + n) hlt hb (.inr (.inl (by omega))))
            have T1 := bneF (b := s[i + n]) (n := 45) (by omega)
            have T3 : (((i : Int) + (n : Int) + 1) == (s.size : Int)) = true := by rw [beq_iff_eq]; omega
            clear hb h45
            go_wp2_with fail
            go_ret
            exact ⟨by rw [hg.out, HS.out]; rfl, rfl⟩
        · have HS := Lib.hid (gap_stop_at s (i + n) hlt hb (.inl h45))
          have T1 := bneT (b := s[i + n]) (n := 45) (by omega)
          clear hb h45
          go_wp2_with fail
          go_ret
          exact ⟨by rw [hg.out, HS.out]; rfl, rfl⟩
    · have hne : i + n = s.size := by omega
      have HE : Hid (gap false (s.data.toList.drop (i + n)) = 0) := by unfold Hid; rw [hne]; exact gap_end_at s false
      clear hne
      go_wp2_with fail
      go_ret
      exact ⟨by rw [hg.out, HE.out]; rfl, rfl⟩

end Go.Proofs.YtjnanlfahgjcbaaDoor
