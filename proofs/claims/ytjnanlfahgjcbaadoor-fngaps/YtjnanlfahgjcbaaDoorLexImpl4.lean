/- The program's lexer: notes, gaps. -/
import Derived.Test.YtjnanlfahgjcbaaDoorLexImpl3
import Derived.Test.YtjnanlfahgjcbaaDoorLexQ
namespace Go.Proofs.YtjnanlfahgjcbaaDoor
open Go.RowKit

/-- What a note leaves. -/
def Noted (w : World) (g : Nat) (s : ByteArray) (k : Nat) (e : Ending) (w' : World) : Prop :=
  e = .returned (.tuple #[]) ∧ ∃ m, k ≤ m ∧ m ≤ s.size ∧ Hid (gap true (s.data.toList.drop k) = (m - k) + gap false (s.data.toList.drop m)) ∧ (s.size = m ∨ ∃ h : m < s.size, s[m].toNat = 10) ∧ Moved w g s m w'

set_option maxHeartbeats 2000000 in
theorem implComment {w : World} {g : Nat} {s : ByteArray} {k : Nat} (h : LexS w g s k) (hs : s.size ≤ 1048576) (hk : k ≤ s.size) :
    Calls Tryd.prog 40 #[.pointer (some ⟨g, 0, none⟩)] w (Noted w g s k) := by
  have HM := Lib.hid (Moved.refl h)
  clear h
  go_enter Tryd.func40, Tryd.ntmps40
  go_wp2_with fail
  go_loopg [] (s.size - k) (fun gk wr => ∃ m : Nat, gk = s.size - m ∧ k ≤ m ∧ m ≤ s.size ∧ Hid (gap true (s.data.toList.drop k) = (m - k) + gap true (s.data.toList.drop m)) ∧ Moved w g s m wr)
  case atStart => exact ⟨k, rfl, Nat.le_refl _, hk, by unfold Hid; omega, HM.out⟩
  case round =>
    obtain ⟨m, rfl, hkm, hm, hgap, hmv⟩ := hrel
    have c0 := hmv.1.c0
    have c1 := hmv.1.c1
    have f1 := hmv.1.f1
    have h0m : (0 : Int) ≤ (m : Int) := by omega
    by_cases hlt : m < s.size
    · have hby := byte_le s[m]
      have hlt' : (m : Int) < (s.size : Int) := by omega
      have hmore : decide (m < s.size) = true := by simpa using hlt
      have HMO := Lib.hid hmore
      have HMV := Lib.hid hmv
      clear hmore hmv
      by_cases h10 : s[m].toNat = 10
      · have T := bneF (b := s[m]) (n := 10) (by omega)
        have HO := Lib.hid (gap_out_at s m hlt h10)
        have H10 := Lib.hid h10
        clear h10
        go_wp2_with fail
        go_quiet ((go_at_call 26; exact Calls.quiet_of (implMore (HMV.out.1.drewN _) hs (by omega) true HMO.out)))
        go_wp2_with fail
        go_end0
        exact ⟨rfl, m, hkm, hm, by unfold Hid; rw [hgap.out, HO.out], .inr ⟨hlt, H10.out⟩, HMV.out.drewN _⟩
      · have T := bneT (b := s[m]) (n := 10) (by omega)
        have HI := Lib.hid (gap_in_at s m hlt h10)
        clear h10
        go_wp2_with fail
        go_quiet ((go_at_call 26; exact Calls.quiet_of (implMore (HMV.out.1.drewN _) hs (by omega) true HMO.out)))
        go_wp2_with fail
        go_roundg (s.size - (m + 1))
        case measure => omega
        case rel => exact ⟨m + 1, rfl, by omega, by omega, by unfold Hid; rw [hgap.out, HI.out]; omega, (HMV.out.drewN _).set (m + 1) (by simp)⟩
    · have hmore : decide (m < s.size) = false := by simpa using hlt
      have HMO := Lib.hid hmore
      have HMV := Lib.hid hmv
      clear hmore hmv
      go_wp2_with fail
      go_quiet ((go_at_call 26; exact Calls.quiet_of (implMore (HMV.out.1.drewN _) hs (by omega) false HMO.out)))
      go_wp2_with fail
      go_end0
      have hme : m = s.size := by omega
      refine ⟨rfl, m, hkm, hm, ?_, .inl (by omega), HMV.out.drewN _⟩
      unfold Hid
      rw [hgap.out, hme, gap_end_at, gap_end_at]

theorem hasTwo (s : ByteArray) (k : Nat) (hk : k < s.size) : Lib.hasPrefix (s.data.toList.drop k) [45, 45] = (decide (s[k].toNat = 45) && (if h : k + 1 < s.size then decide (s[k + 1].toNat = 45) else false)) := by
  have e : ∀ b : UInt8, ((45 : UInt8) == b) = decide (b.toNat = 45) := fun b => by
    rw [Bool.eq_iff_iff]
    simp only [beq_iff_eq, decide_eq_true_eq]
    exact ⟨fun h => by rw [← h]; rfl, fun h => UInt8.toNat_inj.1 h.symm⟩
  unfold Lib.hasPrefix
  rw [drop_at s k hk, List.isPrefixOf_cons_cons, e]
  congr 1
  split
  · rename_i h1
    rw [drop_at s (k + 1) h1, List.isPrefixOf_cons_cons, e]
    simp
  · rename_i h1
    rw [List.drop_of_length_le (by simp; omega)]
    rfl

theorem hereBlank (s : ByteArray) (k : Nat) (hk : k < s.size) (hb : blankB s[k] = true) : clB s[k] = 1 := by unfold clB; rw [if_pos hb]
theorem hereNot (b : UInt8) (hb : blankB b = false) : ((clB b) == 1) = false := by
  have h : ((List.range 256).all fun n => blankB (UInt8.ofNat n) || !(clB (UInt8.ofNat n) == 1)) = true := by kernel_rfl
  have := byteAll (p := fun b => blankB b || !(clB b == 1)) h b
  rw [hb] at this
  simpa using this

set_option maxHeartbeats 2000000 in
theorem implSkip {w : World} {g : Nat} {s : ByteArray} {k : Nat} (h : LexS w g s k) (hs : s.size ≤ 1048576) (hk : k ≤ s.size) :
    Calls Tryd.prog 25 #[.pointer (some ⟨g, 0, none⟩)] w fun e w' => e = .returned (.tuple #[]) ∧ Moved w g s (k + gap false (s.data.toList.drop k)) w' := by
  have HM := Lib.hid (Moved.refl h)
  clear h
  go_enter Tryd.func25, Tryd.ntmps25
  go_wp2_with fail
  go_loopg [] (s.size - k) (fun gk wr => ∃ m : Nat, gk = s.size - m ∧ k ≤ m ∧ m ≤ s.size ∧ Hid (gap false (s.data.toList.drop k) = (m - k) + gap false (s.data.toList.drop m)) ∧ Moved w g s m wr)
  case atStart => exact ⟨k, rfl, Nat.le_refl _, hk, by unfold Hid; omega, HM.out⟩
  case round =>
    obtain ⟨m, rfl, hkm, hm, hgap, hmv⟩ := hrel
    have HMV := Lib.hid hmv
    have hltg := hmv.1.lt
    clear hmv
    by_cases hlt : m < s.size
    · have hby := byte_le s[m]
      have HMO : Hid (decide (m < s.size) = true) := decide_eq_true hlt
      go_wp2_with fail
      refine (implMore HMV.out.1 hs (by omega) true HMO.out).mono ?_
      rintro e w1 ⟨rfl, n1, hw1⟩
      have mv1 : Moved w g s m w1 := hw1 ▸ HMV.out.drewN n1
      clear hw1
      go_wp2_with fail
      refine (implHere mv1.1 hs hlt _ rfl).mono ?_
      rintro e w2 ⟨rfl, n2, hw2⟩
      have mv2 : Moved w g s m w2 := hw2 ▸ mv1.drewN n2
      clear hw2 mv1
      have c1 := mv2.1.c1
      have f1 := mv2.1.f1
      have HMV2 := Lib.hid mv2
      clear mv2
      cases hb : blankB s[m] with
      | true =>
        have HG := Lib.hid (gap_blank_at s m hlt hb)
        have T : (clB s[m] == 1) = true := by rw [hereBlank s m hlt hb]; rfl
        clear hb
        generalize clB s[m] = cl at T
        go_wp2_with fail
        go_roundg (s.size - (m + 1))
        case measure => omega
        case rel => exact ⟨m + 1, rfl, by omega, by omega, by unfold Hid; rw [hgap.out, HG.out]; omega, HMV2.out.set (m + 1) (by simp)⟩
      | false =>
        have T := hereNot s[m] hb
        have HB := Lib.hid hb
        clear hb
        generalize clB s[m] = cl at T
        have hpre := hasTwo s m hlt
        by_cases h2 : s[m].toNat = 45 ∧ ∃ h1 : m + 1 < s.size, s[m + 1].toNat = 45
        · obtain ⟨h45, h1, h46⟩ := h2
          have HN := Lib.hid (gap_note_at s m hlt h45 h1 h46)
          have HP : Hid (Lib.hasPrefix (s.data.toList.drop m) [45, 45] = true) := by
            unfold Hid; rw [hpre, dif_pos h1]; simp [h45, h46]
          have h10 : s[m].toNat ≠ 10 := by omega
          have H10 := Lib.hid h10
          clear hpre h45 h46 h10
          go_wp2_with fail
          refine (implBegins HMV2.out.1 ⟨#[45, 45]⟩ hs (by omega) true HP.out).mono ?_
          rintro e w3 ⟨rfl, n3, hw3⟩
          have mv3 : Moved w g s m w3 := hw3 ▸ HMV2.out.drewN n3
          clear hw3
          go_wp2_with fail
          refine (implComment mv3.1 hs (by omega)).mono ?_
          rintro e w4 ⟨rfl, p, hmp, hps, hgp, hend, hmv4⟩
          have hlt4 : m < p := by
            rcases Nat.lt_or_ge m p with h | h
            · exact h
            · have hpm : p = m := by omega
              subst hpm
              rcases hend with h | ⟨_, h⟩
              · omega
              · exact absurd h H10.out
          have HEND := Lib.hid hend
          clear hend
          go_wp2_with fail
          go_roundg (s.size - p)
          case measure => omega
          case rel => exact ⟨p, rfl, by omega, hps, by unfold Hid; rw [hgap.out, HN.out, hgp.out]; omega, mv3.trans hmv4⟩
        · have HS : Hid (gap false (s.data.toList.drop m) = 0) := by
            refine gap_stop_at s m hlt HB.out ?_
            by_cases h45 : s[m].toNat = 45
            · right
              by_cases h1 : m + 1 < s.size
              · right; exact ⟨h1, fun h => h2 ⟨h45, h1, h⟩⟩
              · left; omega
            · exact .inl h45
          have HP : Hid (Lib.hasPrefix (s.data.toList.drop m) [45, 45] = false) := by
            unfold Hid
            rw [hpre, Bool.and_eq_false_iff]
            by_cases h45 : s[m].toNat = 45
            · right
              split
              · rename_i h1; simp only [decide_eq_false_iff_not]; exact fun h => h2 ⟨h45, h1, h⟩
              · rfl
            · left; simpa using h45
          clear hpre h2
          go_wp2_with fail
          refine (implBegins HMV2.out.1 ⟨#[45, 45]⟩ hs (by omega) false HP.out).mono ?_
          rintro e w3 ⟨rfl, n3, hw3⟩
          have mv3 : Moved w g s m w3 := hw3 ▸ HMV2.out.drewN n3
          clear hw3
          go_wp2_with fail
          refine bodyPost_ret (results_none rfl _ _ _) rfl ⟨rfl, ?_⟩
          rw [hgap.out, HS.out, show k + (m - k + 0) = m by omega]
          exact mv3
    · have HMO : Hid (decide (m < s.size) = false) := decide_eq_false hlt
      go_wp2_with fail
      refine (implMore HMV.out.1 hs (by omega) false HMO.out).mono ?_
      rintro e w1 ⟨rfl, n1, rfl⟩
      go_wp2_with fail
      go_end0
      have hme : m = s.size := by omega
      refine ⟨rfl, ?_⟩
      have hz : gap false (s.data.toList.drop m) = 0 := by rw [hme]; exact gap_end_at s false
      rw [hgap.out, hz, show k + (m - k + 0) = m by omega]
      exact HMV.out.drewN n1

end Go.Proofs.YtjnanlfahgjcbaaDoor
