/- impl.PutName. -/
import Derived.Test.YtnepfnbmmdcgpaaDoorPutNameP
import Derived.Test.YtnepfnbmmdcgpaaDoorQuoteImpl
import Derived.Test.YtnepfnbmmdcgpaaDoorShelf
namespace Go.Proofs.YtnepfnbmmdcgpaaDoor
open Go.RowKit

set_option maxHeartbeats 2000000 in
theorem implPlain (s : ByteArray) (w : World) (hs : s.size ≤ 1048576) (v : Bool) (hv : plainB s.data.toList = v) :
    Calls Tryd.prog 81 #[.string s] w fun e w' => e = .returned (.bool v) ∧ Below w.heap.size w w' := by
  have HV := Lib.hid hv
  clear hv
  obtain ⟨W, cap, hcv, hbW, hrW, hcap, hcell⟩ := convTextEx w s
  have HC := Lib.hid hcell
  have HB := Lib.hid hbW
  clear hcell hbW hcap
  go_enter Tryd.func81, Tryd.ntmps81
  go_wp2_with fail
  go_loop [10] (fun i => ∃ k : Nat, k ≤ s.size ∧ i = .int .i64 k ∧ Hid (∀ (j : Nat) (hj : j < s.size), j < k → okB s[j] = true ∧ (j = 0 → digitB s[j] = false))) (fun i => s.size - (intOf i).toNat)
  case atStart => exact ⟨0, Nat.zero_le _, rfl, fun j _ h => by omega⟩
  case round =>
    obtain ⟨k, hk, rfl, hall⟩ := hrel
    by_cases hlt : k < s.size
    · have hc : W.cell? ⟨w.heap.size, k, none⟩ = some (.int .u8 (s[k].toNat : Int)) := HC.out k hlt
      have hby := byte_le s[k]
      have next : okB s[k] = true → (k = 0 → digitB s[k] = false) → Hid (∀ (j : Nat) (hj : j < s.size), j < k + 1 → okB s[j] = true ∧ (j = 0 → digitB s[j] = false)) := fun h1 h2 j hj hjk => by
        by_cases e : j = k
        · subst e; exact ⟨h1, h2⟩
        · exact hall.out j hj (by omega)
      have stop : okB s[k] = false ∨ (k = 0 ∧ digitB s[k] = true) → Hid (v = false) := fun h => by unfold Hid; rw [← HV.out]; exact plain_no s k hlt h
      have h0k : (0 : Int) ≤ (k : Int) := by omega
      have hkl : (k : Int) < (s.size : Int) := by omega
      by_cases a1 : s[k].toNat = 95
      · have HN := next (ok_of_small (.inl a1)).1 (fun _ => (ok_of_small (.inl a1)).2)
        have f1 : ((s[k].toNat : Int) == 95) = true := by simp [a1]
        have f2 : decide ((48 : Int) ≤ (s[k].toNat : Int)) = true := by simp; omega
        have f3 : decide ((s[k].toNat : Int) ≤ 57) = false := by simp; omega
        clear next stop a1
        go_wp2_with fail
        exact ⟨⟨k + 1, by omega, by go_num, HN⟩, by simp [intOf]; omega⟩
      · have f1 : ((s[k].toNat : Int) == 95) = false := by rw [beq_eq_false_iff_ne]; omega
        by_cases a2 : 97 ≤ s[k].toNat
        · have f2 : decide ((97 : Int) ≤ (s[k].toNat : Int)) = true := by simp; omega
          have f4 : decide ((48 : Int) ≤ (s[k].toNat : Int)) = true := by simp; omega
          have f5 : decide ((s[k].toNat : Int) ≤ 57) = false := by simp; omega
          by_cases a3 : s[k].toNat ≤ 122
          · have f3 : decide ((s[k].toNat : Int) ≤ 122) = true := by simp; omega
            have HN := next (ok_of_small (.inr ⟨a2, a3⟩)).1 (fun _ => (ok_of_small (.inr ⟨a2, a3⟩)).2)
            clear next stop a1 a2 a3
            go_wp2_with fail
            exact ⟨⟨k + 1, by omega, by go_num, HN⟩, by simp [intOf]; omega⟩
          · have f3 : decide ((s[k].toNat : Int) ≤ 122) = false := by simp; omega
            have HN := stop (.inl (ok_no a1 (by omega) (by omega)))
            clear next stop a1 a2 a3
            cases f6 : ((k : Int) == 0) with
            | true =>
              go_wp2_with fail
              go_ret
              exact ⟨by rw [HN.out]; rfl, HB.out⟩
            | false =>
              go_wp2_with fail
              go_ret
              exact ⟨by rw [HN.out]; rfl, HB.out⟩
        · have f2 : decide ((97 : Int) ≤ (s[k].toNat : Int)) = false := by simp; omega
          by_cases a3 : 48 ≤ s[k].toNat
          · have f3 : decide ((48 : Int) ≤ (s[k].toNat : Int)) = true := by simp; omega
            by_cases a4 : s[k].toNat ≤ 57
            · have f4 : decide ((s[k].toNat : Int) ≤ 57) = true := by simp; omega
              have hd := ok_of_digit ⟨a3, a4⟩
              cases f6 : ((k : Int) == 0) with
              | true =>
                have HN := stop (.inr ⟨by simpa using f6, hd.2⟩)
                clear next stop a1 a2 a3 a4 hd
                go_wp2_with fail
                go_ret
                exact ⟨by rw [HN.out]; rfl, HB.out⟩
              | false =>
                have HN := next hd.1 (fun e => by subst e; simp at f6)
                clear next stop a1 a2 a3 a4 hd
                go_wp2_with fail
                exact ⟨⟨k + 1, by omega, by go_num, HN⟩, by simp [intOf]; omega⟩
            · have f4 : decide ((s[k].toNat : Int) ≤ 57) = false := by simp; omega
              have HN := stop (.inl (ok_no a1 (by omega) (by omega)))
              clear next stop a1 a2 a3 a4
              cases f6 : ((k : Int) == 0) with
              | true =>
                go_wp2_with fail
                go_ret
                exact ⟨by rw [HN.out]; rfl, HB.out⟩
              | false =>
                go_wp2_with fail
                go_ret
                exact ⟨by rw [HN.out]; rfl, HB.out⟩
          · have f3 : decide ((48 : Int) ≤ (s[k].toNat : Int)) = false := by simp; omega
            have HN := stop (.inl (ok_no a1 (by omega) (by omega)))
            clear next stop a1 a2 a3
            cases f6 : ((k : Int) == 0) with
            | true =>
              go_wp2_with fail
              go_ret
              exact ⟨by rw [HN.out]; rfl, HB.out⟩
            | false =>
              go_wp2_with fail
              go_ret
              exact ⟨by rw [HN.out]; rfl, HB.out⟩
    · have HN : Hid (v = !s.toList.isEmpty) := by
        unfold Hid
        rw [← HV.out, Lib.toList_data]
        by_cases h0 : s.size = 0
        · rw [plain_empty s h0]
          have : s.data.toList = [] := List.length_eq_zero_iff.1 (by simpa using h0)
          rw [this]; rfl
        · rw [plain_yes s (by omega) (fun j hj => (hall.out j hj (by omega)).1) ((hall.out 0 (by omega) (by omega)).2 rfl)]
          have : s.data.toList.isEmpty = false := by
            rw [List.isEmpty_eq_false_iff]
            intro e
            have h2 : s.data.toList.length = 0 := by rw [e]; rfl
            have h3 : s.data.toList.length = s.size := by simp
            omega
          rw [this]; rfl
      go_wp2_with fail
      go_ret
      exact ⟨by rw [HN.out]; rfl, HB.out⟩

theorem stringsClone (s : ByteArray) (w : World) (hs : s.size ≤ 1048576) :
    Calls Tryd.prog 71 #[.string s] w fun e w' => e = .returned (.string s) ∧ Below w.heap.size w w' := by
  go_enter Tryd.func71, Tryd.ntmps71
  go_wp2_with fail
  refine (Tryd.stringslite_Clone s _ (by omega)).mono ?_
  rintro e w1 ⟨rfl, b1⟩
  go_wp2_with fail
  go_ret
  exact ⟨rfl, b1⟩

set_option maxHeartbeats 1000000 in
theorem implPutName (s : ByteArray) (w : World) (hs : s.size ≤ 1048576) (r : ByteArray) (hr : nameT s = r) :
    Calls Tryd.prog 60 #[.string s] w fun e w' => e = .returned (.string r) ∧ Below w.heap.size w w' := by
  unfold nameT at hr
  have hp := fun w => implPlain s w hs _ rfl
  have hk := fun w => implReserved s w (keptB s.data.toList) (by rw [Lib.toList_data])
  generalize plainB s.data.toList = p at hr hp
  generalize keptB s.data.toList = q at hr hk
  cases p with
  | false =>
    have HR : Hid (quoteT s 34 = r) := by unfold Hid; rw [← hr]; rfl
    clear hr
    go_enter Tryd.func60, Tryd.ntmps60
    go_wp2_with fail
    refine (hp _).mono ?_
    rintro e w1 ⟨rfl, b1⟩
    go_wp2_with fail
    refine (implQuote s 34 _ hs).mono ?_
    rintro e w2 ⟨rfl, b2⟩
    go_wp2_with fail
    go_ret
    exact ⟨by rw [← HR.out]; rfl, b1.trans (b2.mono b1.size)⟩
  | true =>
    cases q with
    | true =>
      have HR : Hid (quoteT s 34 = r) := by unfold Hid; rw [← hr]; rfl
      clear hr
      go_enter Tryd.func60, Tryd.ntmps60
      go_wp2_with fail
      refine (hp _).mono ?_
      rintro e w1 ⟨rfl, b1⟩
      go_wp2_with fail
      refine (hk _).mono ?_
      rintro e w1' ⟨rfl, rfl⟩
      go_wp2_with fail
      refine (implQuote s 34 _ hs).mono ?_
      rintro e w2 ⟨rfl, b2⟩
      go_wp2_with fail
      go_ret
      exact ⟨by rw [← HR.out]; rfl, b1.trans (b2.mono b1.size)⟩
    | false =>
      have HR : Hid (s = r) := by unfold Hid; rw [← hr]; rfl
      clear hr
      go_enter Tryd.func60, Tryd.ntmps60
      go_wp2_with fail
      refine (hp _).mono ?_
      rintro e w1 ⟨rfl, b1⟩
      go_wp2_with fail
      refine (hk _).mono ?_
      rintro e w1' ⟨rfl, rfl⟩
      go_wp2_with fail
      refine (stringsClone s _ hs).mono ?_
      rintro e w2 ⟨rfl, b2⟩
      go_wp2_with fail
      go_ret
      exact ⟨by rw [← HR.out]; rfl, b1.trans (b2.mono b1.size)⟩

end Go.Proofs.YtnepfnbmmdcgpaaDoor
