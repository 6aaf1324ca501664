/- impl.ReadDec answers the number that a text spells, or -1. -/
import Derived.Test.YtjnanlfahgjcbaaDoorReadDec
import Derived.Test.YtjnanlfahgjcbaaDoorDecImpl
namespace Go.Proofs.YtjnanlfahgjcbaaDoor
open Go.RowKit

theorem decDigits_first (u : Nat) : ∃ b r, Lib.decDigits u = b :: r ∧ 48 ≤ b.toNat ∧ b.toNat ≤ 57 := by
  rw [Lib.decDigits_eq]
  have hp := Lib.nDigits_pos u
  obtain ⟨k, hk⟩ : ∃ k, Lib.nDigits u = k + 1 := ⟨Lib.nDigits u - 1, by omega⟩
  rw [hk, List.range_succ_eq_map, List.map_cons]
  refine ⟨_, _, rfl, ?_⟩
  unfold Lib.dg
  have h1 : u / 10 ^ (k + 1 - 1 - 0) % 10 < 10 := Nat.mod_lt _ (by omega)
  have h2 : (UInt8.ofNat (48 + u / 10 ^ (k + 1 - 1 - 0) % 10)).toNat = 48 + u / 10 ^ (k + 1 - 1 - 0) % 10 := by
    rw [UInt8.toNat_ofNat']
    omega
  omega

theorem itoa_nat (m : Nat) : Lib.itoa (m : Int) = Lib.decDigits m := by
  unfold Lib.itoa
  rw [if_neg (by omega), Int.toNat_natCast]

theorem atoi_of_dec {l : List UInt8} {m : Nat} (h : Lib.decNat l = some m) : Lib.atoi l = some (m : Int) := by
  obtain ⟨h0, h1⟩ := Lib.decNat_some h
  cases l with
  | nil => exact absurd rfl h0
  | cons b r =>
    have hb : ∃ d, Lib.digitVal b = some d := by
      rw [Lib.decFrom] at h1
      cases hv : Lib.digitVal b with
      | none => rw [hv] at h1; cases h1
      | some d => exact ⟨d, rfl⟩
    obtain ⟨d, hd⟩ := hb
    have hr : 48 ≤ b.toNat := by
      unfold Lib.digitVal at hd
      split at hd
      · omega
      · cases hd
    have n45 : (b == 45) = false := by
      rw [beq_eq_false_iff_ne]; intro e; subst e; simp at hr
    have n43 : (b == 43) = false := by
      rw [beq_eq_false_iff_ne]; intro e; subst e; simp at hr
    rw [Lib.atoi]
    simp only [n45, n43, Bool.false_eq_true, if_false, h, Option.map_some]

theorem readD_none {l : List UInt8} (h : Lib.atoi l = none) : readD l = -1 := by
  unfold readD
  split
  · rfl
  · cases hd : Lib.decNat l with
    | none => rfl
    | some m => rw [atoi_of_dec hd] at h; cases h

theorem readD_some {l : List UInt8} {n : Int} (h9 : l.length ≤ 9) (h : Lib.atoi l = some n) : readD l = if n < 0 then -1 else if Lib.itoa n = l then n else -1 := by
  unfold readD
  rw [if_neg (by omega)]
  cases hd : Lib.decNat l with
  | some m =>
    have := atoi_of_dec hd
    rw [h] at this
    cases this
    rw [if_neg (by omega)]
  | none =>
    by_cases hn : n < 0
    · rw [if_pos hn]
    · rw [if_neg hn, if_neg]
      intro he
      obtain ⟨m, rfl⟩ := Int.eq_ofNat_of_zero_le (show 0 ≤ n by omega)
      rw [itoa_nat] at he
      obtain ⟨b, r, hbr, hb1, hb2⟩ := decDigits_first m
      rw [hbr] at he
      subst he
      have n45 : (b == 45) = false := by
        rw [beq_eq_false_iff_ne]; intro e; subst e; simp at hb1
      have n43 : (b == 43) = false := by
        rw [beq_eq_false_iff_ne]; intro e; subst e; simp at hb1
      rw [Lib.atoi] at h
      simp only [n45, n43, Bool.false_eq_true, if_false, hd] at h
      cases h

theorem belowBytes (w : World) (t : ByteArray) : Below w.heap.size w (Lib.bytesWorld w 5 t) :=
  ⟨rfl, rfl, rfl, by rw [Lib.bytesWorld_size]; omega, fun k hk => Lib.bytesWorld_at_old _ _ _ k hk⟩

theorem atoi_bound {l : List UInt8} {n : Int} (h9 : l.length ≤ 9) (h : Lib.atoi l = some n) : -1000000000000000000 ≤ n ∧ n ≤ 1000000000000000000 := by
  have key : ∀ (r : List UInt8) (m : Nat), Lib.decNat r = some m → r.length ≤ 18 → m < 1000000000000000000 := fun r m hm hr => Lib.decFrom_lt18 (Lib.decNat_some hm).2 hr
  cases l with
  | nil => cases h
  | cons b r =>
    have hr : r.length ≤ 18 := by simp at h9; omega
    rw [Lib.atoi] at h
    split at h
    · cases hd : Lib.decNat r with
      | none => rw [hd] at h; cases h
      | some m => rw [hd] at h; cases h; have := key r m hd hr; dsimp only; omega
    · split at h
      · cases hd : Lib.decNat r with
        | none => rw [hd] at h; cases h
        | some m => rw [hd] at h; cases h; have := key r m hd hr; dsimp only; omega
      · cases hd : Lib.decNat (b :: r) with
        | none => rw [hd] at h; cases h
        | some m => rw [hd] at h; cases h; have := key (b :: r) m hd (by simp at h9 ⊢; omega); dsimp only; omega

set_option maxHeartbeats 1000000 in
theorem implReadDec (s : ByteArray) (w : World) (ht : Lib.TabIs Tryd.prog w "internal/strconv.uint64pow10" .u64 Lib.pow10Tab) (tp : TypeId) (p : Value) (hv : w.var? Tryd.prog "strconv.ErrSyntax" = some #[.iface tp p]) :
    Calls Tryd.prog 43 #[.string s] w fun e w' => e = .returned (.int .i64 (readD s.data.toList)) ∧ Below w.heap.size w w' := by
  have hll : s.data.toList.length = s.size := by simp
  have HT := Lib.hid ht
  have HV := Lib.hid hv
  clear ht hv
  by_cases h9 : s.size ≤ 9
  · cases ha : Lib.atoi s.data.toList with
    | none =>
      have HR := Lib.hid (readD_none ha)
      have HA := Lib.hid ha
      clear ha hll
      go_enter Tryd.func43, Tryd.ntmps43
      go_wp2_with (go_at_call 63; refine (Tryd.strconv_Atoi_err_var s (by omega) HA.out tp p w HV.out).mono ?_; rintro e w' ⟨N, rfl, hN, hcell, hb⟩)
      go_ret
      exact ⟨by rw [HR.out]; rfl, hb⟩
    | some n =>
      have HR := Lib.hid (readD_some (by omega) ha)
      obtain ⟨hb0, hb1⟩ := atoi_bound (by omega) ha
      have HA := Lib.hid ha
      clear ha hll
      by_cases hneg : n < 0
      · go_enter Tryd.func43, Tryd.ntmps43
        go_wp2_with (go_at_call 63; refine (Tryd.strconv_Atoi s n (by omega) HA.out w).mono ?_; rintro e w' ⟨rfl, t, rfl⟩)
        go_ret
        exact ⟨by rw [HR.out, if_pos hneg]; rfl, belowBytes _ _⟩
      · have HT' : ∀ t, Lib.TabIs Tryd.prog (Lib.bytesWorld w 5 t) "internal/strconv.uint64pow10" .u64 Lib.pow10Tab := fun t => Lib.bytesWorld_var _ _ _ HT.out
        have HTs := Lib.hid HT'
        clear HT'
        by_cases he : Lib.itoa n = s.data.toList
        · have ht : (!((dec n).toList == s.toList)) = false := by simp [Lib.toList_data, dec, he]
          have HE := Lib.hid he
          clear he
          go_enter Tryd.func43, Tryd.ntmps43
          go_wp2_with (first
            | (go_at_call 63; refine (Tryd.strconv_Atoi s n (by omega) HA.out w).mono ?_; rintro e w' ⟨rfl, t, rfl⟩)
            | (go_at_call 64; refine (implDecText n _ (by omega) (by omega) (HTs.out _)).mono ?_; rintro e w2 ⟨rfl, hb2⟩))
          go_ret
          exact ⟨by rw [HR.out, if_neg (by omega), if_pos HE.out]; rfl, (belowBytes _ _).trans (hb2.mono (belowBytes _ _).size)⟩
        · have ht : (!((dec n).toList == s.toList)) = true := by simp [Lib.toList_data, dec, he]
          have HE := Lib.hid he
          clear he
          go_enter Tryd.func43, Tryd.ntmps43
          go_wp2_with (first
            | (go_at_call 63; refine (Tryd.strconv_Atoi s n (by omega) HA.out w).mono ?_; rintro e w' ⟨rfl, t, rfl⟩)
            | (go_at_call 64; refine (implDecText n _ (by omega) (by omega) (HTs.out _)).mono ?_; rintro e w2 ⟨rfl, hb2⟩))
          go_ret
          exact ⟨by rw [HR.out, if_neg (by omega), if_neg HE.out]; rfl, (belowBytes _ _).trans (hb2.mono (belowBytes _ _).size)⟩
  · have HR : Hid (readD s.data.toList = -1) := by unfold Hid readD; rw [if_pos (by omega)]
    clear hll
    go_enter Tryd.func43, Tryd.ntmps43
    go_wp2_with fail
    go_ret
    exact ⟨by rw [HR.out]; rfl, Below.refl _ _⟩

end Go.Proofs.YtjnanlfahgjcbaaDoor
