/- The walk of FnPlaces. -/
import Derived.Test.YtjnanlfahgjcbaaDoorLexLaid
import Derived.Test.YtjnanlfahgjcbaaDoorDrawLex
import Derived.Test.YtjnanlfahgjcbaaDoorLawBase
import Derived.BigQuiet
namespace Go.Proofs.YtjnanlfahgjcbaaDoor
open Go.ChangeShapes Go.WideShapes Go.ChangeAt Go.RowKit

/-- The byte at which a word of a kind begins. -/
def ClassB (kk : Int) (y : UInt8) : Prop :=
  (kk = 1 ∧ y.toNat = 34) ∨ (kk = 3 ∧ y.toNat = 39) ∨ (kk = 2 ∧ 48 ≤ y.toNat ∧ y.toNat ≤ 57) ∨
  (kk ≠ 1 ∧ kk ≠ 3 ∧ kk ≠ 2 ∧ y.toNat ≠ 34 ∧ y.toNat ≠ 39 ∧ y.toNat < 48) ∨ (kk ≠ 1 ∧ kk ≠ 3 ∧ kk ≠ 2 ∧ y.toNat ≠ 34 ∧ y.toNat ≠ 39 ∧ 48 ≤ y.toNat ∧ 57 < y.toNat)

theorem list_placed (s : ByteArray) (ts : List Tok) (hp : placed s.data.toList 0 ts) : ∀ (k : Nat) (h : k < (ts.map tkOf).length), ∃ (m : Nat) (hm : m < s.size), (ts.map tkOf)[k].at_ = (m : Int) ∧ (0 < k → ∃ h' : k - 1 < (ts.map tkOf).length, (ts.map tkOf)[k - 1].at_ < (ts.map tkOf)[k].at_) ∧ ClassB (ts.map tkOf)[k].kind s[m] := by
  intro k h
  have h' : k < ts.length := by simpa using h
  obtain ⟨_, ⟨b, hb, f1, f2, f3⟩, h3⟩ := placed_at hp k h'
  have hsz : s.data.toList.length = s.size := by simp
  have hm : ts[k].at_ < s.size := by
    rcases Nat.lt_or_ge ts[k].at_ s.size with h | h
    · exact h
    · rw [List.getElem?_eq_none (by omega)] at hb; cases hb
  have hbe : s[ts[k].at_] = b := by
    rw [List.getElem?_eq_getElem (by omega), Option.some.injEq] at hb
    rw [← hb]
    rfl
  refine ⟨ts[k].at_, hm, by simp [tkOf], fun h0 => ?_, ?_⟩
  · obtain ⟨h4, h5⟩ := h3 h0
    refine ⟨by simpa using h4, ?_⟩
    simp only [List.getElem_map, tkOf]
    omega
  · rw [hbe]
    simp only [List.getElem_map, tkOf]
    unfold ClassB
    by_cases k1 : ts[k].kind = 1
    · exact .inl ⟨by omega, f1.1 k1⟩
    · by_cases k3 : ts[k].kind = 3
      · exact .inr (.inl ⟨by omega, f2.1 k3⟩)
      · by_cases k2 : ts[k].kind = 2
        · exact .inr (.inr (.inl ⟨by omega, f3.1 k2⟩))
        · have n1 := fun h => k1 (f1.2 h)
          have n3 := fun h => k3 (f2.2 h)
          have n2 := fun h => k2 (f3.2 h)
          rcases Nat.lt_or_ge b.toNat 48 with h | h
          · exact .inr (.inr (.inr (.inl ⟨by omega, by omega, by omega, n1, n3, h⟩)))
          · exact .inr (.inr (.inr (.inr ⟨by omega, by omega, by omega, n1, n3, h, by omega⟩)))

theorem toks_placed (s : ByteArray) : ∀ (k : Nat) (h : k < (toks s).length), ∃ (m : Nat) (hm : m < s.size), (toks s)[k].at_ = (m : Int) ∧ (0 < k → ∃ h' : k - 1 < (toks s).length, (toks s)[k - 1].at_ < (toks s)[k].at_) ∧ ClassB (toks s)[k].kind s[m] := by
  refine list_placed s _ ?_
  cases hl : lexB s.data.toList with
  | error e => exact trivial
  | ok ts => exact lexB_placed hl

set_option maxRecDepth 100000 in
set_option maxHeartbeats 4000000 in
theorem walkFnPlaces (a : Option Addr) (c : Nat) (l : List UInt8) (w : World) (hb : Bytes w a c l) (hL : laidMetH Tryd.prog Rows.fnPlacesRow.laid w) :
    Calls Tryd.prog 3 #[.slice a l.length c] w fun e w' => e = .returned (.bool true) ∧ Below w.heap.size w w' := by
  by_cases hbig : 1048576 < l.length
  · clear hL
    go_enter Tryd.func3, Tryd.ntmps3
    go_wp2_with (go_at_call 8; refine (lawsBigYes _ _ _ _ hbig).mono ?_; rintro e w' ⟨rfl, rfl⟩)
    go_ret
    exact ⟨rfl, Below.refl _ _⟩
  · rw [MakeChecks.laidMetH_plain _ _ _ (by kernel_rfl)] at hL
    obtain ⟨p, hG, hlow⟩ := glob_of hL
    have HLEX : Hid (∀ W s, s.size ≤ 1048576 → Below w.heap.size w W → Calls Tryd.prog 10 #[.string s] W (LexAns s W)) := fun W s hs hB => implLex s W hs _ p (hG.below hB hlow) (Nat.le_trans hlow hB.size)
    clear hL hG hlow
    go_enter Tryd.func3, Tryd.ntmps3
    go_wp2_with (go_at_call 8; refine (lawsBigNo _ _ _ _ (by omega)).mono ?_; rintro e w' ⟨rfl, rfl⟩)
    refine (specDrawLex a c l _ hb (by omega)).mono ?_
    rintro e w1 ⟨s, rfl, hs, B1⟩
    have hss : s.size ≤ 1048576 := by omega
    obtain ⟨hfit, hlen⟩ := toks_fit s hss
    have PL := Lib.hid (toks_placed s)
    have hpp : (placeOf (lexB s.data.toList) != placeOf (lexB s.data.toList)) = false := by simp
    have I1 : Hid (∀ W, Below w.heap.size w W → Calls Tryd.prog 10 #[.string s] W fun e w' => ∃ a c, e = .returned (.tuple #[.slice a (toks s).length c, .int .i64 (placeOf (lexB s.data.toList))]) ∧ OwnT w' W.heap.size a c (toks s) ∧ Below W.heap.size W w') := fun W hB => HLEX.out W s hss hB
    have S1 : Hid (∀ W, Calls Tryd.prog 11 #[.string s] W fun e w' => ∃ a c, e = .returned (.tuple #[.slice a (toks s).length c, .int .i64 (placeOf (lexB s.data.toList))]) ∧ OwnT w' W.heap.size a c (toks s) ∧ Below W.heap.size W w') := fun W => specLex s W hss
    clear HLEX
    generalize placeOf (lexB s.data.toList) = pl at *
    generalize toks s = xs at *
    go_wp2_with fail
    refine (I1.out w1 B1).mono ?_
    rintro e w2 ⟨a2, c2, rfl, own2, b2⟩
    have B2 : Below w.heap.size w w2 := B1.trans (b2.mono B1.size)
    go_wp2_with fail
    refine (S1.out w2).mono ?_
    rintro e w3 ⟨a3, c3, rfl, own3, b3⟩
    have B3 : Below w.heap.size w w3 := B2.trans (b3.mono B2.size)
    have hx := (own2.below b3).toks hfit
    have HX := Lib.hid hx
    have HF := Lib.hid hfit
    clear own2 own3 b2 b3 I1 S1 hfit hx
    go_wp2_with fail
    go_loopw [8] (fun i wr => ∃ k : Nat, k ≤ xs.length ∧ i = .int .i64 k ∧ Below w3.heap.size w3 wr) (fun i _ => xs.length - (intOf i).toNat)
    case atStart => exact ⟨0, Nat.zero_le _, rfl, Below.refl _ _⟩
    case round =>
      obtain ⟨k, hk, rfl, hbw⟩ := hrel
      by_cases hlt : k < xs.length
      · have hx := HX.out.below hbw
        obtain ⟨b, off, rfl, hbl, hc0, hc1, hc2⟩ := hx.spot hlt
        obtain ⟨m, hm, hat, hprev, hcl⟩ := PL.out k hlt
        rw [hat] at hc2
        have h0k : (0 : Int) ≤ (k : Int) := by omega
        have hkl : (k : Int) < (xs.length : Int) := by omega
        have q0 : decide ((m : Int) < 0) = false := by simp
        have q1 : decide (s.size ≤ m) = false := by simp; omega
        have h0m : (0 : Int) ≤ (m : Int) := by omega
        have hms : (m : Int) < (s.size : Int) := by omega
        generalize hkk : xs[k].kind = kk at *
        rcases Nat.eq_zero_or_pos k with h0 | h0
        · have hd0 : decide (0 < k) = false := by simp; omega
          have K0 := Lib.hid h0
          clear h0
          rcases hcl with hcl | hcl | hcl | hcl | hcl
          · obtain ⟨c1, c2⟩ := hcl
            have e1 : (kk == 1) = true := by simp; omega
            have e3 : (kk == 3) = false := by simp; omega
            have e2 : (kk == 2) = false := by simp; omega
            have y34 : ((s[m].toNat : Int) == 34) = true := by simp; omega
            have y39 : ((s[m].toNat : Int) == 39) = false := by simp; omega
            have d48 : decide ((48 : Int) ≤ (s[m].toNat : Int)) = false := by simp; omega
            have d57 : decide ((s[m].toNat : Int) ≤ 57) = true := by simp; omega
            clear hprev hat PL HX HF
            clear c1 c2
            go_wp2_with fail
            go_quiet (fail)
            go_wp2_with fail
            go_roundw
            case rel => exact ⟨k + 1, by omega, by go_num, below_drewN hbw _⟩
            case measure => simp [intOf]; omega
          · obtain ⟨c1, c2⟩ := hcl
            have e1 : (kk == 1) = false := by simp; omega
            have e3 : (kk == 3) = true := by simp; omega
            have e2 : (kk == 2) = false := by simp; omega
            have y34 : ((s[m].toNat : Int) == 34) = false := by simp; omega
            have y39 : ((s[m].toNat : Int) == 39) = true := by simp; omega
            have d48 : decide ((48 : Int) ≤ (s[m].toNat : Int)) = false := by simp; omega
            have d57 : decide ((s[m].toNat : Int) ≤ 57) = true := by simp; omega
            clear hprev hat PL HX HF
            clear c1 c2
            go_wp2_with fail
            go_quiet (fail)
            go_wp2_with fail
            go_roundw
            case rel => exact ⟨k + 1, by omega, by go_num, below_drewN hbw _⟩
            case measure => simp [intOf]; omega
          · obtain ⟨c1, c2, c3⟩ := hcl
            have e1 : (kk == 1) = false := by simp; omega
            have e3 : (kk == 3) = false := by simp; omega
            have e2 : (kk == 2) = true := by simp; omega
            have y34 : ((s[m].toNat : Int) == 34) = false := by simp; omega
            have y39 : ((s[m].toNat : Int) == 39) = false := by simp; omega
            have d48 : decide ((48 : Int) ≤ (s[m].toNat : Int)) = true := by simp; omega
            have d57 : decide ((s[m].toNat : Int) ≤ 57) = true := by simp; omega
            clear hprev hat PL HX HF
            clear c1 c2 c3
            go_wp2_with fail
            go_quiet (fail)
            go_wp2_with fail
            go_roundw
            case rel => exact ⟨k + 1, by omega, by go_num, below_drewN hbw _⟩
            case measure => simp [intOf]; omega
          · obtain ⟨c1, c3, c2, c4, c5, c6⟩ := hcl
            have e1 : (kk == 1) = false := by simp; omega
            have e3 : (kk == 3) = false := by simp; omega
            have e2 : (kk == 2) = false := by simp; omega
            have y34 : ((s[m].toNat : Int) == 34) = false := by simp; omega
            have y39 : ((s[m].toNat : Int) == 39) = false := by simp; omega
            have d48 : decide ((48 : Int) ≤ (s[m].toNat : Int)) = false := by simp; omega
            have d57 : decide ((s[m].toNat : Int) ≤ 57) = true := by simp; omega
            clear hprev hat PL HX HF
            clear c1 c3 c2 c4 c5 c6
            go_wp2_with fail
            go_quiet (fail)
            go_wp2_with fail
            go_roundw
            case rel => exact ⟨k + 1, by omega, by go_num, below_drewN hbw _⟩
            case measure => simp [intOf]; omega
          · obtain ⟨c1, c3, c2, c4, c5, c6, c7⟩ := hcl
            have e1 : (kk == 1) = false := by simp; omega
            have e3 : (kk == 3) = false := by simp; omega
            have e2 : (kk == 2) = false := by simp; omega
            have y34 : ((s[m].toNat : Int) == 34) = false := by simp; omega
            have y39 : ((s[m].toNat : Int) == 39) = false := by simp; omega
            have d48 : decide ((48 : Int) ≤ (s[m].toNat : Int)) = true := by simp; omega
            have d57 : decide ((s[m].toNat : Int) ≤ 57) = false := by simp; omega
            clear hprev hat PL HX HF
            clear c1 c3 c2 c4 c5 c6 c7
            go_wp2_with fail
            go_quiet (fail)
            go_wp2_with fail
            go_roundw
            case rel => exact ⟨k + 1, by omega, by go_num, below_drewN hbw _⟩
            case measure => simp [intOf]; omega
        · have hd0 : decide (0 < k) = true := by simp; omega
          obtain ⟨hj, hprev2⟩ := hprev h0
          obtain ⟨bb, oo, hbb, _, _, _, hp2⟩ := hx.spot hj
          cases hbb
          obtain ⟨j, hjk⟩ : ∃ j, j = k - 1 := ⟨_, rfl⟩
          have hwj : IntKind.i64.wrap ((k : Int) - 1) = (j : Int) := by rw [IntWalk.i64_in _ (by omega)]; omega
          obtain ⟨m2, hm2, hat2, _, _⟩ := PL.out (k - 1) hj
          rw [hat2, ← hjk] at hp2
          have qj : decide (m ≤ m2) = false := by simp; omega
          have h0j : (0 : Int) ≤ (j : Int) := by omega
          have hjl : (j : Int) < (xs.length : Int) := by omega
          have K0 := Lib.hid h0
          have KJ := Lib.hid hjk
          clear h0 hjk hprev2 hat2
          rcases hcl with hcl | hcl | hcl | hcl | hcl
          · obtain ⟨c1, c2⟩ := hcl
            have e1 : (kk == 1) = true := by simp; omega
            have e3 : (kk == 3) = false := by simp; omega
            have e2 : (kk == 2) = false := by simp; omega
            have y34 : ((s[m].toNat : Int) == 34) = true := by simp; omega
            have y39 : ((s[m].toNat : Int) == 39) = false := by simp; omega
            have d48 : decide ((48 : Int) ≤ (s[m].toNat : Int)) = false := by simp; omega
            have d57 : decide ((s[m].toNat : Int) ≤ 57) = true := by simp; omega
            clear hprev hat PL HX HF
            clear c1 c2
            go_wp2_with fail
            go_quiet (fail)
            go_wp2_with fail
            go_roundw
            case rel => exact ⟨k + 1, by omega, by go_num, below_drewN hbw _⟩
            case measure => simp [intOf]; omega
          · obtain ⟨c1, c2⟩ := hcl
            have e1 : (kk == 1) = false := by simp; omega
            have e3 : (kk == 3) = true := by simp; omega
            have e2 : (kk == 2) = false := by simp; omega
            have y34 : ((s[m].toNat : Int) == 34) = false := by simp; omega
            have y39 : ((s[m].toNat : Int) == 39) = true := by simp; omega
            have d48 : decide ((48 : Int) ≤ (s[m].toNat : Int)) = false := by simp; omega
            have d57 : decide ((s[m].toNat : Int) ≤ 57) = true := by simp; omega
            clear hprev hat PL HX HF
            clear c1 c2
            go_wp2_with fail
            go_quiet (fail)
            go_wp2_with fail
            go_roundw
            case rel => exact ⟨k + 1, by omega, by go_num, below_drewN hbw _⟩
            case measure => simp [intOf]; omega
          · obtain ⟨c1, c2, c3⟩ := hcl
            have e1 : (kk == 1) = false := by simp; omega
            have e3 : (kk == 3) = false := by simp; omega
            have e2 : (kk == 2) = true := by simp; omega
            have y34 : ((s[m].toNat : Int) == 34) = false := by simp; omega
            have y39 : ((s[m].toNat : Int) == 39) = false := by simp; omega
            have d48 : decide ((48 : Int) ≤ (s[m].toNat : Int)) = true := by simp; omega
            have d57 : decide ((s[m].toNat : Int) ≤ 57) = true := by simp; omega
            clear hprev hat PL HX HF
            clear c1 c2 c3
            go_wp2_with fail
            go_quiet (fail)
            go_wp2_with fail
            go_roundw
            case rel => exact ⟨k + 1, by omega, by go_num, below_drewN hbw _⟩
            case measure => simp [intOf]; omega
          · obtain ⟨c1, c3, c2, c4, c5, c6⟩ := hcl
            have e1 : (kk == 1) = false := by simp; omega
            have e3 : (kk == 3) = false := by simp; omega
            have e2 : (kk == 2) = false := by simp; omega
            have y34 : ((s[m].toNat : Int) == 34) = false := by simp; omega
            have y39 : ((s[m].toNat : Int) == 39) = false := by simp; omega
            have d48 : decide ((48 : Int) ≤ (s[m].toNat : Int)) = false := by simp; omega
            have d57 : decide ((s[m].toNat : Int) ≤ 57) = true := by simp; omega
            clear hprev hat PL HX HF
            clear c1 c3 c2 c4 c5 c6
            go_wp2_with fail
            go_quiet (fail)
            go_wp2_with fail
            go_roundw
            case rel => exact ⟨k + 1, by omega, by go_num, below_drewN hbw _⟩
            case measure => simp [intOf]; omega
          · obtain ⟨c1, c3, c2, c4, c5, c6, c7⟩ := hcl
            have e1 : (kk == 1) = false := by simp; omega
            have e3 : (kk == 3) = false := by simp; omega
            have e2 : (kk == 2) = false := by simp; omega
            have y34 : ((s[m].toNat : Int) == 34) = false := by simp; omega
            have y39 : ((s[m].toNat : Int) == 39) = false := by simp; omega
            have d48 : decide ((48 : Int) ≤ (s[m].toNat : Int)) = true := by simp; omega
            have d57 : decide ((s[m].toNat : Int) ≤ 57) = false := by simp; omega
            clear hprev hat PL HX HF
            clear c1 c3 c2 c4 c5 c6 c7
            go_wp2_with fail
            go_quiet (fail)
            go_wp2_with fail
            go_roundw
            case rel => exact ⟨k + 1, by omega, by go_num, below_drewN hbw _⟩
            case measure => simp [intOf]; omega
      · go_wp2_with fail
        go_ret
        exact ⟨rfl, B3.trans (hbw.mono B3.size)⟩

end Go.Proofs.YtjnanlfahgjcbaaDoor
