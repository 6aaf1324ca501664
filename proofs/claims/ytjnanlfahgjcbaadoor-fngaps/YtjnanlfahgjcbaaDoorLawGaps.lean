/- The walk of FnGaps. -/
import Derived.Test.YtjnanlfahgjcbaaDoorLexLaid
import Derived.Test.YtjnanlfahgjcbaaDoorLexAns
import Derived.Test.YtjnanlfahgjcbaaDoorTokSameQ
import Derived.Test.YtjnanlfahgjcbaaDoorDrawLex
import Derived.Test.YtjnanlfahgjcbaaDoorLawBase
import Derived.BigQuiet
namespace Go.Proofs.YtjnanlfahgjcbaaDoor
open Go.ChangeShapes Go.WideShapes Go.ChangeAt Go.RowKit

def gapText (s : ByteArray) : ByteArray := ByteArray.mk #[45, 45, 32, 115, 97, 105, 100, 32, 39, 120, 10, 32, 9] ++ s ++ ByteArray.mk #[10, 13, 32, 45, 45, 32, 101, 110, 100]

theorem gapText_eq (s : ByteArray) : (gapText s).data.toList = headB ++ s.data.toList ++ tailB := by
  simp [gapText, headB, tailB]

theorem gapText_size (s : ByteArray) : (gapText s).size = 13 + s.size + 9 := by
  unfold gapText
  rw [append_size2, append_size2]
  rfl

/-- The words behind a head. -/
def behind (ts : List Tok) : List Tok := ts.map fun x => ⟨x.kind, x.text, x.at_ + 13⟩

theorem behind_same (ts : List Tok) : ((behind ts).map tkOf).length = (ts.map tkOf).length ∧ ∀ (k : Nat) (h : k < (ts.map tkOf).length) (h' : k < ((behind ts).map tkOf).length), ((behind ts).map tkOf)[k].kind = (ts.map tkOf)[k].kind ∧ ((behind ts).map tkOf)[k].text = (ts.map tkOf)[k].text ∧ ((behind ts).map tkOf)[k].at_ = (ts.map tkOf)[k].at_ + 13 := by
  refine ⟨by simp [behind], fun k h h' => ?_⟩
  simp [behind, tkOf]

set_option maxRecDepth 100000 in
set_option maxHeartbeats 2000000 in
theorem walkFnGaps (a : Option Addr) (c : Nat) (l : List UInt8) (w : World) (hb : Bytes w a c l) (hL : laidMetH Tryd.prog Rows.fnGapsRow.laid w) :
    Calls Tryd.prog 4 #[.slice a l.length c] w fun e w' => e = .returned (.bool true) ∧ Below w.heap.size w w' := by
  by_cases hbig : 1048576 < l.length
  · clear hL
    go_enter Tryd.func4, Tryd.ntmps4
    go_wp2_with (go_at_call 8; refine (lawsBigYes _ _ _ _ hbig).mono ?_; rintro e w' ⟨rfl, rfl⟩)
    go_ret
    exact ⟨rfl, Below.refl _ _⟩
  · rw [MakeChecks.laidMetH_plain _ _ _ (by kernel_rfl)] at hL
    obtain ⟨p, hG, hlow⟩ := glob_of hL
    have HLEX : Hid (∀ W s, s.size ≤ 1048576 → Below w.heap.size w W → Calls Tryd.prog 10 #[.string s] W (LexAns s W)) := fun W s hs hB => implLex s W hs _ p (hG.below hB hlow) (Nat.le_trans hlow hB.size)
    clear hL hG hlow
    go_enter Tryd.func4, Tryd.ntmps4
    go_wp2_with (go_at_call 8; refine (lawsBigNo _ _ _ _ (by omega)).mono ?_; rintro e w' ⟨rfl, rfl⟩)
    refine (specDrawLex a c l _ hb (by omega)).mono ?_
    rintro e w1 ⟨s, rfl, hs, B1⟩
    by_cases hlong : (19960 : Int) < (s.size : Int)
    · clear HLEX
      go_wp2_with fail
      go_ret
      exact ⟨rfl, B1⟩
    · have hss : s.size ≤ 1048576 := by omega
      have hgz := gapText_size s
      have hgs : (gapText s).size ≤ 1048576 := by omega
      have hlen : s.data.toList.length = s.size := by simp
      have hgap : lexB (gapText s).data.toList = shift 13 (lexB s.data.toList) := by rw [gapText_eq]; exact lexB_gaps (by omega)
      have hadd1 : ¬ (9223372036854775807 < 13 + s.size) := by omega
      have hadd2 : ¬ (9223372036854775807 < 13 + s.size + 9) := by omega
      cases hlex : lexB s.data.toList with
      | error q =>
        rw [hlex] at hgap
        have hpp : ((q : Int) != (q : Int)) = false := by simp
        have hq0 : (0 : Int) ≤ (q : Int) := by omega
        obtain ⟨r, hr⟩ : ∃ r : Nat, r = q + 13 := ⟨_, rfl⟩
        have hgap2 : lexB (gapText s).data.toList = .error r := by rw [hgap, hr]; rfl
        have hr0 : (0 : Int) ≤ (r : Int) := by omega
        have I1 : Hid (∀ W, Below w.heap.size w W → Calls Tryd.prog 10 #[.string s] W fun e w' => ∃ a c, e = .returned (.tuple #[.slice a 0 c, .int .i64 (q : Int)]) ∧ OwnT w' W.heap.size a c [] ∧ Below W.heap.size W w') := fun W hB => (HLEX.out W s hss hB).mono fun _ _ => lexErr hlex
        have S1 : Hid (∀ W, Calls Tryd.prog 11 #[.string s] W fun e w' => ∃ a c, e = .returned (.tuple #[.slice a 0 c, .int .i64 (q : Int)]) ∧ OwnT w' W.heap.size a c [] ∧ Below W.heap.size W w') := fun W => (specLex s W hss).mono fun _ _ => lexErr hlex
        have I2 : Hid (∀ W, Below w.heap.size w W → Calls Tryd.prog 10 #[.string (ByteArray.mk #[45, 45, 32, 115, 97, 105, 100, 32, 39, 120, 10, 32, 9] ++ s ++ ByteArray.mk #[10, 13, 32, 45, 45, 32, 101, 110, 100])] W fun e w' => ∃ a c, e = .returned (.tuple #[.slice a 0 c, .int .i64 (r : Int)]) ∧ OwnT w' W.heap.size a c [] ∧ Below W.heap.size W w') := fun W hB => (HLEX.out W (gapText s) hgs hB).mono fun _ _ => lexErr hgap2
        clear HLEX hlex hgap hgap2 hr
        go_wp2_with fail
        refine (I1.out w1 B1).mono ?_
        rintro e w2 ⟨a2, c2, rfl, own2, b2⟩
        have B2 : Below w.heap.size w w2 := B1.trans (b2.mono B1.size)
        go_wp2_with fail
        refine (I2.out w2 B2).mono ?_
        rintro e w3 ⟨a3, c3, rfl, own3, b3⟩
        have B3 : Below w.heap.size w w3 := B2.trans (b3.mono B2.size)
        go_wp2_with fail
        refine (S1.out w3).mono ?_
        rintro e w4 ⟨a4, c4, rfl, own4, b4⟩
        have B4 : Below w.heap.size w w4 := B3.trans (b4.mono B3.size)
        go_wp2_with fail
        go_ret
        exact ⟨rfl, B4⟩
      | ok ts =>
        rw [hlex] at hgap
        have hfit : FitsT (ts.map tkOf) := by have := (toks_fit s hss).1; unfold toks at this; rw [hlex] at this; exact this
        have hgap2 : lexB (gapText s).data.toList = .ok (behind ts) := hgap
        have hfit2 : FitsT ((behind ts).map tkOf) := by have := (toks_fit (gapText s) hgs).1; unfold toks at this; rw [hgap2] at this; exact this
        obtain ⟨hbl, hbs⟩ := behind_same ts
        obtain ⟨xs, hxs⟩ : ∃ xs, xs = ts.map tkOf := ⟨_, rfl⟩
        obtain ⟨ys, hys⟩ : ∃ ys, ys = (behind ts).map tkOf := ⟨_, rfl⟩
        have I1 : Hid (∀ W, Below w.heap.size w W → Calls Tryd.prog 10 #[.string s] W fun e w' => ∃ a c, e = .returned (.tuple #[.slice a xs.length c, .int .i64 (-1)]) ∧ OwnT w' W.heap.size a c xs ∧ Below W.heap.size W w') := fun W hB => (HLEX.out W s hss hB).mono fun _ _ => lexOk hlex hxs
        have S1 : Hid (∀ W, Calls Tryd.prog 11 #[.string s] W fun e w' => ∃ a c, e = .returned (.tuple #[.slice a xs.length c, .int .i64 (-1)]) ∧ OwnT w' W.heap.size a c xs ∧ Below W.heap.size W w') := fun W => (specLex s W hss).mono fun _ _ => lexOk hlex hxs
        have I2 : Hid (∀ W, Below w.heap.size w W → Calls Tryd.prog 10 #[.string (ByteArray.mk #[45, 45, 32, 115, 97, 105, 100, 32, 39, 120, 10, 32, 9] ++ s ++ ByteArray.mk #[10, 13, 32, 45, 45, 32, 101, 110, 100])] W fun e w' => ∃ a c, e = .returned (.tuple #[.slice a ys.length c, .int .i64 (-1)]) ∧ OwnT w' W.heap.size a c ys ∧ Below W.heap.size W w') := fun W hB => (HLEX.out W (gapText s) hgs hB).mono fun _ _ => lexOk hgap2 hys
        rw [← hxs] at hfit
        rw [← hys] at hfit2
        simp only [← hxs, ← hys] at hbl hbs
        have hsame : ∀ (k : Nat) (h : k < ys.length) (h' : k < xs.length), xs[k].kind = ys[k].kind ∧ xs[k].text = ys[k].text ∧ (false = true → xs[k].at_ = ys[k].at_) := fun k h h' => ⟨(hbs k h' h).1.symm, (hbs k h' h).2.1.symm, fun h => by cases h⟩
        have hplace : ∀ (h : 0 < ys.length) (h' : 0 < xs.length), ys[0].at_ = xs[0].at_ + 13 := fun h h' => (hbs 0 h' h).2.2
        have HSM := Lib.hid hsame
        have HP := Lib.hid hplace
        have HFX := Lib.hid hfit
        have HFY := Lib.hid hfit2
        have HL2 := Lib.hid hbl
        clear HLEX hlex hgap hgap2 hsame hplace hbs hxs hys hfit hfit2 hbl
        go_wp2_with fail
        refine (I1.out w1 B1).mono ?_
        rintro e w2 ⟨a2, c2, rfl, own2, b2⟩
        have B2 : Below w.heap.size w w2 := B1.trans (b2.mono B1.size)
        go_wp2_with fail
        refine (I2.out w2 B2).mono ?_
        rintro e w3 ⟨a3, c3, rfl, own3, b3⟩
        have B3 : Below w.heap.size w w3 := B2.trans (b3.mono B2.size)
        go_wp2_with fail
        refine (S1.out w3).mono ?_
        rintro e w4 ⟨a4, c4, rfl, own4, b4⟩
        have B4 : Below w.heap.size w w4 := B3.trans (b4.mono B3.size)
        have tx := ((own2.below b3).below b4).toks HFX.out
        have ty := (own3.below b4).toks HFY.out
        have SQ : Hid (∀ n, Calls Tryd.prog 12 #[.slice a3 ys.length c3, .slice a2 xs.length c2, .bool false] (w4.drewN n) (Quiet (w4.drewN n) (.bool true))) := fun n => sameToksQ a3 a2 c3 c2 ys xs false _ (ty.below (below_drewN (Below.refl _ _) n)) (tx.below (below_drewN (Below.refl _ _) n)) HL2.out.symm HSM.out
        clear own2 own3 own4 b2 b3 b4 I1 I2 S1
        rcases Nat.eq_zero_or_pos xs.length with h0 | h0
        · have hz : ((xs.length : Int) == 0) = true := by simp [h0]
          have H0 := Lib.hid h0
          clear h0 tx ty
          go_wp2_with fail
          go_quiet ((go_at_call 12; exact Calls.quiet_of (SQ.out _)))
          go_wp2_with fail
          go_ret
          exact ⟨rfl, below_drewN B4 _⟩
        · have hz : ((xs.length : Int) == 0) = false := by rw [beq_eq_false_iff_ne]; omega
          have h0y : 0 < ys.length := by have := HL2.out; omega
          obtain ⟨b, off, rfl, hbl, _, _, hx2⟩ := tx.spot h0
          obtain ⟨b', off', rfl, hbl', _, _, hy2⟩ := ty.spot h0y
          have hi := (HFX.out xs[0] (List.getElem_mem h0)).2.2
          have hi2 := (HFY.out ys[0] (List.getElem_mem h0y)).2.2
          rw [HP.out h0y h0] at hy2 hi2
          unfold isI64 at hi hi2
          generalize xs[0].at_ = q at *
          have hwr : IntKind.i64.wrap (q + 13) = q + 13 := by rw [IntWalk.i64_in _ (by omega)]
          have hqq : ((q + 13) == (q + 13)) = true := by simp
          have g0 : (0 : Int) < (xs.length : Int) := by omega
          have g1 : (0 : Int) < (ys.length : Int) := by omega
          simp only [Nat.zero_mul, Nat.add_zero] at hx2 hy2
          clear hi hi2 HP HSM HFX HFY HL2
          go_wp2_with fail
          go_quiet ((go_at_call 12; exact Calls.quiet_of (SQ.out _)))
          go_wp2_with fail
          go_ret
          exact ⟨rfl, below_drewN B4 _⟩

end Go.Proofs.YtjnanlfahgjcbaaDoor
