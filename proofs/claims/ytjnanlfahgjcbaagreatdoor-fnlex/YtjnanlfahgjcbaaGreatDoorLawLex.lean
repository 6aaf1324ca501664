/- The walk of FnLex. -/
import Derived.Test.YtjnanlfahgjcbaaGreatDoorLawLexP
import Derived.Test.YtjnanlfahgjcbaaGreatDoorLexAns
import Derived.Test.YtjnanlfahgjcbaaGreatDoorTokSame
import Derived.Test.YtjnanlfahgjcbaaGreatDoorDrawLex
import Derived.Test.YtjnanlfahgjcbaaGreatDoorLawBase
namespace Go.Proofs.YtjnanlfahgjcbaaGreatDoor
open Go.ChangeShapes Go.WideShapes Go.ChangeAt Go.RowKit

set_option maxHeartbeats 2000000 in
theorem walkFnLex (a : Option Addr) (c : Nat) (l : List UInt8) (w : World) (hb : Bytes w a c l) (hL : laidMetH Tryz.prog Rows.fnLexRow.laid w) :
    Calls Tryz.prog 3 #[.slice a l.length c] w fun e w' => e = .returned (.bool true) ∧ Below w.heap.size w w' := by
  by_cases hbig : 1048576 < l.length
  · clear hL
    go_enter Tryz.func3, Tryz.ntmps3
    go_wp2_with (go_at_call 4; refine (lawsBigYes _ _ _ _ hbig).mono ?_; rintro e w' ⟨rfl, rfl⟩)
    go_ret
    exact ⟨rfl, Below.refl _ _⟩
  · rw [MakeChecks.laidMetH_plain _ _ _ (by kernel_rfl)] at hL
    obtain ⟨p, hG, hlow⟩ := glob_of hL
    have HLEX : Hid (∀ W s, s.size ≤ 1048576 → Below w.heap.size w W → Calls Tryz.prog 6 #[.string s] W (LexAns s W)) := fun W s hs hB => implLex s W hs _ p (hG.below hB hlow) (Nat.le_trans hlow hB.size)
    clear hL hG hlow
    go_enter Tryz.func3, Tryz.ntmps3
    go_wp2_with (go_at_call 4; refine (lawsBigNo _ _ _ _ (by omega)).mono ?_; rintro e w' ⟨rfl, rfl⟩)
    refine (specDrawLex a c l _ hb (by omega)).mono ?_
    rintro e w1 ⟨s, rfl, hs, B1⟩
    have hss : s.size ≤ 1048576 := by omega
    have hlen : s.data.toList.length = s.size := by simp
    cases hlex : lexB s.data.toList with
    | error q =>
      have hq := lexB_error hlex
      have hq1 : (q : Int) ≤ (s.size : Int) := by omega
      have hq0 : (0 : Int) ≤ (q : Int) := by omega
      have hpp : ((q : Int) != (q : Int)) = false := by simp
      have I1 : Hid (∀ W, Below w.heap.size w W → Calls Tryz.prog 6 #[.string s] W fun e w' => ∃ a c, e = .returned (.tuple #[.slice a 0 c, .int .i64 (q : Int)]) ∧ OwnT w' W.heap.size a c [] ∧ Below W.heap.size W w') := fun W hB => (HLEX.out W s hss hB).mono fun _ _ => lexErr hlex
      have S1 : Hid (∀ W, Calls Tryz.prog 7 #[.string s] W fun e w' => ∃ a c, e = .returned (.tuple #[.slice a 0 c, .int .i64 (q : Int)]) ∧ OwnT w' W.heap.size a c [] ∧ Below W.heap.size W w') := fun W => (specLex s W hss).mono fun _ _ => lexErr hlex
      clear HLEX hlex hq
      go_wp2_with fail
      refine (I1.out w1 B1).mono ?_
      rintro e w2 ⟨a2, c2, rfl, own2, b2⟩
      have B2 : Below w.heap.size w w2 := B1.trans (b2.mono B1.size)
      go_wp2_with fail
      refine (S1.out w2).mono ?_
      rintro e w3 ⟨a3, c3, rfl, own3, b3⟩
      have B3 : Below w.heap.size w w3 := B2.trans (b3.mono B2.size)
      have t2 := (own2.below b3).toks (fun x hx => by cases hx)
      have t3 := own3.toks (fun x hx => by cases hx)
      clear own2 own3
      go_wp2_with fail
      refine (sameToks a2 a3 c2 c3 [] [] true w3 t2 t3 rfl (fun k h => by simp at h)).mono ?_
      rintro e w4 ⟨rfl, b4⟩
      have B4 : Below w.heap.size w w4 := B3.trans (b4.mono B3.size)
      go_wp2_with fail
      go_ret
      exact ⟨rfl, B4⟩
    | ok ts =>
      have hbd := toks_bd hlex
      have hfit : FitsT (ts.map tkOf) := by have := (toks_fit s hss).1; unfold toks at this; rw [hlex] at this; exact this
      obtain ⟨xs, hxs⟩ : ∃ xs, xs = ts.map tkOf := ⟨_, rfl⟩
      have I1 : Hid (∀ W, Below w.heap.size w W → Calls Tryz.prog 6 #[.string s] W fun e w' => ∃ a c, e = .returned (.tuple #[.slice a xs.length c, .int .i64 (-1)]) ∧ OwnT w' W.heap.size a c xs ∧ Below W.heap.size W w') := fun W hB => (HLEX.out W s hss hB).mono fun _ _ => lexOk hlex hxs
      have S1 : Hid (∀ W, Calls Tryz.prog 7 #[.string s] W fun e w' => ∃ a c, e = .returned (.tuple #[.slice a xs.length c, .int .i64 (-1)]) ∧ OwnT w' W.heap.size a c xs ∧ Below W.heap.size W w') := fun W => (specLex s W hss).mono fun _ _ => lexOk hlex hxs
      obtain ⟨t, htt⟩ : ∃ t, t = spellT xs := ⟨_, rfl⟩
      have hback : t.size ≤ 20000 → Hid (∃ us : List Tok, lexB t.data.toList = .ok us ∧ kt us = kt ts) := by
        intro hz
        rw [htt, hxs] at hz
        have := spell_lex hlex hz
        rw [← hxs, ← htt] at this
        exact this
      have HBACK := Lib.hid hback
      rw [← hxs] at hbd hfit
      have HXS := Lib.hid hxs
      have HT := Lib.hid htt
      clear hlex hback hxs htt
      go_wp2_with fail
      refine (I1.out w1 B1).mono ?_
      rintro e w2 ⟨a2, c2, rfl, own2, b2⟩
      have B2 : Below w.heap.size w w2 := B1.trans (b2.mono B1.size)
      go_wp2_with fail
      refine (S1.out w2).mono ?_
      rintro e w3 ⟨a3, c3, rfl, own3, b3⟩
      have B3 : Below w.heap.size w w3 := B2.trans (b3.mono B2.size)
      have t2 := (own2.below b3).toks hfit
      have t3 := own3.toks hfit
      clear own2 own3
      go_wp2_with fail
      refine (sameToks a2 a3 c2 c3 xs xs true w3 t2 t3 rfl (fun k h h' => ⟨rfl, rfl, fun _ => rfl⟩)).mono ?_
      rintro e w4 ⟨rfl, b4⟩
      have B4 : Below w.heap.size w w4 := B3.trans (b4.mono B3.size)
      have t24 := t2.below b4
      clear t2 t3
      go_wp2_with fail
      refine (implSpell a2 c2 xs w4 t24 hbd).mono ?_
      rw [← HT.out]
      rintro e w5 ⟨rfl, b5⟩
      have B5 : Below w.heap.size w w5 := B4.trans (b5.mono B4.size)
      have t25 := t24.below b5
      clear t24
      by_cases hz : (20000 : Int) < (t.size : Int)
      · go_wp2_with fail
        go_ret
        exact ⟨rfl, B5⟩
      · obtain ⟨us, hus, hku⟩ := (HBACK.out (by omega)).out
        have htz : t.size ≤ 1048576 := by omega
        obtain ⟨hul, hsame⟩ := kt_same hku
        obtain ⟨hsp, hsb⟩ := kt_spell hku
        obtain ⟨ys, hys⟩ : ∃ ys, ys = us.map tkOf := ⟨_, rfl⟩
        have I2 : Hid (∀ W, Below w.heap.size w W → Calls Tryz.prog 6 #[.string t] W fun e w' => ∃ a c, e = .returned (.tuple #[.slice a ys.length c, .int .i64 (-1)]) ∧ OwnT w' W.heap.size a c ys ∧ Below W.heap.size W w') := fun W hB => (HLEX.out W t htz hB).mono fun _ _ => lexOk hus hys
        have hfy : FitsT ys := by have := (toks_fit t htz).1; unfold toks at this; rw [hus] at this; rw [hys]; exact this
        have hby : ys.length + tlets ys ≤ 1048576 := by rw [hys, hsb, ← HXS.out]; exact hbd
        have hty : spellT ys = t := by rw [hys, hsp, ← HXS.out, HT.out]
        have hlyx : xs.length = ys.length := by rw [hys, HXS.out, List.length_map, List.length_map, hul]
        have hsm : ∀ (k : Nat) (h : k < ys.length) (h' : k < xs.length), xs[k].kind = ys[k].kind ∧ xs[k].text = ys[k].text ∧ (false = true → xs[k].at_ = ys[k].at_) := by
          have e1 := HXS.out
          subst hys e1
          intro k h h'
          rw [List.length_map] at h h'
          obtain ⟨q1, q2⟩ := hsame k h h'
          simp only [List.getElem_map, tkOf, q1, q2]
          exact ⟨trivial, trivial, fun h => by cases h⟩
        have HSM := Lib.hid hsm
        have HLY := Lib.hid hlyx
        have HTY := Lib.hid hty
        have hteq : (t.toList == t.toList) = true := by simp
        clear hsm hlyx hty hsame hul hku hsp hsb hys hus HLEX HBACK HXS HT
        go_wp2_with fail
        refine (I2.out w5 B5).mono ?_
        rintro e w6 ⟨a6, c6, rfl, own6, b6⟩
        have B6 : Below w.heap.size w w6 := B5.trans (b6.mono B5.size)
        have t26 := t25.below b6
        have t6 := own6.toks hfy
        clear own6 t25
        go_wp2_with fail
        refine (sameToks a6 a2 c6 c2 ys xs false w6 t6 t26 HLY.out HSM.out).mono ?_
        rintro e w7 ⟨rfl, b7⟩
        have B7 : Below w.heap.size w w7 := B6.trans (b7.mono B6.size)
        have t67 := t6.below b7
        clear t6 t26
        go_wp2_with fail
        refine (implSpell a6 c6 ys w7 t67 hby).mono ?_
        rw [HTY.out]
        rintro e w8 ⟨rfl, b8⟩
        have B8 : Below w.heap.size w w8 := B7.trans (b8.mono B7.size)
        go_wp2_with fail
        go_ret
        exact ⟨rfl, B8⟩

end Go.Proofs.YtjnanlfahgjcbaaGreatDoor
