/- The walk of FnBrackets. -/
import Derived.Test.YtgnillmhpockkaaGreatDoorMTxtJ
import Derived.Test.YtgnillmhpockkaaGreatDoorMLawBase
import Derived.Test.YtgnillmhpockkaaGreatDoorMOkW
import Derived.Test.YtgnillmhpockkaaGreatDoorMExprN
import Derived.Test.YtgnillmhpockkaaGreatDoorMLawExprW
import Derived.Test.YtgnillmhpockkaaGreatDoorMExprY
namespace Go.Proofs.YtgnillmhpockkaaGreatDoor
open Go.ChangeShapes Go.WideShapes Go.ChangeAt Go.RowKit

set_option maxRecDepth 100000 in
set_option maxHeartbeats 4000000 in
theorem walkFnBrackets (a : Option Addr) (c : Nat) (l : List UInt8) (w : World) (hb : Bytes w a c l) (hL : laidMetH Tryz.prog Rows.fnBracketsRow.laid w) :
    Calls Tryz.prog 5 #[.slice a l.length c] w fun e w' => e = .returned (.bool true) ∧ Below w.heap.size w w' := by
  by_cases hbig : 1048576 < l.length
  · clear hL
    go_enter Tryz.func5, Tryz.ntmps5
    go_wp2_with (go_at_call 8; refine (lawsBigYes _ _ _ _ hbig).mono ?_; rintro e w' ⟨rfl, rfl⟩)
    go_ret
    exact ⟨rfl, Below.refl _ _⟩
  · rw [MakeChecks.laidMetH_plain _ _ _ (by kernel_rfl)] at hL
    obtain ⟨p, hG, hT⟩ := rg_of hL
    have HG := Lib.hid (fun W (hB : Below w.heap.size w W) => hG.below hB hG.big)
    have HLEX : Hid (∀ W s, s.size ≤ 1048576 → Below w.heap.size w W → Calls Tryz.prog 14 #[.string s] W (LexAns s W)) := fun W s hs hB => implLex s W hs _ p (HG.out W hB).glob (by have h1 := hG.big; have h2 := hB.size; omega)
    clear hL hT hG
    go_enter Tryz.func5, Tryz.ntmps5
    go_wp2_with (go_at_call 8; refine (lawsBigNo _ _ _ _ (by omega)).mono ?_; rintro e w' ⟨rfl, rfl⟩)
    refine (specDrawPutExpr a c l _ hb (by omega)).mono ?_
    rintro x w1 ⟨e, a', c', d, rfl, hsm, hk, ha, hbel⟩
    have hbb := (Below.refl w1.heap.size w1).alloc (Nat.le_refl _) (.cells #[.int .i64 e.kind, .string e.text, .int .i64 e.num, .slice a' e.kids.length c'] 32)
    have L1 := Lib.hid (show LE w w1.heap.size e a' c' d (w1.alloc (.cells #[.int .i64 e.kind, .string e.text, .int .i64 e.num, .slice a' e.kids.length c'] 32)) from ⟨box4_new w1 _ e a' c', hk.below hbb, hbel.trans (hbb.mono hbel.size)⟩)
    have hn1 := hsm.2.2
    have hw1 := hsm.2.1
    have HFIT := Lib.hid hsm.1
    have HN : Hid (e.nodes ≤ 1073741824) := by unfold Hid; omega
    have HW : Hid (e.wt ≤ 1048576) := by unfold Hid; omega
    obtain ⟨r, hr⟩ : ∃ r, putT e = r := ⟨_, rfl⟩
    obtain ⟨v, hv⟩ : ∃ v, (decide (e.nodes ≤ 40) && shapeE e) = v := ⟨_, rfl⟩
    have HR := Lib.hid hr
    have HV := Lib.hid hv
    clear hr hv hbel hk ha hsm hn1 hw1 hbb
    go_wp2_with fail
    generalize hX : w1.heap.size = X at L1 ⊢
    generalize w1.alloc (.cells #[.int .i64 e.kind, .string e.text, .int .i64 e.num, .slice a' e.kids.length c'] 32) = W1 at L1 ⊢
    obtain ⟨x00, x0, x1, x2, x3⟩ := L1.out.x
    go_wp2_with fail
    refine (specExprOk e a' c' d W1 L1.out.kx HW.out v HV.out).mono ?_
    rintro y w2 ⟨rfl, b2⟩
    have L2 := Lib.hid (L1.out.below b2)
    clear b2 x00 x0 x1 x2 x3 L1
    obtain ⟨x00, x0, x1, x2, x3⟩ := L2.out.x
    cases v with
    | false =>
      go_wp2_with fail
      refine (implExprOk e a' c' d w2 (HG.out _ L2.out.bel).forms HFIT.out L2.out.kx HN.out false HV.out).mono ?_
      rintro y w3 ⟨rfl, b3⟩
      have B3 := Lib.hid (L2.out.below b3).bel
      clear b3
      go_wp2_with fail
      go_ret
      exact ⟨rfl, B3.out⟩
    | true =>
      have hsh : e.nodes ≤ 40 ∧ shapeE e = true := by have h := HV.out; rw [Bool.and_eq_true, decide_eq_true_eq] at h; exact h
      have hrt : r = tE e 1 := by
        have h := HR.out
        unfold putT at h
        rw [HV.out, if_pos rfl] at h
        exact h.symm
      have hr8 : r.size ≤ 8400 := by have h := tE_size (L := 1) hsh.2 hsh.1; rw [← hrt] at h; exact h
      obtain ⟨ts, h1, h2, h3, h4⟩ := twice_parse hsh.2 hsh.1
      obtain ⟨S, hS⟩ : ∃ S : ByteArray, (⟨#[40, 40]⟩ : ByteArray) ++ r ++ ⟨#[41, 41]⟩ = S := ⟨_, rfl⟩
      have hSd : S.data.toList = 40 :: 40 :: (textE e 1 ++ [41, 41]) := by rw [← hS, hrt]; unfold tE txt; simp
      have hSs : S.size ≤ 1048576 := by rw [← hS]; simp only [ByteArray.size_append]; show 2 + r.size + 2 ≤ _; omega
      rw [← hSd] at h1
      obtain ⟨xs, hxs⟩ : ∃ xs, xs = ts.map tkOf := ⟨_, rfl⟩
      rw [← hxs] at h2 h3 h4
      have I1 : Hid (∀ W, Below w.heap.size w W → Calls Tryz.prog 14 #[.string S] W fun e w' => ∃ a c, e = .returned (.tuple #[.slice a xs.length c, .int .i64 (-1)]) ∧ OwnT w' W.heap.size a c xs ∧ Below W.heap.size W w') := fun W hB => (HLEX.out W S hSs hB).mono fun _ _ => lexOk h1 hxs
      have hfit : FitsT xs := by have := (toks_fit S hSs).1; unfold toks at this; rw [h1] at this; rw [hxs]; exact this
      have hfew : xs.length ≤ 1000000 := by
        have h5 := (toks_fit S hSs).2
        have h6 := toks_few h1
        have h7 : S.data.toList.length = S.size := by simp
        have h8 : S.size ≤ 8404 := by rw [← hS]; simp only [ByteArray.size_append]; show 2 + r.size + 2 ≤ _; omega
        rw [hxs, List.length_map]
        omega
      have hq0 : ¬ (9223372036854775807 < (⟨#[40, 40]⟩ : ByteArray).size + r.size) := by show ¬ (_ < 2 + r.size); omega
      have hq1 : ¬ (9223372036854775807 < ((⟨#[40, 40]⟩ : ByteArray) ++ r).size + (⟨#[41, 41]⟩ : ByteArray).size) := by simp only [ByteArray.size_append]; show ¬ (_ < 2 + r.size + 2); omega
      have HP0 := Lib.hid h3
      have HP1 := Lib.hid h4
      have hnn : ((xs.length : Int) == (xs.length : Int)) = true := by simp
      have hwm : IntKind.i64.wrap ((xs.length : Int) - 1) = (xs.length : Int) - 1 := IntWalk.i64_in _ (by omega)
      have hcast : (((xs.length - 1 : Nat) : Int) == (xs.length : Int) - 1) = true := by simp; omega
      have HFW := Lib.hid hfew
      have HL2 := Lib.hid h2
      have HSE := Lib.hid hS
      clear h1 h2 h3 h4 hxs HLEX hsh hrt hfew hSd hSs hS
      go_wp2_with fail
      refine (specPutExpr e a' c' d w2 L2.out.kx HW.out r HR.out).mono ?_
      rintro y w3 ⟨rfl, b3⟩
      have L3 := Lib.hid (L2.out.below b3)
      clear b3 x00 x0 x1 x2 x3 L2
      go_wp2_with fail
      rw [HSE.out]
      refine (I1.out _ L3.out.bel).mono ?_
      rintro y w5 ⟨a5, c5, rfl, own5, b5⟩
      have L5 := Lib.hid (L3.out.below b5)
      have T5 := Lib.hid (own5.toks hfit)
      clear own5 b5 L3 I1
      have I2 : Hid (∀ (i m : Nat) (W : World), Below w.heap.size w W → Toks W a5 c5 xs → i ≤ 1 → parseI xs (i : Int) = some (e, m) → Calls Tryz.prog 15 #[.slice a5 xs.length c5, .int .i64 (i : Int)] W (fun y w' => ∃ a c d6, y = .returned (.tuple #[.agg #[.int .i64 e.kind, .string e.text, .int .i64 e.num, .slice a e.kids.length c], .int .i64 (m : Int)]) ∧ KidsAt w' d6 a c e.kids ∧ Below W.heap.size W w')) := by
        intro i m W hB hT hi hp
        refine (implParse _ p a5 c5 xs i W (HG.out _ hB) hT HFW.out (by unfold i64E; omega)).mono ?_
        rw [hp]
        rintro y w6 ⟨a6, c6, rfl, ht6, b6⟩
        obtain ⟨d6, hk6⟩ := ht6.kids
        exact ⟨a6, c6, d6, rfl, hk6.at, b6⟩
      go_wp2_with fail
      refine (I2.out 0 _ w5 L5.out.bel T5.out (by omega) HP0.out).mono ?_
      rintro y w6 ⟨a6, c6, d6, rfl, hk6, b6⟩
      have hbb := (Below.refl w6.heap.size w6).alloc (Nat.le_refl _) (.cells #[.int .i64 e.kind, .string e.text, .int .i64 e.num, .slice a6 e.kids.length c6] 32)
      have L6 := Lib.hid ((L5.out.below b6).below hbb)
      have K6 := Lib.hid (hk6.below hbb)
      have N6 := Lib.hid (box4_new w6 32 e a6 c6)
      have T6 := Lib.hid ((T5.out.below b6).below hbb)
      clear b6 hk6 hbb L5 T5
      go_wp2_with fail
      generalize w6.alloc (.cells #[.int .i64 e.kind, .string e.text, .int .i64 e.num, .slice a6 e.kids.length c6] 32) = W6 at *
      generalize w6.heap.size = X6 at *
      refine (I2.out 1 _ W6 L6.out.bel T6.out (by omega) HP1.out).mono ?_
      rintro y w7 ⟨a7, c7, d7, rfl, hk7, b7⟩
      have hbb := (Below.refl w7.heap.size w7).alloc (Nat.le_refl _) (.cells #[.int .i64 e.kind, .string e.text, .int .i64 e.num, .slice a7 e.kids.length c7] 32)
      have L7 := Lib.hid ((L6.out.below b7).below hbb)
      have K7 := Lib.hid (hk7.below hbb)
      have K6' := Lib.hid ((K6.out.below b7).below hbb)
      have N6' := Lib.hid ((N6.out.below b7).below hbb)
      have N7 := Lib.hid (box4_new w7 32 e a7 c7)
      clear b7 hk7 hbb L6 T6 K6 N6 I2
      obtain ⟨x00, x0, x1, x2, x3⟩ := L7.out.x
      obtain ⟨n00, n0, n1, n2, n3⟩ := N6'.out
      go_wp2_with fail
      refine (sameTwice e a6 a' c6 c' d6 d _ K6'.out L7.out.kx).mono ?_
      rintro y w8 ⟨rfl, b8⟩
      have L8 := Lib.hid (L7.out.below b8)
      have K8 := Lib.hid (K7.out.below b8)
      have N8 := Lib.hid (N7.out.below b8)
      clear b8 L7 K7 N7 x00 x0 x1 x2 x3 n00 n0 n1 n2 n3
      obtain ⟨x00, x0, x1, x2, x3⟩ := L8.out.x
      obtain ⟨n00, n0, n1, n2, n3⟩ := N8.out
      go_wp2_with fail
      refine (sameTwice e a7 a' c7 c' d7 d _ K8.out L8.out.kx).mono ?_
      rintro y w9 ⟨rfl, b9⟩
      have B9 := Lib.hid (L8.out.below b9).bel
      clear b9
      go_wp2_with fail
      go_ret
      exact ⟨rfl, B9.out⟩

end Go.Proofs.YtgnillmhpockkaaGreatDoor
