/- The walk of FnRead. -/
import Derived.Test.YtgnillmhpockkaaGreatDoorMTxtJ
import Derived.Test.YtgnillmhpockkaaGreatDoorMLawBase
import Derived.Test.YtgnillmhpockkaaGreatDoorMOkW
import Derived.Test.YtgnillmhpockkaaGreatDoorMExprN
import Derived.Test.YtgnillmhpockkaaGreatDoorMLawExprW
import Derived.Test.YtgnillmhpockkaaGreatDoorMDrawLex
import Derived.Test.YtgnillmhpockkaaGreatDoorMSpcB
import Derived.Test.YtgnillmhpockkaaGreatDoorMLawLexP
namespace Go.Proofs.YtgnillmhpockkaaGreatDoor
open Go.ChangeShapes Go.WideShapes Go.ChangeAt Go.RowKit

theorem toks_all (s : ByteArray) (hs : s.size ≤ 1000000) : Fine (left (toks s) 0) ∧ (toks s).length + tlets (toks s) ≤ 1048576 ∧ (toks s).length ≤ 1000000 := by
  unfold toks
  cases h : lexB s.data.toList with
  | error p => exact ⟨fun x hx => by simp [left, wordsOf] at hx, by simp [wordsOf, tlets], by simp [wordsOf]⟩
  | ok ts =>
    have h1 := toks_few h
    have h2 : s.data.toList.length = s.size := by simp
    exact ⟨fine_left h 0, toks_bd h, by show (ts.map tkOf).length ≤ _; rw [List.length_map]; omega⟩

def zeroE : Ex := .mk 0 ⟨#[]⟩ 0 []

theorem zero_at (w : World) : KidsAt w 1 none 0 zeroE.kids := ⟨Nat.le_refl _, by unfold maxLen; omega, fun _ => rfl, fun h => absurd h (by show ¬ 0 < 0; omega)⟩

set_option maxRecDepth 100000 in
set_option maxHeartbeats 4000000 in
theorem walkFnRead (a : Option Addr) (c : Nat) (l : List UInt8) (w : World) (hb : Bytes w a c l) (hL : laidMetH Tryz.prog Rows.fnReadRow.laid w) :
    Calls Tryz.prog 6 #[.slice a l.length c] w fun e w' => e = .returned (.bool true) ∧ Below w.heap.size w w' := by
  by_cases hbig : 1048576 < l.length
  · clear hL
    go_enter Tryz.func6, Tryz.ntmps6
    go_wp2_with (go_at_call 8; refine (lawsBigYes _ _ _ _ hbig).mono ?_; rintro e w' ⟨rfl, rfl⟩)
    go_ret
    exact ⟨rfl, Below.refl _ _⟩
  · rw [MakeChecks.laidMetH_plain _ _ _ (by kernel_rfl)] at hL
    obtain ⟨p, hG, hT⟩ := rg_of hL
    have HG := Lib.hid (fun W (hB : Below w.heap.size w W) => hG.below hB hG.big)
    have HT := Lib.hid (fun W (hB : Below w.heap.size w W) => hT.below hB hT.big)
    have HLEX : Hid (∀ W s, s.size ≤ 1048576 → Below w.heap.size w W → Calls Tryz.prog 14 #[.string s] W (LexAns s W)) := fun W s hs hB => implLex s W hs _ p (HG.out W hB).glob (by have h1 := hG.big; have h2 := hB.size; omega)
    clear hL hT hG
    go_enter Tryz.func6, Tryz.ntmps6
    go_wp2_with (go_at_call 8; refine (lawsBigNo _ _ _ _ (by omega)).mono ?_; rintro e w' ⟨rfl, rfl⟩)
    refine (specDrawParse a c l _ hb (by omega)).mono ?_
    rintro x w1 ⟨u, la, lc, pl, rfl, hu, hpl, ht1, B1⟩
    obtain ⟨hfine, hwt, hlen⟩ := toks_all u (by omega)
    generalize toks u = xs at *
    have hpi : i64E pl := by unfold i64E; omega
    have hpa : pl ≤ xs.length + 1 := by omega
    have II : Hid (∀ W, Below w1.heap.size w1 W → Calls Tryz.prog 15 #[.slice la xs.length lc, .int .i64 pl] W (ParseR W (parseI xs pl))) := fun W hB => implParse _ p la lc xs pl W (HG.out _ (B1.trans (hB.mono B1.size))) (ht1.below hB) hlen hpi
    have IS : Hid (∀ W, Below w1.heap.size w1 W → Calls Tryz.prog 23 #[.slice la xs.length lc, .int .i64 pl] W (ParseR W (parseI xs pl))) := fun W hB => specParse pl W (ht1.below hB) hlen hwt hfine hpa
    have HB1 := Lib.hid B1
    have HT1 := Lib.hid ht1
    have HFN := Lib.hid hfine
    clear hb hu hpl ht1 B1 hfine hwt hpa
    cases hp : parseI xs pl with
    | none =>
      rw [hp] at II IS
      go_wp2_with fail
      refine (II.out w1 (Below.refl _ _)).mono ?_
      rintro y w2 ⟨rfl, b2⟩
      have hbb := (Below.refl w2.heap.size w2).alloc (Nat.le_refl _) (.cells #[.int .i64 0, .string ⟨#[]⟩, .int .i64 0, .slice none 0 0] 32)
      have HB2 := Lib.hid (b2.trans (hbb.mono b2.size))
      have HX2 := Lib.hid (box4_new w2 32 zeroE none 0)
      clear b2 hbb
      go_wp2_with fail
      have HX2' : Hid (Box4 (w2.alloc (.cells #[.int .i64 0, .string ⟨#[]⟩, .int .i64 0, .slice none 0 0] 32)) w2.heap.size zeroE none 0) := HX2.out
      clear HX2
      generalize w2.alloc (.cells #[.int .i64 0, .string ⟨#[]⟩, .int .i64 0, .slice none 0 0] 32) = W2 at HB2 HX2' ⊢
      generalize w2.heap.size = X2 at HX2' ⊢
      refine (IS.out W2 HB2.out).mono ?_
      rintro y w3 ⟨rfl, b3⟩
      have hbb := (Below.refl w3.heap.size w3).alloc (Nat.le_refl _) (.cells #[.int .i64 0, .string ⟨#[]⟩, .int .i64 0, .slice none 0 0] 32)
      have HB3 := Lib.hid ((HB2.out.trans (b3.mono HB2.out.size)).trans (hbb.mono (HB2.out.trans (b3.mono HB2.out.size)).size))
      have HX3 := Lib.hid ((HX2'.out.below b3).below hbb)
      clear b3 hbb
      obtain ⟨_, x0, x1, x2, x3⟩ := HX3.out
      have x0' : (w3.alloc (.cells #[.int .i64 0, .string ⟨#[]⟩, .int .i64 0, .slice none 0 0] 32)).cell? ⟨X2, 0, none⟩ = some (.int .i64 0) := x0
      have x1' : (w3.alloc (.cells #[.int .i64 0, .string ⟨#[]⟩, .int .i64 0, .slice none 0 0] 32)).cell? ⟨X2, 1, none⟩ = some (.string ⟨#[]⟩) := x1
      have x2' : (w3.alloc (.cells #[.int .i64 0, .string ⟨#[]⟩, .int .i64 0, .slice none 0 0] 32)).cell? ⟨X2, 2, none⟩ = some (.int .i64 0) := x2
      have x3' : (w3.alloc (.cells #[.int .i64 0, .string ⟨#[]⟩, .int .i64 0, .slice none 0 0] 32)).cell? ⟨X2, 3, none⟩ = some (.slice none 0 0) := x3
      clear x0 x1 x2 x3
      have SZ : Hid (∀ W, Calls Tryz.prog 21 #[.agg #[.int .i64 0, .string ⟨#[]⟩, .int .i64 0, .slice none 0 0], .agg #[.int .i64 0, .string ⟨#[]⟩, .int .i64 0, .slice none 0 0]] W fun x w' => x = .returned (.bool true) ∧ Below W.heap.size W w') := fun W => sameTwice zeroE none none 0 0 1 1 W (zero_at W) (zero_at W)
      go_wp2_with fail
      refine (SZ.out _).mono ?_
      rintro y w4 ⟨rfl, b4⟩
      have HB4 := Lib.hid (HB3.out.trans (b4.mono HB3.out.size))
      obtain ⟨_, x0, x1, x2, x3⟩ := HX3.out.below b4
      have y0 : w4.cell? ⟨X2, 0, none⟩ = some (.int .i64 0) := x0
      have y1 : w4.cell? ⟨X2, 1, none⟩ = some (.string ⟨#[]⟩) := x1
      have y2 : w4.cell? ⟨X2, 2, none⟩ = some (.int .i64 0) := x2
      have y3 : w4.cell? ⟨X2, 3, none⟩ = some (.slice none 0 0) := x3
      clear x0 x1 x2 x3 b4 x0' x1' x2' x3'
      go_wp2_with fail
      refine (SZ.out _).mono ?_
      rintro y w5 ⟨rfl, b5⟩
      have HB5 := Lib.hid (HB1.out.trans ((HB4.out.trans (b5.mono HB4.out.size)).mono HB1.out.size))
      clear b5
      go_wp2_with fail
      go_ret
      exact ⟨rfl, HB5.out⟩
    | some q =>
      obtain ⟨e, m⟩ := q
      rw [hp] at II IS
      obtain ⟨hl2, hsh, hn40, hp0, hpm, hml, hcut⟩ := parse_facts HFN.out hp
      have hmlc : m ≤ lc := Nat.le_trans hml HT1.out.1
      have hcutl : (xs.take m).length = m := by rw [List.length_take]; omega
      have IC : Hid (∀ W, Below w1.heap.size w1 W → Calls Tryz.prog 15 #[.slice la m lc, .int .i64 pl] W (ParseR W (some (e, m)))) := fun W hB => by
        have h := implParse _ p la lc (xs.take m) pl W (HG.out _ (HB1.out.trans (hB.mono HB1.out.size))) ((HT1.out.below hB).take m) (by omega) hpi
        rw [hcutl, hcut] at h
        exact h
      obtain ⟨r, hr⟩ : ∃ r, r = tE e 1 := ⟨_, rfl⟩
      have hput : Hid (putT e = r) := by unfold Hid putT; rw [if_pos (by rw [Bool.and_eq_true, decide_eq_true_eq]; exact ⟨hn40, hsh⟩), hr]
      have hrs : r.size ≤ 1048576 := by have h := tE_size (L := 1) hsh hn40; rw [← hr] at h; omega
      have hVV : Hid ((decide (e.nodes ≤ 40) && shapeE e) = true) := by unfold Hid; rw [Bool.and_eq_true, decide_eq_true_eq]; exact ⟨hn40, hsh⟩
      obtain ⟨ts, h1, h2, h3⟩ := parse_text hsh hn40
      rw [← hr] at h1
      obtain ⟨ys, hys⟩ : ∃ ys, ys = ts.map tkOf := ⟨_, rfl⟩
      have I1 : Hid (∀ W, Below w.heap.size w W → Calls Tryz.prog 14 #[.string r] W fun e w' => ∃ a c, e = .returned (.tuple #[.slice a ys.length c, .int .i64 (-1)]) ∧ OwnT w' W.heap.size a c ys ∧ Below W.heap.size W w') := fun W hB => (HLEX.out W r hrs hB).mono fun _ _ => lexOk h1 hys
      have hfit : FitsT ys := by have := (toks_fit r hrs).1; unfold toks at this; rw [h1] at this; rw [hys]; exact this
      have hfew : ys.length ≤ 1000000 := by have h4 := toks_few h1; have h5 : r.data.toList.length = r.size := (by simp); have h6 := tE_size (L := 1) hsh hn40; rw [← hr] at h6; rw [hys, List.length_map]; omega
      have HPI : Hid (parseI ys 0 = some (e, ys.length)) := by unfold Hid; rw [hys]; exact h3
      have HFW := Lib.hid hfew
      have HN : Hid (e.nodes ≤ 1073741824) := by unfold Hid; omega
      have hnn : ((ys.length : Int) == (ys.length : Int)) = true := by simp
      have hmm : ((m : Int) != (m : Int)) = false := by simp
      have hm2 : ((m : Int) == (m : Int)) = true := by simp
      have hm0 : ¬ (m : Int) < 0 := by omega
      have hmle : (m : Int) ≤ (xs.length : Int) := by omega
      have hmlc' : (m : Int) ≤ (lc : Int) := by omega
      have hm00 : (0 : Int) ≤ (m : Int) := by omega
      clear h1 h2 h3 hys HLEX hsh hn40 hr hfew hcut hcutl hp hl2 HFN hpi hml hmlc
      go_wp2_with fail
      refine (II.out w1 (Below.refl _ _)).mono ?_
      rintro y w2 ⟨a2, c2, rfl, tr2, b2⟩
      have hbb := (Below.refl w2.heap.size w2).alloc (Nat.le_refl _) (.cells #[.int .i64 e.kind, .string e.text, .int .i64 e.num, .slice a2 e.kids.length c2] 32)
      obtain ⟨d2, hk2⟩ := tr2.kids
      have HB2 := Lib.hid (b2.trans (hbb.mono b2.size))
      have L2 := Lib.hid (show LE w w2.heap.size e a2 c2 d2 (w2.alloc (.cells #[.int .i64 e.kind, .string e.text, .int .i64 e.num, .slice a2 e.kids.length c2] 32)) from ⟨box4_new w2 _ e a2 c2, hk2.at.below hbb, HB1.out.trans ((b2.trans (hbb.mono b2.size)).mono HB1.out.size)⟩)
      have HFT := Lib.hid tr2.fit
      clear b2 hbb tr2 hk2
      go_wp2_with fail
      generalize w2.alloc (.cells #[.int .i64 e.kind, .string e.text, .int .i64 e.num, .slice a2 e.kids.length c2] 32) = W2 at HB2 L2 ⊢
      generalize w2.heap.size = X2 at L2 ⊢
      refine (IS.out W2 HB2.out).mono ?_
      rintro y w3 ⟨a3, c3, rfl, tr3, b3⟩
      have hbb := (Below.refl w3.heap.size w3).alloc (Nat.le_refl _) (.cells #[.int .i64 e.kind, .string e.text, .int .i64 e.num, .slice a3 e.kids.length c3] 32)
      obtain ⟨d3, hk3⟩ := tr3.kids
      have HB3 := Lib.hid ((HB2.out.trans (b3.mono HB2.out.size)).trans (hbb.mono (HB2.out.trans (b3.mono HB2.out.size)).size))
      have L3 := Lib.hid ((L2.out.below b3).below hbb)
      have K3 := Lib.hid (hk3.at.below hbb)
      have N3 := Lib.hid (box4_new w3 32 e a3 c3)
      clear b3 hbb tr3 hk3 HB2 L2
      obtain ⟨_, x0, x1, x2, x3⟩ := L3.out.x
      go_wp2_with fail
      refine (sameTwice e a2 a3 c2 c3 d2 d3 _ L3.out.kx K3.out).mono ?_
      rintro y w4 ⟨rfl, b4⟩
      have HB4 := Lib.hid (HB3.out.trans (b4.mono HB3.out.size))
      have L4 := Lib.hid (L3.out.below b4)
      clear b4 x0 x1 x2 x3 HB3 L3 K3 N3
      obtain ⟨_, x0, x1, x2, x3⟩ := L4.out.x
      go_wp2_with fail
      refine (implPutExpr e a2 c2 d2 w4 (HT.out _ L4.out.bel) HFT.out L4.out.kx HN.out r hput.out).mono ?_
      rintro y w5 ⟨rfl, b5⟩
      have HB5 := Lib.hid (HB4.out.trans (b5.mono HB4.out.size))
      have L5 := Lib.hid (L4.out.below b5)
      clear b5 x0 x1 x2 x3 HB4 L4
      go_wp2_with fail
      refine (I1.out w5 L5.out.bel).mono ?_
      rintro y w6 ⟨a6, c6, rfl, own6, b6⟩
      have HB6 := Lib.hid (HB5.out.trans (b6.mono HB5.out.size))
      have L6 := Lib.hid (L5.out.below b6)
      have T6 := Lib.hid (own6.toks hfit)
      clear own6 b6 HB5 L5
      have I2 := Lib.hid (show Calls Tryz.prog 15 #[.slice a6 ys.length c6, .int .i64 0] w6 (ParseR w6 (some (e, ys.length))) from by rw [← HPI.out]; exact implParse _ p a6 c6 ys 0 w6 (HG.out _ L6.out.bel) T6.out HFW.out (by unfold i64E; omega))
      go_wp2_with fail
      refine I2.out.mono ?_
      rintro y w7 ⟨a7, c7, rfl, tr7, b7⟩
      have hbb := (Below.refl w7.heap.size w7).alloc (Nat.le_refl _) (.cells #[.int .i64 e.kind, .string e.text, .int .i64 e.num, .slice a7 e.kids.length c7] 32)
      obtain ⟨d7, hk7⟩ := tr7.kids
      have HB7 := Lib.hid ((HB6.out.trans (b7.mono HB6.out.size)).trans (hbb.mono (HB6.out.trans (b7.mono HB6.out.size)).size))
      have L7 := Lib.hid ((L6.out.below b7).below hbb)
      have K7 := Lib.hid (hk7.at.below hbb)
      have N7 := Lib.hid (box4_new w7 32 e a7 c7)
      clear b7 hbb tr7 hk7 HB6 L6 I2 T6
      go_wp2_with fail
      generalize w7.alloc (.cells #[.int .i64 e.kind, .string e.text, .int .i64 e.num, .slice a7 e.kids.length c7] 32) = W7 at HB7 L7 K7 N7 ⊢
      generalize w7.heap.size = X7 at N7 ⊢
      refine (IC.out W7 HB7.out).mono ?_
      rintro y w8 ⟨a8, c8, rfl, tr8, b8⟩
      have hbb := (Below.refl w8.heap.size w8).alloc (Nat.le_refl _) (.cells #[.int .i64 e.kind, .string e.text, .int .i64 e.num, .slice a8 e.kids.length c8] 32)
      obtain ⟨d8, hk8⟩ := tr8.kids
      have L8 := Lib.hid ((L7.out.below b8).below hbb)
      have K8 := Lib.hid ((K7.out.below b8).below hbb)
      have N8 := Lib.hid ((N7.out.below b8).below hbb)
      have M8 := Lib.hid (hk8.at.below hbb)
      have P8 := Lib.hid (box4_new w8 32 e a8 c8)
      clear b8 hbb tr8 hk8 HB7 L7 K7 N7
      obtain ⟨_, x0, x1, x2, x3⟩ := L8.out.x
      go_wp2_with fail
      generalize w8.alloc (.cells #[.int .i64 e.kind, .string e.text, .int .i64 e.num, .slice a8 e.kids.length c8] 32) = W8 at L8 K8 N8 M8 P8 x0 x1 x2 x3 ⊢
      generalize w8.heap.size = X8 at P8 ⊢
      refine (implExprOk e a2 c2 d2 W8 (HT.out _ L8.out.bel).forms HFT.out L8.out.kx HN.out true hVV.out).mono ?_
      rintro y w9 ⟨rfl, b9⟩
      have L9 := Lib.hid (L8.out.below b9)
      have K9 := Lib.hid (K8.out.below b9)
      have N9 := Lib.hid (N8.out.below b9)
      have M9 := Lib.hid (M8.out.below b9)
      have P9 := Lib.hid (P8.out.below b9)
      clear b9 L8 K8 N8 M8 P8 x0 x1 x2 x3
      obtain ⟨_, x0, x1, x2, x3⟩ := L9.out.x
      obtain ⟨_, n0, n1, n2, n3⟩ := N9.out
      go_wp2_with fail
      refine (sameTwice e a7 a2 c7 c2 d7 d2 _ K9.out L9.out.kx).mono ?_
      rintro y wA ⟨rfl, bA⟩
      have LA := Lib.hid (L9.out.below bA)
      have MA := Lib.hid (M9.out.below bA)
      have PA := Lib.hid (P9.out.below bA)
      clear bA L9 K9 N9 M9 P9 x0 x1 x2 x3 n0 n1 n2 n3
      obtain ⟨_, x0, x1, x2, x3⟩ := LA.out.x
      obtain ⟨_, n0, n1, n2, n3⟩ := PA.out
      go_wp2_with fail
      refine (sameTwice e a8 a2 c8 c2 d8 d2 _ MA.out LA.out.kx).mono ?_
      rintro y wB ⟨rfl, bB⟩
      have BB := Lib.hid (LA.out.below bB).bel
      clear bB
      go_wp2_with fail
      go_ret
      exact ⟨rfl, BB.out⟩

end Go.Proofs.YtgnillmhpockkaaGreatDoor
