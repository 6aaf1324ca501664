/- The walk of FnExpr. -/
import Derived.Test.YtgnillmhpockkaaGreatDoorMTxtJ
import Derived.Test.YtgnillmhpockkaaGreatDoorMLawBase
import Derived.Test.YtgnillmhpockkaaGreatDoorMOkW
import Derived.Test.YtgnillmhpockkaaGreatDoorMExprN
import Derived.Test.YtgnillmhpockkaaGreatDoorMDrawNodes
namespace Go.Proofs.YtgnillmhpockkaaGreatDoor
open Go.ChangeShapes Go.WideShapes Go.ChangeAt Go.RowKit

/-- The drawn expression, in box X. -/
structure LE (w : World) (X : Nat) (e : Ex) (a' : Option Addr) (c' d : Nat) (W : World) : Prop where
  x : Box4 W X e a' c'
  kx : KidsAt W d a' c' e.kids
  bel : Below w.heap.size w W

theorem LE.below {w W W' : World} {X : Nat} {e : Ex} {a' : Option Addr} {c' d : Nat} (h : LE w X e a' c' d W) (hb : Below W.heap.size W W') : LE w X e a' c' d W' :=
  ⟨h.x.below hb, h.kx.below hb, h.bel.trans (hb.mono h.bel.size)⟩

/-- sameExpr of one tree that lies twice. -/
theorem sameTwice (e : Ex) (a a' : Option Addr) (c c' d d' : Nat) (w : World) (h : KidsAt w d a c e.kids) (h' : KidsAt w d' a' c' e.kids) :
    Calls Tryz.prog 21 #[.agg #[.int .i64 e.kind, .string e.text, .int .i64 e.num, .slice a e.kids.length c], .agg #[.int .i64 e.kind, .string e.text, .int .i64 e.num, .slice a' e.kids.length c']] w fun x w' => x = .returned (.bool true) ∧ Below w.heap.size w w' :=
  sameEx (max d d') e a a' c c' w (h.mono (Nat.le_max_left ..)) (h'.mono (Nat.le_max_right ..))

set_option maxRecDepth 100000 in
set_option maxHeartbeats 4000000 in
theorem walkFnExpr (a : Option Addr) (c : Nat) (l : List UInt8) (w : World) (hb : Bytes w a c l) (hL : laidMetH Tryz.prog Rows.fnExprRow.laid w) :
    Calls Tryz.prog 4 #[.slice a l.length c] w fun e w' => e = .returned (.bool true) ∧ Below w.heap.size w w' := by
  by_cases hbig : 1048576 < l.length
  · clear hL
    go_enter Tryz.func4, Tryz.ntmps4
    go_wp2_with (go_at_call 8; refine (lawsBigYes _ _ _ _ hbig).mono ?_; rintro e w' ⟨rfl, rfl⟩)
    go_ret
    exact ⟨rfl, Below.refl _ _⟩
  · rw [MakeChecks.laidMetH_plain _ _ _ (by kernel_rfl)] at hL
    obtain ⟨p, hG, hT⟩ := rg_of hL
    have HG := Lib.hid (fun W (hB : Below w.heap.size w W) => hG.below hB hG.big)
    have HT := Lib.hid (fun W (hB : Below w.heap.size w W) => hT.below hB hT.big)
    have HLEX : Hid (∀ W s, s.size ≤ 1048576 → Below w.heap.size w W → Calls Tryz.prog 14 #[.string s] W (LexAns s W)) := fun W s hs hB => implLex s W hs _ p (HG.out W hB).glob (by have h1 := hG.big; have h2 := hB.size; omega)
    clear hL hT hG
    go_enter Tryz.func4, Tryz.ntmps4
    go_wp2_with (go_at_call 8; refine (lawsBigNo _ _ _ _ (by omega)).mono ?_; rintro e w' ⟨rfl, rfl⟩)
    refine (specDrawPutExpr a c l _ hb (by omega)).mono ?_
    rintro x w1 ⟨e, a', c', d, rfl, hsm, hk, ha, hbel⟩
    have hbb := (Below.refl w1.heap.size w1).alloc (Nat.le_refl _) (.cells #[.int .i64 e.kind, .string e.text, .int .i64 e.num, .slice a' e.kids.length c'] 32)
    have L1 := Lib.hid (show LE w w1.heap.size e a' c' d (w1.alloc (.cells #[.int .i64 e.kind, .string e.text, .int .i64 e.num, .slice a' e.kids.length c'] 32)) from ⟨box4_new w1 _ e a' c', hk.below hbb, hbel.trans (hbb.mono hbel.size)⟩)
    have hn1 := hsm.2.2
    have hw1 := hsm.2.1
    have HFIT := Lib.hid hsm.1
    have HN : Hid (e.nodes ≤ 1073741824) := by unfold Hid; omega
    have HW : Hid (e.wt ≤ 1048576) := by unfold Hid; omega
    obtain ⟨r, hr⟩ : ∃ r, putT e = r := ⟨_, rfl⟩
    obtain ⟨v, hv⟩ : ∃ v, (decide (e.nodes ≤ 40) && shapeE e) = v := ⟨_, rfl⟩
    have HR := Lib.hid hr
    have HV := Lib.hid hv
    have hrr : (r.toList != r.toList) = false := by simp
    clear hr hv hbel hk ha hsm hn1 hw1 hbb
    go_wp2_with fail
    generalize hX : w1.heap.size = X at L1 ⊢
    generalize w1.alloc (.cells #[.int .i64 e.kind, .string e.text, .int .i64 e.num, .slice a' e.kids.length c'] 32) = W1 at L1 ⊢
    obtain ⟨x00, x0, x1, x2, x3⟩ := L1.out.x
    go_wp2_with fail
    refine (implPutExpr e a' c' d W1 (HT.out _ L1.out.bel) HFIT.out L1.out.kx HN.out r HR.out).mono ?_
    rintro y w2 ⟨rfl, b2⟩
    have L2 := Lib.hid (L1.out.below b2)
    clear b2 x00 x0 x1 x2 x3 L1
    obtain ⟨x00, x0, x1, x2, x3⟩ := L2.out.x
    have L2d := Lib.hid (L2.out.below (below_drewE (Below.refl _ _)))
    have hst : Hid (∀ p q : World, ((p.cell? ⟨X, 0, none⟩ = some (.int .i64 e.kind) ∧ p.cell? ⟨X, 1, none⟩ = some (.string e.text) ∧ p.cell? ⟨X, 2, none⟩ = some (.int .i64 e.num) ∧ p.cell? ⟨X, 3, none⟩ = some (.slice a' e.kids.length c')) ∧ Hid (LE w X e a' c' d p)) → Below p.heap.size p q → ((q.cell? ⟨X, 0, none⟩ = some (.int .i64 e.kind) ∧ q.cell? ⟨X, 1, none⟩ = some (.string e.text) ∧ q.cell? ⟨X, 2, none⟩ = some (.int .i64 e.num) ∧ q.cell? ⟨X, 3, none⟩ = some (.slice a' e.kids.length c')) ∧ Hid (LE w X e a' c' d q))) := fun p q h hb => ⟨(h.2.out.below hb).x.2, h.2.out.below hb⟩
    have hvv : (v != v) = false := by cases v <;> rfl
    go_wp2_with fail
    go_region_held3 (fun p => (p.cell? ⟨X, 0, none⟩ = some (.int .i64 e.kind) ∧ p.cell? ⟨X, 1, none⟩ = some (.string e.text) ∧ p.cell? ⟨X, 2, none⟩ = some (.int .i64 e.num) ∧ p.cell? ⟨X, 3, none⟩ = some (.slice a' e.kids.length c')) ∧ Hid (LE w X e a' c' d p)) (first | assumption | exact ⟨L2d.out.x.2, L2d.out⟩)
      (first
        | (go_at_call 18; refine (specPutExpr e a' c' d _ (And.right (by assumption : _ ∧ Hid (LE w X e a' c' d _))).out.kx HW.out r HR.out).mono ?_; rintro x wq ⟨rfl, bq⟩; have hq := hst.out _ _ (by assumption) bq; clear bq)
        | (go_at_call 19; refine (implExprOk e a' c' d _ (HT.out _ (And.right (by assumption : _ ∧ Hid (LE w X e a' c' d _))).out.bel).forms HFIT.out (And.right (by assumption : _ ∧ Hid (LE w X e a' c' d _))).out.kx HN.out v HV.out).mono ?_; rintro x wz ⟨rfl, bz⟩; have hz := hst.out _ _ (by assumption) bz; clear bz)
        | (go_at_call 20; refine (specExprOk e a' c' d _ (And.right (by assumption : _ ∧ Hid (LE w X e a' c' d _))).out.kx HW.out v HV.out).mono ?_; rintro x wn ⟨rfl, bn⟩; have hn := hst.out _ _ (by assumption) bn; clear bn))
    have L3 := Lib.hid hn.2.out
    clear hn hz hq hst L2 L2d x00 x0 x1 x2 x3
    generalize wn = w3 at *
    obtain ⟨x00, x0, x1, x2, x3⟩ := L3.out.x
    cases v with
    | false =>
      have hr0 : r = ⟨#[]⟩ := by
        have h := HR.out
        unfold putT at h
        rw [HV.out, if_neg (by decide)] at h
        exact h.symm
      subst hr0
      go_wp2_with fail
      refine (specExprOk e a' c' d _ L3.out.kx HW.out false HV.out).mono ?_
      rintro y w4 ⟨rfl, b4⟩
      have B4 := Lib.hid (L3.out.below b4).bel
      clear b4
      go_wp2_with fail
      go_ret
      exact ⟨rfl, B4.out⟩
    | true =>
      have hsh : e.nodes ≤ 40 ∧ shapeE e = true := by have h := HV.out; rw [Bool.and_eq_true, decide_eq_true_eq] at h; exact h
      have hrt : r = tE e 1 := by
        have h := HR.out
        unfold putT at h
        rw [HV.out, if_pos rfl] at h
        exact h.symm
      have hrs : r.size ≤ 1048576 := by have h := tE_size (L := 1) hsh.2 hsh.1; rw [← hrt] at h; omega
      obtain ⟨ts, h1, h2, h3⟩ := parse_text hsh.2 hsh.1
      rw [← hrt] at h1
      obtain ⟨xs, hxs⟩ : ∃ xs, xs = ts.map tkOf := ⟨_, rfl⟩
      have I1 : Hid (∀ W, Below w.heap.size w W → Calls Tryz.prog 14 #[.string r] W fun e w' => ∃ a c, e = .returned (.tuple #[.slice a xs.length c, .int .i64 (-1)]) ∧ OwnT w' W.heap.size a c xs ∧ Below W.heap.size W w') := fun W hB => (HLEX.out W r hrs hB).mono fun _ _ => lexOk h1 hxs
      have hfit : FitsT xs := by have := (toks_fit r hrs).1; unfold toks at this; rw [h1] at this; rw [hxs]; exact this
      have hfew : xs.length ≤ 1000000 := by have h4 := toks_few h1; have h5 : r.data.toList.length = r.size := (by simp); have h6 := tE_size (L := 1) hsh.2 hsh.1; rw [← hrt] at h6; rw [hxs, List.length_map]; omega
      have HPI : Hid (parseI xs 0 = some (e, xs.length)) := by unfold Hid; rw [hxs]; exact h3
      have hnn : ((xs.length : Int) == (xs.length : Int)) = true := by simp
      have HFW := Lib.hid hfew
      clear h1 h2 h3 hxs HLEX hrr hsh hrt hfew
      go_wp2_with fail
      refine (specExprOk e a' c' d _ L3.out.kx HW.out true HV.out).mono ?_
      rintro y w4 ⟨rfl, b4⟩
      have L4 := Lib.hid (L3.out.below b4)
      clear b4 L3 x00 x0 x1 x2 x3
      go_wp2_with fail
      refine (I1.out _ L4.out.bel).mono ?_
      rintro y w5 ⟨a5, c5, rfl, own5, b5⟩
      have L5 := Lib.hid (L4.out.below b5)
      have T5 := Lib.hid (own5.toks hfit)
      clear own5 b5 L4
      have I2 := Lib.hid (show Calls Tryz.prog 15 #[.slice a5 xs.length c5, .int .i64 0] w5 (fun y w' => ∃ a c d6, y = .returned (.tuple #[.agg #[.int .i64 e.kind, .string e.text, .int .i64 e.num, .slice a e.kids.length c], .int .i64 (xs.length : Int)]) ∧ KidsAt w' d6 a c e.kids ∧ Below w5.heap.size w5 w') from (implParse _ p a5 c5 xs 0 w5 (HG.out _ L5.out.bel) T5.out HFW.out (by unfold i64E; omega)).mono (by
        rw [HPI.out]
        rintro y w6 ⟨a6, c6, rfl, ht6, b6⟩
        obtain ⟨d6, hk6⟩ := ht6.kids
        exact ⟨a6, c6, d6, rfl, hk6.at, b6⟩))
      go_wp2_with fail
      refine I2.out.mono ?_
      rintro y w6 ⟨a6, c6, d6, rfl, hk6, b6⟩
      have hbb := (Below.refl w6.heap.size w6).alloc (Nat.le_refl _) (.cells #[.int .i64 e.kind, .string e.text, .int .i64 e.num, .slice a6 e.kids.length c6] 32)
      have L6 := Lib.hid ((L5.out.below b6).below hbb)
      have K6 := Lib.hid (hk6.below hbb)
      have N6 := Lib.hid (box4_new w6 32 e a6 c6)
      clear b6 hk6 hbb L5 I2 T5 I1
      obtain ⟨x00, x0, x1, x2, x3⟩ := L6.out.x
      obtain ⟨n00, n0, n1, n2, n3⟩ := N6.out
      go_wp2_with fail
      refine (sameTwice e a6 a' c6 c' d6 d _ K6.out L6.out.kx).mono ?_
      rintro y w7 ⟨rfl, b7⟩
      have B7 := Lib.hid (L6.out.below b7).bel
      clear b7
      go_wp2_with fail
      go_ret
      exact ⟨rfl, B7.out⟩

end Go.Proofs.YtgnillmhpockkaaGreatDoor
