/- The walk of FnGives. -/
import Derived.Test.YtpdcmmhhgnackaaDoorMStrs
import Derived.Test.YtpdcmmhhgnackaaDoorMGivP
import Derived.Test.YtpdcmmhhgnackaaDoorMEachCols2
import Derived.Test.YtpdcmmhhgnackaaDoorMAccJ
import Derived.Test.YtpdcmmhhgnackaaDoorMLawBase
import Derived.Test.YtpdcmmhhgnackaaDoorTie
import Derived.Test.YtpdcmmhhgnackaaDoorCards
import Derived.ProofKit
import Derived.OpenShut
import Derived.ShutString
import Derived.ChangeOld
import Derived.Below
import Derived.LaidMore
import Derived.Lay
import Derived.Lib.LaidTab
import Derived.Stop.LaidErr
import Derived.SevenTiedAt
import Derived.Stop.Joined
import Derived.OpenVars
namespace Go.Proofs.YtpdcmmhhgnackaaDoor
open Go.ChangeShapes Go.WideShapes Go.ChangeAt Go.RowKit

theorem null_gives (ls : List Lb) (t : Ty) : gvI ls t (.mk 5 ⟨#[]⟩ 0 []) = true := by
  have hsh : shapeE (.mk 5 ⟨#[]⟩ 0 []) = true := by
    rw [shapeE, Bool.and_eq_true]
    refine ⟨?_, by rw [shapeL]⟩
    unfold node1
    rw [if_neg (by decide), if_neg (by decide), if_neg (by decide), show (⟨#[]⟩ : ByteArray).toList.isEmpty = true by rw [Lib.toList_data]; rfl]
    decide
  have hn : (Ex.mk 5 ⟨#[]⟩ 0 []).nodes ≤ 40 := by rw [Ex.nodes_eq]; show 1 + nodesL [] ≤ 40; rw [nodesL]; omega
  unfold gvI
  rw [if_pos (by rw [hsh]; simpa using hn), opdE]
  rfl

theorem text_gives {ls : List Lb} {k n : Int} {s : ByteArray} {e : Ex} (h : gvI ls ⟨k, n, s⟩ e = true) (hk : k = 3 ∨ k = 4) : gvI ls ⟨1, 0, ⟨#[]⟩⟩ e = true := by
  unfold gvI at h ⊢
  split at h
  · rename_i hok
    rw [if_pos hok]
    cases ho : opdE (fun _ => none) ls e with
    | none => rw [ho] at h; cases h
    | some o =>
      rw [ho] at h
      have h' : stoB ls k n s o = true := h
      show stoB ls 1 0 ⟨#[]⟩ o = true
      cases o with
      | plain x =>
        have hx : (x == 4) = true := by
          unfold stoB at h'
          rcases hk with rfl | rfl <;> simpa using h'
        show (x == 4 || x == 0 && (1 : Int) == 0 || x == 2 && (1 : Int) == 2) = true
        rw [hx]
        rfl
      | text q => rfl
      | enum q => cases h'
  · cases h

theorem cols_gives {ls : List Lb} {t : Ty} {e : Ex} (h : gvI ls t e = true) : e.ucols = [] := by
  unfold gvI at h
  split at h
  · rename_i hok
    rw [Bool.and_eq_true] at hok
    cases ho : opdE (fun _ => none) ls e with
    | none => rw [ho] at h; cases h
    | some o =>
      have hc := no_cols (ls := ls) e hok.2 (by rw [ho]; rfl)
      refine List.eq_nil_iff_forall_not_mem.2 fun q hq => ?_
      have := ((ucols_facts e).2.1 q).1 hq
      rw [hc] at this
      cases this
  · cases h

/-- The boxes of the expression and of its type. -/
structure GL (w w1 : World) (X T : Nat) (e : Ex) (ea : Option Addr) (ec : Nat) (tk tl : Int) (tn : ByteArray) (V : World) : Prop where
  x : ExRow V X e.kind e.text e.num (.slice ea e.kids.length ec)
  t : TyRow V T tk tl tn
  bel : Below w1.heap.size w1 V

theorem GL.below {w w1 : World} {X T : Nat} {e : Ex} {ea : Option Addr} {ec : Nat} {tk tl : Int} {tn : ByteArray} {V V' : World} (h : GL w w1 X T e ea ec tk tl tn V) (hb : Below V.heap.size V V') : GL w w1 X T e ea ec tk tl tn V' :=
  ⟨h.x.below hb, h.t.below hb, h.bel.trans (hb.mono h.bel.size)⟩

set_option maxRecDepth 100000 in
set_option maxHeartbeats 4000000 in
theorem walkFnGives (a : Option Addr) (c : Nat) (l : List UInt8) (w : World) (hb : Bytes w a c l) (hL : laidMetH Tryd.prog Rows.fnGivesRow.laid w) :
    Calls Tryd.prog 3 #[.slice a l.length c] w fun e w' => e = .returned (.bool true) ∧ Below w.heap.size w w' := by
  have hF := formsAt_of (show laidMet Tryd.prog _ w from hL)
  have HF := Lib.hid (fun w' (hb : Below w.heap.size w w') => hF.below (w' := w') (B := w.heap.size) hb hF.1)
  clear hL hF
  by_cases hbig : 1048576 < l.length
  · go_enter Tryd.func3, Tryd.ntmps3
    go_wp2_with (go_at_call 6; refine (lawsBigYes _ _ _ _ hbig).mono ?_; rintro e w' ⟨rfl, rfl⟩)
    go_ret
    exact ⟨rfl, Below.refl _ _⟩
  · have HBY := Lib.hid hb
    clear hb
    go_enter Tryd.func3, Tryd.ntmps3
    go_wp2_with (go_at_call 6; refine (lawsBigNo _ _ _ _ (by omega)).mono ?_; rintro e w' ⟨rfl, rfl⟩)
    refine (specDrawGives a c l _ HBY.out (by omega)).mono ?_
    rintro x w1 ⟨e, ea, ec, d, tk, tl, tn, la, ls, rfl, hsm, hk, hll, hlb, B1⟩
    have hwt : e.wt ≤ 1048576 := by have h1 := hsm.2.1; have h2 := hsm.2.2; omega
    have HFT := Lib.hid hsm.1
    have HW := Lib.hid hwt
    have HLL := Lib.hid hll
    obtain ⟨v, hv⟩ : ∃ v, gvI ls ⟨tk, tl, tn⟩ e = v := ⟨_, rfl⟩
    have IG : Hid (∀ (t : Ty) (W : World), Below w1.heap.size w1 W → Calls Tryd.prog 8 #[.agg #[.int .i64 e.kind, .string e.text, .int .i64 e.num, .slice ea e.kids.length ec], .agg #[.int .i64 t.kind, .int .i64 t.len, .string t.name], .slice la 2 2] W fun x w' => x = .returned (.bool (gvI ls t e)) ∧ Below W.heap.size W w') := fun t W hB => by
      have h := implGives e ea ec d t la 2 ls W (HF.out W (B1.trans (hB.mono B1.size))) HFT.out (hk.below hB) HW.out (hlb.below hB)
      rw [HLL.out] at h
      exact h
    have IN : Hid (∀ (t : Ty) (W : World), Below w1.heap.size w1 W → Calls Tryd.prog 8 #[.agg #[.int .i64 5, .string ⟨#[]⟩, .int .i64 0, .slice none 0 0], .agg #[.int .i64 t.kind, .int .i64 t.len, .string t.name], .slice la 2 2] W fun x w' => x = .returned (.bool true) ∧ Below W.heap.size W w') := fun t W hB => by
      have h := implGives (.mk 5 ⟨#[]⟩ 0 []) none 0 1 t la 2 ls W (HF.out W (B1.trans (hB.mono B1.size))) ⟨by unfold maxLen; exact Nat.zero_le _, by show i64E 5; unfold i64E; omega, by show i64E 0; unfold i64E; omega⟩ ⟨Nat.le_refl _, by unfold maxLen; omega, fun _ => rfl, fun h => absurd h (by show ¬ 0 < 0; omega)⟩ (by rw [Ex.wt_eq]; show 0 + (0 + wtL []) ≤ _; rw [wtL]; omega) (hlb.below hB)
      rw [HLL.out, null_gives] at h
      exact h
    have SG : Hid (∀ (W : World), Below w1.heap.size w1 W → Calls Tryd.prog 9 #[.agg #[.int .i64 e.kind, .string e.text, .int .i64 e.num, .slice ea e.kids.length ec], .agg #[.int .i64 tk, .int .i64 tl, .string tn], .slice la 2 2] W fun x w' => x = .returned (.bool v) ∧ Below W.heap.size W w') := fun W hB => by
      have h := specGives e ea ec d ⟨tk, tl, tn⟩ la 2 ls W HFT.out (hk.below hB) HW.out (hlb.below hB)
      rw [HLL.out, gives_agree, hv] at h
      exact h
    have IC : Hid (∀ (W : World), Below w1.heap.size w1 W → Calls Tryd.prog 10 #[.agg #[.int .i64 e.kind, .string e.text, .int .i64 e.num, .slice ea e.kids.length ec]] W (NewStrs W e.ucols)) := fun W hB => implCols e ea ec d W HFT.out (hk.below hB) HW.out
    have HV := Lib.hid hv
    have HB1 := Lib.hid B1
    clear hsm hk hll hlb B1 hwt hv
    have L1 : Hid (GL w w1 w1.heap.size (w1.heap.size + 1) e ea ec tk tl tn ((w1.alloc (.cells #[.int .i64 e.kind, .string e.text, .int .i64 e.num, .slice ea e.kids.length ec] 26)).alloc (.cells #[.int .i64 tk, .int .i64 tl, .string tn] 28))) := by
      have x := tyRow_new (w1.alloc (.cells #[.int .i64 e.kind, .string e.text, .int .i64 e.num, .slice ea e.kids.length ec] 26)) tk tl tn
      rw [size_allocE] at x
      exact ⟨(exRow_new w1 _ _ _ _).alloc _, x, ((Below.refl _ _).alloc (Nat.le_refl _) _).alloc (by simp) _⟩
    have hvv : (v != v) = false := by cases v <;> rfl
    go_wp2_with fail
    generalize (w1.alloc (.cells #[.int .i64 e.kind, .string e.text, .int .i64 e.num, .slice ea e.kids.length ec] 26)).alloc (.cells #[.int .i64 tk, .int .i64 tl, .string tn] 28) = W1 at L1 ⊢
    generalize w1.heap.size = X at L1 ⊢
    refine (IG.out ⟨tk, tl, tn⟩ W1 L1.out.bel).mono ?_
    rw [HV.out]
    rintro y w2 ⟨rfl, b2⟩
    have L2 := Lib.hid (L1.out.below b2)
    clear b2 L1
    obtain ⟨x0, x1, x2, x3, xf⟩ := L2.out.x.cells
    obtain ⟨t0, t1, t2, tf⟩ := L2.out.t.cells
    go_wp2_with fail
    refine (SG.out w2 L2.out.bel).mono ?_
    rintro y w3 ⟨rfl, b3⟩
    have L3 := Lib.hid (L2.out.below b3)
    clear b3 L2 x0 x1 x2 x3 xf t0 t1 t2 tf
    obtain ⟨x0, x1, x2, x3, xf⟩ := L3.out.x.cells
    obtain ⟨t0, t1, t2, tf⟩ := L3.out.t.cells
    go_wp2_with fail
    refine (IN.out ⟨tk, tl, tn⟩ w3 L3.out.bel).mono ?_
    rintro y w4 ⟨rfl, b4⟩
    have L4 := Lib.hid ((L3.out.below b4).below ((Below.refl _ _).alloc (Nat.le_refl _) (.cells #[.int .i64 1, .int .i64 0, .string ⟨#[]⟩] 28)))
    have N4 := Lib.hid (tyRow_new w4 1 0 ⟨#[]⟩)
    clear b4 L3 x0 x1 x2 x3 xf t0 t1 t2 tf
    obtain ⟨x0, x1, x2, x3, xf⟩ := L4.out.x.cells
    obtain ⟨t0, t1, t2, tf⟩ := L4.out.t.cells
    obtain ⟨n0, n1, n2, nf⟩ := N4.out.cells
    cases v with
    | false =>
      go_wp2_with fail
      refine (IC.out _ L4.out.bel).mono ?_
      rintro y wC ⟨ac, cc, rfl, _, bC⟩
      have BC := Lib.hid (HB1.out.trans ((L4.out.bel.trans (bC.mono L4.out.bel.size)).mono HB1.out.size))
      clear bC
      cases hz : ((e.ucols.length : Int) == 0)
      all_goals
        go_wp2_with fail
        go_ret
        exact ⟨rfl, BC.out⟩
    | true =>
      have hu : e.ucols = [] := cols_gives HV.out
      rw [hu] at IC
      have HTG : Hid (tk = 3 ∨ tk = 4 → gvI ls ⟨1, 0, ⟨#[]⟩⟩ e = true) := fun h => text_gives HV.out h
      by_cases k3 : tk = 3
      · have b3 : (tk == 3) = true := by simp [k3]
        have HG1 := Lib.hid (HTG.out (.inl k3))
        clear k3
        go_wp2_with fail
        refine (IG.out ⟨1, 0, ⟨#[]⟩⟩ _ L4.out.bel).mono ?_
        rw [HG1.out]
        rintro y w5 ⟨rfl, b5⟩
        have LX := Lib.hid (L4.out.below b5)
        clear b5 x0 x1 x2 x3 xf
        obtain ⟨x0, x1, x2, x3, xf⟩ := LX.out.x.cells
        go_wp2_with fail
        refine (IC.out _ LX.out.bel).mono ?_
        rintro y wC ⟨ac, cc, rfl, _, bC⟩
        have BC := Lib.hid (HB1.out.trans ((LX.out.bel.trans (bC.mono LX.out.bel.size)).mono HB1.out.size))
        clear bC
        go_wp2_with fail
        go_ret
        exact ⟨rfl, BC.out⟩
      · have b3 : (tk == 3) = false := by rw [beq_eq_false_iff_ne]; exact k3
        by_cases k4 : tk = 4
        · have b4 : (tk == 4) = true := by simp [k4]
          have HG1 := Lib.hid (HTG.out (.inr k4))
          clear k4
          go_wp2_with fail
          refine (IG.out ⟨1, 0, ⟨#[]⟩⟩ _ L4.out.bel).mono ?_
          rw [HG1.out]
          rintro y w5 ⟨rfl, b5⟩
          have LX := Lib.hid (L4.out.below b5)
          clear b5 x0 x1 x2 x3 xf
          obtain ⟨x0, x1, x2, x3, xf⟩ := LX.out.x.cells
          go_wp2_with fail
          refine (IC.out _ LX.out.bel).mono ?_
          rintro y wC ⟨ac, cc, rfl, _, bC⟩
          have BC := Lib.hid (HB1.out.trans ((LX.out.bel.trans (bC.mono LX.out.bel.size)).mono HB1.out.size))
          clear bC
          go_wp2_with fail
          go_ret
          exact ⟨rfl, BC.out⟩
        · have b4 : (tk == 4) = false := by rw [beq_eq_false_iff_ne]; exact k4
          have LX := L4
          go_wp2_with fail
          refine (IC.out _ LX.out.bel).mono ?_
          rintro y wC ⟨ac, cc, rfl, _, bC⟩
          have BC := Lib.hid (HB1.out.trans ((LX.out.bel.trans (bC.mono LX.out.bel.size)).mono HB1.out.size))
          clear bC
          go_wp2_with fail
          go_ret
          exact ⟨rfl, BC.out⟩

end Go.Proofs.YtpdcmmhhgnackaaDoor
