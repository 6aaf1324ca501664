/- The walk of FnNodes. -/
import Derived.Test.YtnepfnbmmdcgpaaDoorTie
import Derived.Test.YtnepfnbmmdcgpaaDoorDrawNodes
import Derived.Test.YtnepfnbmmdcgpaaDoorShapeE
import Derived.Test.YtnepfnbmmdcgpaaDoorOkW
import Derived.Test.YtnepfnbmmdcgpaaDoorOpenBytes
import Derived.Test.YtnepfnbmmdcgpaaDoorExBoxes
import Derived.ProofKit
import Derived.OpenShut
import Derived.ShutString
import Derived.ChangeOld
import Derived.Below
import Derived.LaidMore
import Derived.Lay
import Derived.Lib.LaidTab
import Derived.Stop.LaidErr
import Derived.SevenTiedAt
import Derived.Stop.Joined
import Derived.OpenVars
namespace Go.Proofs.YtnepfnbmmdcgpaaDoor
open Go.ChangeShapes Go.WideShapes Go.ChangeAt Go.RowKit

/-- The drawn expression, and its not. -/
structure NN (w : World) (X Y Z : Nat) (e : Ex) (a' : Option Addr) (c' d : Nat) (W : World) : Prop where
  x : Box4 W X e a' c'
  y : Y < W.heap.size ∧ W.cell? ⟨Y, 0, none⟩ = some (.int .i64 6) ∧ W.cell? ⟨Y, 1, none⟩ = some (.string ⟨#[]⟩) ∧ W.cell? ⟨Y, 2, none⟩ = some (.int .i64 0) ∧ W.cell? ⟨Y, 3, none⟩ = some (.slice (some ⟨Z, 0, none⟩) 1 1)
  kx : KidsAt W d a' c' e.kids
  ky : KidsAt W (d + 1) (some ⟨Z, 0, none⟩) 1 [e]
  bel : Below w.heap.size w W

theorem NN.below {w W W' : World} {X Y Z : Nat} {e : Ex} {a' : Option Addr} {c' d : Nat} (h : NN w X Y Z e a' c' d W) (hb : Below W.heap.size W W') : NN w X Y Z e a' c' d W' := by
  obtain ⟨y0, y1, y2, y3, y4⟩ := h.y
  have ce := fun o => hb.cell (p := ⟨Y, o, none⟩) y0
  exact ⟨h.x.below hb, ⟨Nat.lt_of_lt_of_le y0 hb.size, (ce _).trans y1, (ce _).trans y2, (ce _).trans y3, (ce _).trans y4⟩, h.kx.below hb, h.ky.below hb, h.bel.trans (hb.mono h.bel.size)⟩

theorem NN.new {w W : World} {X : Nat} {e : Ex} {a' : Option Addr} {c' d : Nat} (hx : Box4 W X e a' c') (hk : KidsAt W d a' c' e.kids) (hf : e.fit) (hb : Below w.heap.size w W) {W' : World}
    (hW : W' = (W.alloc (.cells #[.int .i64 e.kind, .string e.text, .int .i64 e.num, .slice a' e.kids.length c'] 26)).alloc (.cells #[.int .i64 6, .string ⟨#[]⟩, .int .i64 0, .slice (some ⟨W.heap.size, 0, none⟩) 1 1] 26)) :
    NN w X (W.heap.size + 1) W.heap.size e a' c' d W' := by
  have hbb : Below W.heap.size W W' := by subst hW; exact ((Below.refl _ _).alloc (Nat.le_refl _) _).alloc (by simp) _
  refine ⟨hx.below hbb, ?_, hk.below hbb, ⟨Nat.le_refl _, by unfold maxLen; omega, (fun h => by cases h), fun _ => ⟨W.heap.size, 0, rfl, ?_, fun i hi => ?_⟩⟩, hb.trans (hbb.mono hb.size)⟩
  · subst hW; exact ⟨by simp, by simp [go_sem], by simp [go_sem], by simp [go_sem], by simp [go_sem]⟩
  · subst hW; simp; omega
  · have : i = 0 := by simpa using hi
    subst this
    refine ⟨?_, ?_, ?_, hf, a', c', ?_, hk.below hbb⟩ <;> subst hW <;> simp [go_sem]

set_option maxRecDepth 100000 in
set_option maxHeartbeats 4000000 in
theorem walkFnNodes (a : Option Addr) (c : Nat) (l : List UInt8) (w : World) (hb : Bytes w a c l) (hL : laidMetH Tryd.prog Rows.fnNodesRow.laid w) :
    Calls Tryd.prog 3 #[.slice a l.length c] w fun x w' => x = .returned (.bool true) ∧ Below w.heap.size w w' := by
  have hF := formsAt_of (show laidMet Tryd.prog _ w from hL)
  have HF := Lib.hid (fun w' hb => hF.below (w' := w') (B := w.heap.size) hb hF.1)
  have hGl := hF.1
  clear hL hF
  by_cases hbig : 1048576 < l.length
  · have hd : decide (1048576 < l.length) = true := decide_eq_true hbig
    go_enter Tryd.func3, Tryd.ntmps3
    go_wp2_with fail
    refine (lawsBig a c l.length w).mono ?_
    rintro e w1 ⟨rfl, rfl⟩
    rw [hd]
    go_wp2_with fail
    go_ret
    exact ⟨rfl, Below.refl _ _⟩
  · have hd : decide (1048576 < l.length) = false := decide_eq_false hbig
    have HBY := Lib.hid hb
    clear hb
    go_enter Tryd.func3, Tryd.ntmps3
    go_wp2_with fail
    refine (lawsBig a c l.length w).mono ?_
    rintro e w1 ⟨rfl, rfl⟩
    rw [hd]
    go_wp2_with fail
    refine (specDrawNodes a c l w HBY.out (by omega)).mono ?_
    rintro x w1 ⟨e, a', c', d, rfl, hsm, hk, ha, hbel⟩
    go_wp2_with fail
    have HBX := Lib.hid (box4_new w1 26 e a' c')
    have HK1 : Hid (∀ W, Below w1.heap.size w1 W → KidsAt W d a' c' e.kids) := fun W hb => hk.below hb
    have HB1 : Hid (∀ W, Below w1.heap.size w1 W → Below w.heap.size w W) := fun W hb => hbel.trans (hb.mono hbel.size)
    have hne := Ex.nodes_eq e
    have hN := hsm.2.2
    obtain ⟨X, hX⟩ : ∃ X, X = w1.heap.size := ⟨_, rfl⟩
    rw [← hX] at HBX ⊢
    have hHX := Lib.hid hX
    have HSM := Lib.hid hsm
    have HA := Lib.hid ha
    have hl := hk.len
    clear hk hbel hsm ha hX
    generalize hks : e.kids = xs at *
    go_loopw [4, 5] (fun n i wr => ∃ k : Nat, k ≤ xs.length ∧ i = .int .i64 k ∧ n = .int .i64 (1 + nodesL (xs.take k) : Nat) ∧ Hid (Below w1.heap.size w1 wr ∧ Box4 wr X e a' c')) (fun _ i _ => xs.length - (intOf i).toNat)
    case atStart => exact ⟨0, Nat.zero_le _, rfl, by simp [nodesL], (Below.refl _ _).alloc (Nat.le_refl _) _, HBX.out⟩
    case round =>
      obtain ⟨k, hk, rfl, rfl, HR⟩ := hrel
      obtain ⟨hXl, x0, x1, x2, x3⟩ := HR.out.2
      rw [hks] at x3
      by_cases hlt : k < xs.length
      · obtain ⟨d', rfl⟩ : ∃ q, d = q + 1 := ⟨d - 1, by cases d with | zero => exact (HK1.out _ HR.out.1).elim | succ n => omega⟩
        obtain ⟨b, off, rfl, hbl, hc0, hc1, hc2, hfit, ax, cx, hc3, hkid⟩ := (HK1.out _ HR.out.1).spot hlt
        have HT := Lib.hid (nodesL_take xs k hlt)
        have HLm := Lib.hid (nodesL_mono xs (k + 1))
        have HGt := Lib.hid (nodesL_get hlt)
        have HX := Lib.hid hkid
        clear hkid
        go_wp2_with fail
        refine (implNodes xs[k] ax cx d' _ hfit HX.out (by have := HGt.out; omega)).mono ?_
        rintro x w2 ⟨rfl, hb2⟩
        have HR2 : Hid (Below w1.heap.size w1 w2 ∧ Box4 w2 X e _ c') := ⟨HR.out.1.trans (hb2.mono HR.out.1.size), HR.out.2.below hb2⟩
        have hsum : (1 + nodesL (xs.take k) : Nat) + (xs[k].nodes : Int) ≤ 1073741824 := by have := HT.out; have := HLm.out; omega
        clear hb2 x0 x1 x2 x3 hc0 hc1 hc2 hc3
        go_wp2_with fail
        go_roundw
        case rel => exact ⟨k + 1, by omega, by go_num, by rw [HT.out]; go_num, HR2⟩
        case measure => simp [intOf]; omega
      · obtain rfl : k = xs.length := by omega
        subst hks
        obtain ⟨nI, hnI⟩ : ∃ nI : Int, (e.nodes : Int) = nI := ⟨_, rfl⟩
        have hne2 : ((1 + nodesL (e.kids.take e.kids.length) : Nat) : Int) = nI := by rw [List.take_length, ← hnI, hne]
        rw [hne2]
        obtain ⟨mI, hmI⟩ : ∃ mI : Int, nI + 1 = mI := ⟨_, rfl⟩
        have hwm : IntKind.i64.wrap (nI + 1) = mI := by rw [hmI]; exact IntWalk.i64_in _ (by omega)
        have HNN : Hid (∀ W', W' = _ → NN w X (wr.heap.size + 1) wr.heap.size e a' c' d W') := fun W' hW => NN.new HR.out.2 (HK1.out _ HR.out.1) HSM.out.1 (HB1.out _ HR.out.1) hW
        have HZa : Hid (a' ≠ some ⟨wr.heap.size, 0, none⟩) := fun h => by
          have h1 := HA.out _ _ _ h
          have h2 := HR.out.1.size
          omega
        go_wp2_with fail
        have T1 := Lib.hid (HNN.out _ rfl)
        generalize (wr.alloc (.cells #[.int .i64 e.kind, .string e.text, .int .i64 e.num, .slice a' e.kids.length c'] 26)).alloc (.cells #[.int .i64 6, .string ⟨#[]⟩, .int .i64 0, .slice (some ⟨wr.heap.size, 0, none⟩) 1 1] 26) = W1 at T1 ⊢
        generalize wr.heap.size = Z at T1 HZa ⊢
        generalize Z + 1 = Y at T1 ⊢
        have hst : Hid (∀ p q : World, (((p.cell? ⟨X, 0, none⟩ = some (.int .i64 e.kind) ∧ p.cell? ⟨X, 1, none⟩ = some (.string e.text) ∧ p.cell? ⟨X, 2, none⟩ = some (.int .i64 e.num) ∧ p.cell? ⟨X, 3, none⟩ = some (.slice a' e.kids.length c')) ∧ (p.cell? ⟨Y, 0, none⟩ = some (.int .i64 6) ∧ p.cell? ⟨Y, 1, none⟩ = some (.string ⟨#[]⟩) ∧ p.cell? ⟨Y, 2, none⟩ = some (.int .i64 0) ∧ p.cell? ⟨Y, 3, none⟩ = some (.slice (some ⟨Z, 0, none⟩) 1 1))) ∧ Hid (NN w X Y Z e a' c' d p)) → Below p.heap.size p q → (((q.cell? ⟨X, 0, none⟩ = some (.int .i64 e.kind) ∧ q.cell? ⟨X, 1, none⟩ = some (.string e.text) ∧ q.cell? ⟨X, 2, none⟩ = some (.int .i64 e.num) ∧ q.cell? ⟨X, 3, none⟩ = some (.slice a' e.kids.length c')) ∧ (q.cell? ⟨Y, 0, none⟩ = some (.int .i64 6) ∧ q.cell? ⟨Y, 1, none⟩ = some (.string ⟨#[]⟩) ∧ q.cell? ⟨Y, 2, none⟩ = some (.int .i64 0) ∧ q.cell? ⟨Y, 3, none⟩ = some (.slice (some ⟨Z, 0, none⟩) 1 1))) ∧ Hid (NN w X Y Z e a' c' d q))) := fun p q h hb => by
          have z := h.2.out.below hb
          exact ⟨⟨z.x.2, z.y.2⟩, z⟩
        have HS : Hid (((W1.drew.cell? ⟨X, 0, none⟩ = some (.int .i64 e.kind) ∧ W1.drew.cell? ⟨X, 1, none⟩ = some (.string e.text) ∧ W1.drew.cell? ⟨X, 2, none⟩ = some (.int .i64 e.num) ∧ W1.drew.cell? ⟨X, 3, none⟩ = some (.slice a' e.kids.length c')) ∧ (W1.drew.cell? ⟨Y, 0, none⟩ = some (.int .i64 6) ∧ W1.drew.cell? ⟨Y, 1, none⟩ = some (.string ⟨#[]⟩) ∧ W1.drew.cell? ⟨Y, 2, none⟩ = some (.int .i64 0) ∧ W1.drew.cell? ⟨Y, 3, none⟩ = some (.slice (some ⟨Z, 0, none⟩) 1 1))) ∧ Hid (NN w X Y Z e a' c' d W1.drew)) := by
          have z := T1.out.below (below_drewE (Below.refl _ _))
          exact ⟨⟨z.x.2, z.y.2⟩, z⟩
        obtain ⟨rn, hrn⟩ : ∃ rn : Option Addr → Int, rn = fun s => if s = some ⟨Z, 0, none⟩ then mI else nI := ⟨_, rfl⟩
        have hr1 : rn a' = nI := by rw [hrn]; simp only; rw [if_neg HZa.out]
        have hr2 : rn (some ⟨Z, 0, none⟩) = mI := by rw [hrn]; simp
        have e1 : (rn a' == nI) = true := by rw [hr1]; simp
        have e2 : (rn (some ⟨Z, 0, none⟩) == mI) = true := by rw [hr2]; simp
        have e3 : (nI == nI) = true := by simp
        have hNd : (Ex.mk 6 ⟨#[]⟩ 0 [e]).nodes = 1 + e.nodes := by rw [Ex.nodes, nodesL, nodesL]; omega
        have hSh : shapeE (.mk 6 ⟨#[]⟩ 0 [e]) = shapeE e := by
          rw [shapeE, shapeL, shapeL]
          have : node1 6 ⟨#[]⟩ 0 [e].length = true := by
            show node1 6 ⟨#[]⟩ 0 1 = true
            have h0 : (ByteArray.mk #[]).toList.isEmpty = true := by rw [Lib.toList_data]; rfl
            unfold node1
            rw [if_neg (by decide), if_neg (by decide), if_neg (by decide), h0]
            decide
          rw [this]; simp
        have hFn : (Ex.mk 6 ⟨#[]⟩ 0 [e]).fit := ⟨by show (0 : Nat) ≤ maxLen; unfold maxLen; omega, (show i64E 6 from ⟨by decide, by decide⟩), (show i64E 0 from ⟨by decide, by decide⟩)⟩
        have hwe : e.wt ≤ 4096 := by have := HSM.out.2.1; omega
        have cN : Hid (∀ (k : Int) (t : ByteArray) (n : Int) (sa : Option Addr) (sl sc : Nat) (W : World), ((k = e.kind ∧ t = e.text ∧ n = e.num ∧ sa = a' ∧ sl = e.kids.length ∧ sc = c') ∨ (k = 6 ∧ t = ⟨#[]⟩ ∧ n = 0 ∧ sa = some ⟨Z, 0, none⟩ ∧ sl = 1 ∧ sc = 1)) → NN w X Y Z e a' c' d W →
            Calls Tryd.prog 9 #[.agg #[.int .i64 k, .string t, .int .i64 n, .slice sa sl sc]] W fun x w' => x = .returned (.int .i64 (rn sa)) ∧ Below W.heap.size W w') := by
          intro k t n sa sl sc W h hW
          rcases h with ⟨rfl, rfl, rfl, rfl, rfl, rfl⟩ | ⟨rfl, rfl, rfl, rfl, rfl, rfl⟩
          · rw [hr1, ← hnI]; exact implNodes e _ _ d W HSM.out.1 hW.kx (by omega)
          · rw [hr2, ← hmI, ← hnI, show ((e.nodes : Int) + 1) = (((Ex.mk 6 ⟨#[]⟩ 0 [e]).nodes : Nat) : Int) by rw [hNd]; omega]
            exact implNodes (.mk 6 ⟨#[]⟩ 0 [e]) (some ⟨Z, 0, none⟩) 1 (d + 1) W hFn hW.ky (by omega)
        have cS : Hid (∀ W, NN w X Y Z e a' c' d W → Calls Tryd.prog 10 #[.agg #[.int .i64 e.kind, .string e.text, .int .i64 e.num, .slice a' e.kids.length c']] W fun x w' => x = .returned (.int .i64 nI) ∧ Below W.heap.size W w') := by
          intro W hW
          rw [← hnI]; exact specNodes d e a' c' W (by omega) hW.kx
        obtain ⟨v, hv⟩ : ∃ v, (decide (e.nodes ≤ 40) && shapeE e) = v := ⟨_, rfl⟩
        obtain ⟨u, hu⟩ : ∃ u, (decide ((Ex.mk 6 ⟨#[]⟩ 0 [e]).nodes ≤ 40) && shapeE (.mk 6 ⟨#[]⟩ 0 [e])) = u := ⟨_, rfl⟩
        have cE : Hid (∀ W, NN w X Y Z e a' c' d W → Calls Tryd.prog 12 #[.agg #[.int .i64 e.kind, .string e.text, .int .i64 e.num, .slice a' e.kids.length c']] W fun x w' => x = .returned (.bool v) ∧ Below W.heap.size W w') :=
          fun W hW => specExprOk e a' c' d W hW.kx (by omega) v hv
        have cI : Hid (∀ W, NN w X Y Z e a' c' d W → Calls Tryd.prog 11 #[.agg #[.int .i64 6, .string ⟨#[]⟩, .int .i64 0, .slice (some ⟨Z, 0, none⟩) 1 1]] W fun x w' => x = .returned (.bool u) ∧ Below W.heap.size W w') :=
          fun W hW => implExprOk (.mk 6 ⟨#[]⟩ 0 [e]) (some ⟨Z, 0, none⟩) 1 (d + 1) W (HF.out _ hW.bel) hFn hW.ky (by omega) u hu
        rw [hNd, hSh] at hu
        have huv : u = (v && decide (nI < 40)) := by
          rw [← hu, ← hv]
          by_cases h40 : e.nodes + 1 ≤ 40
          · rw [decide_eq_true (show 1 + e.nodes ≤ 40 by omega), decide_eq_true (show e.nodes ≤ 40 by omega), decide_eq_true (show nI < 40 by omega)]; simp
          · rw [decide_eq_false (show ¬ 1 + e.nodes ≤ 40 by omega), decide_eq_false (show ¬ nI < 40 by omega)]; simp
        clear hu hv hr1 hr2 hrn hNd hSh hFn hwe hnI hmI hne hne2 HZa HNN HR x0 x1 x2 x3 T1
        cases v with
        | true =>
          by_cases h40 : nI < 40
          · have hq40 : decide (nI < 40) = true := decide_eq_true h40
            rw [hq40] at huv
            have hu1 : u = true := huv
            subst hu1
            clear huv
            go_region_held3 (fun w' => ((w'.cell? ⟨X, 0, none⟩ = some (.int .i64 e.kind) ∧ w'.cell? ⟨X, 1, none⟩ = some (.string e.text) ∧ w'.cell? ⟨X, 2, none⟩ = some (.int .i64 e.num) ∧ w'.cell? ⟨X, 3, none⟩ = some (.slice a' e.kids.length c')) ∧ (w'.cell? ⟨Y, 0, none⟩ = some (.int .i64 6) ∧ w'.cell? ⟨Y, 1, none⟩ = some (.string ⟨#[]⟩) ∧ w'.cell? ⟨Y, 2, none⟩ = some (.int .i64 0) ∧ w'.cell? ⟨Y, 3, none⟩ = some (.slice (some ⟨Z, 0, none⟩) 1 1))) ∧ Hid (NN w X Y Z e a' c' d w')) (first | assumption | exact HS.out)
              (first
                | (go_at_call 9; refine (cN.out _ _ _ _ _ _ _ (by first | exact .inl ⟨rfl, rfl, rfl, rfl, rfl, rfl⟩ | exact .inr ⟨rfl, rfl, rfl, rfl, rfl, rfl⟩) (And.right (by assumption : _ ∧ Hid (NN w X Y Z e a' c' d _))).out).mono ?_; rintro z wq ⟨rfl, bq⟩; have hq := hst.out _ _ (by assumption) bq)
                | (go_at_call 10; refine (cS.out _ (And.right (by assumption : _ ∧ Hid (NN w X Y Z e a' c' d _))).out).mono ?_; rintro z wq ⟨rfl, bq⟩; have hq := hst.out _ _ (by assumption) bq)
                | (go_at_call 11; refine (cI.out _ (And.right (by assumption : _ ∧ Hid (NN w X Y Z e a' c' d _))).out).mono ?_; rintro z wq ⟨rfl, bq⟩; have hq := hst.out _ _ (by assumption) bq)
                | (go_at_call 12; refine (cE.out _ (And.right (by assumption : _ ∧ Hid (NN w X Y Z e a' c' d _))).out).mono ?_; rintro z wq ⟨rfl, bq⟩; have hq := hst.out _ _ (by assumption) bq))
            have B9 := Lib.hid hq.2.out.bel
            clear hq
            go_wp2_with fail
            go_ret
            exact ⟨rfl, B9.out⟩
          · have hq40 : decide (nI < 40) = false := decide_eq_false h40
            rw [hq40] at huv
            have hu1 : u = false := huv
            subst hu1
            clear huv
            go_region_held3 (fun w' => ((w'.cell? ⟨X, 0, none⟩ = some (.int .i64 e.kind) ∧ w'.cell? ⟨X, 1, none⟩ = some (.string e.text) ∧ w'.cell? ⟨X, 2, none⟩ = some (.int .i64 e.num) ∧ w'.cell? ⟨X, 3, none⟩ = some (.slice a' e.kids.length c')) ∧ (w'.cell? ⟨Y, 0, none⟩ = some (.int .i64 6) ∧ w'.cell? ⟨Y, 1, none⟩ = some (.string ⟨#[]⟩) ∧ w'.cell? ⟨Y, 2, none⟩ = some (.int .i64 0) ∧ w'.cell? ⟨Y, 3, none⟩ = some (.slice (some ⟨Z, 0, none⟩) 1 1))) ∧ Hid (NN w X Y Z e a' c' d w')) (first | assumption | exact HS.out)
              (first
                | (go_at_call 9; refine (cN.out _ _ _ _ _ _ _ (by first | exact .inl ⟨rfl, rfl, rfl, rfl, rfl, rfl⟩ | exact .inr ⟨rfl, rfl, rfl, rfl, rfl, rfl⟩) (And.right (by assumption : _ ∧ Hid (NN w X Y Z e a' c' d _))).out).mono ?_; rintro z wq ⟨rfl, bq⟩; have hq := hst.out _ _ (by assumption) bq)
                | (go_at_call 10; refine (cS.out _ (And.right (by assumption : _ ∧ Hid (NN w X Y Z e a' c' d _))).out).mono ?_; rintro z wq ⟨rfl, bq⟩; have hq := hst.out _ _ (by assumption) bq)
                | (go_at_call 11; refine (cI.out _ (And.right (by assumption : _ ∧ Hid (NN w X Y Z e a' c' d _))).out).mono ?_; rintro z wq ⟨rfl, bq⟩; have hq := hst.out _ _ (by assumption) bq)
                | (go_at_call 12; refine (cE.out _ (And.right (by assumption : _ ∧ Hid (NN w X Y Z e a' c' d _))).out).mono ?_; rintro z wq ⟨rfl, bq⟩; have hq := hst.out _ _ (by assumption) bq))
            have B9 := Lib.hid hq.2.out.bel
            clear hq
            go_wp2_with fail
            go_ret
            exact ⟨rfl, B9.out⟩
        | false =>
          have hu1 : u = false := by rw [huv]; rfl
          subst hu1
          clear huv
          refine wp_region_noPanic ?_
          have SW := HS.out
          refine wp_region_held_drew (S := fun w' => ((w'.cell? ⟨X, 0, none⟩ = some (.int .i64 e.kind) ∧ w'.cell? ⟨X, 1, none⟩ = some (.string e.text) ∧ w'.cell? ⟨X, 2, none⟩ = some (.int .i64 e.num) ∧ w'.cell? ⟨X, 3, none⟩ = some (.slice a' e.kids.length c')) ∧ (w'.cell? ⟨Y, 0, none⟩ = some (.int .i64 6) ∧ w'.cell? ⟨Y, 1, none⟩ = some (.string ⟨#[]⟩) ∧ w'.cell? ⟨Y, 2, none⟩ = some (.int .i64 0) ∧ w'.cell? ⟨Y, 3, none⟩ = some (.slice (some ⟨Z, 0, none⟩) 1 1))) ∧ Hid (NN w X Y Z e a' c' d w')) (by kernel_rfl) SW (fun hHeld => ?_)
          refine wpAnyH_take (i := 0) (v := ?_) rfl (by kernel_rfl) (by kernel_rfl) (by kernel_rfl) (fun _ _ _ h => h) (Or.inl ⟨by rfl, ?_⟩) hHeld ?_
          rotate_left
          focus (intro wq hSw; obtain ⟨⟨⟨s0, s1, s2, s3⟩, s4, s5, s6, s7⟩, _⟩ := hSw; go_simp; try with_reducible rfl)
          (try simp only [Act.put, List.getElem_toArray, List.getElem_cons_succ, List.getElem_cons_zero, List.setIfInBounds_toArray, List.set_cons_zero, List.set_cons_succ])
          refine wpAnyH_take (i := 2) (v := ?_) rfl (by kernel_rfl) (by kernel_rfl) (by kernel_rfl) (fun _ _ _ h => h) (Or.inl ⟨by rfl, ?_⟩) hHeld ?_
          rotate_left
          focus (intro wq hSw; obtain ⟨⟨⟨s0, s1, s2, s3⟩, s4, s5, s6, s7⟩, _⟩ := hSw; go_simp; try with_reducible rfl)
          (try simp only [Act.put, List.getElem_toArray, List.getElem_cons_succ, List.getElem_cons_zero, List.setIfInBounds_toArray, List.set_cons_zero, List.set_cons_succ])
          refine wpAnyH_ready (rs := [1]) (by kernel_rfl) (by simp) ?_
          refine AllReadyH.cons rfl (fun K hK => ?_) AllReadyH.nil
          go_simp
          refine (cN.out _ _ _ _ _ _ _ (by first | exact .inl ⟨rfl, rfl, rfl, rfl, rfl, rfl⟩ | exact .inr ⟨rfl, rfl, rfl, rfl, rfl, rfl⟩) SW.2.out).mono ?_; rintro z wq ⟨rfl, bq⟩
          have SW := hst.out _ _ SW bq
          refine hK.out _ _ SW (fun hHeld => ?_)
          clear hK K
          (try simp only [Act.put, List.getElem_toArray, List.getElem_cons_succ, List.getElem_cons_zero, List.setIfInBounds_toArray, List.set_cons_zero, List.set_cons_succ])
          refine wpAnyH_take (i := 3) (v := ?_) rfl (by kernel_rfl) (by kernel_rfl) (by kernel_rfl) (fun _ _ _ h => h) (Or.inl ⟨by rfl, ?_⟩) hHeld ?_
          rotate_left
          focus (intro wq hSw; obtain ⟨⟨⟨s0, s1, s2, s3⟩, s4, s5, s6, s7⟩, _⟩ := hSw; go_simp; try with_reducible rfl)
          (try simp only [Act.put, List.getElem_toArray, List.getElem_cons_succ, List.getElem_cons_zero, List.setIfInBounds_toArray, List.set_cons_zero, List.set_cons_succ])
          refine wpAnyH_take (i := 4) (v := ?_) rfl (by kernel_rfl) (by kernel_rfl) (by kernel_rfl) (fun _ _ _ h => h) (Or.inl ⟨by rfl, ?_⟩) hHeld ?_
          rotate_left
          focus (intro wq hSw; obtain ⟨⟨⟨s0, s1, s2, s3⟩, s4, s5, s6, s7⟩, _⟩ := hSw; go_simp; try with_reducible rfl)
          (try simp only [Act.put, List.getElem_toArray, List.getElem_cons_succ, List.getElem_cons_zero, List.setIfInBounds_toArray, List.set_cons_zero, List.set_cons_succ])
          refine wpAnyH_take (i := 5) (v := ?_) rfl (by kernel_rfl) (by kernel_rfl) (by kernel_rfl) (fun _ _ _ h => h) (Or.inl ⟨by rfl, ?_⟩) hHeld ?_
          rotate_left
          focus (intro wq hSw; obtain ⟨⟨⟨s0, s1, s2, s3⟩, s4, s5, s6, s7⟩, _⟩ := hSw; go_simp; try with_reducible rfl)
          (try simp only [Act.put, List.getElem_toArray, List.getElem_cons_succ, List.getElem_cons_zero, List.setIfInBounds_toArray, List.set_cons_zero, List.set_cons_succ])
          refine wpAnyH_take (i := 6) (v := ?_) rfl (by kernel_rfl) (by kernel_rfl) (by kernel_rfl) (fun _ _ _ h => h) (Or.inl ⟨by rfl, ?_⟩) hHeld ?_
          rotate_left
          focus (intro wq hSw; obtain ⟨⟨⟨s0, s1, s2, s3⟩, s4, s5, s6, s7⟩, _⟩ := hSw; go_simp; try with_reducible rfl)
          (try simp only [Act.put, List.getElem_toArray, List.getElem_cons_succ, List.getElem_cons_zero, List.setIfInBounds_toArray, List.set_cons_zero, List.set_cons_succ])
          refine wpAnyH_ready (rs := [7]) (by kernel_rfl) (by simp) ?_
          refine AllReadyH.cons rfl (fun K hK => ?_) AllReadyH.nil
          go_simp
          refine (cS.out _ SW.2.out).mono ?_; rintro z wq ⟨rfl, bq⟩
          have SW := hst.out _ _ SW bq
          refine hK.out _ _ SW (fun hHeld => ?_)
          clear hK K
          (try simp only [Act.put, List.getElem_toArray, List.getElem_cons_succ, List.getElem_cons_zero, List.setIfInBounds_toArray, List.set_cons_zero, List.set_cons_succ])
          refine wpAnyH_take (i := 8) (v := ?_) rfl (by kernel_rfl) (by kernel_rfl) (by kernel_rfl) (fun _ _ _ h => h) (Or.inl ⟨by rfl, ?_⟩) hHeld ?_
          rotate_left
          focus (intro wq hSw; obtain ⟨⟨⟨s0, s1, s2, s3⟩, s4, s5, s6, s7⟩, _⟩ := hSw; go_simp; try with_reducible rfl)
          (try simp only [Act.put, List.getElem_toArray, List.getElem_cons_succ, List.getElem_cons_zero, List.setIfInBounds_toArray, List.set_cons_zero, List.set_cons_succ])
          refine wpAnyH_take (i := 9) (v := ?_) rfl (by kernel_rfl) (by kernel_rfl) (by kernel_rfl) (fun _ _ _ h => h) (Or.inl ⟨by rfl, ?_⟩) hHeld ?_
          rotate_left
          focus (intro wq hSw; obtain ⟨⟨⟨s0, s1, s2, s3⟩, s4, s5, s6, s7⟩, _⟩ := hSw; go_simp; try with_reducible rfl)
          (try simp only [Act.put, List.getElem_toArray, List.getElem_cons_succ, List.getElem_cons_zero, List.setIfInBounds_toArray, List.set_cons_zero, List.set_cons_succ])
          refine wpAnyH_take (i := 10) (v := ?_) rfl (by kernel_rfl) (by kernel_rfl) (by kernel_rfl) (fun _ _ _ h => h) (Or.inl ⟨by rfl, ?_⟩) hHeld ?_
          rotate_left
          focus (intro wq hSw; obtain ⟨⟨⟨s0, s1, s2, s3⟩, s4, s5, s6, s7⟩, _⟩ := hSw; go_simp; try with_reducible rfl)
          (try simp only [Act.put, List.getElem_toArray, List.getElem_cons_succ, List.getElem_cons_zero, List.setIfInBounds_toArray, List.set_cons_zero, List.set_cons_succ])
          refine wpAnyH_take (i := 11) (v := ?_) rfl (by kernel_rfl) (by kernel_rfl) (by kernel_rfl) (fun _ _ _ h => h) (Or.inl ⟨by rfl, ?_⟩) hHeld ?_
          rotate_left
          focus (intro wq hSw; obtain ⟨⟨⟨s0, s1, s2, s3⟩, s4, s5, s6, s7⟩, _⟩ := hSw; go_simp; try with_reducible rfl)
          (try simp only [Act.put, List.getElem_toArray, List.getElem_cons_succ, List.getElem_cons_zero, List.setIfInBounds_toArray, List.set_cons_zero, List.set_cons_succ])
          refine wpAnyH_take (i := 13) (v := ?_) rfl (by kernel_rfl) (by kernel_rfl) (by kernel_rfl) (fun _ _ _ h => h) (Or.inl ⟨by rfl, ?_⟩) hHeld ?_
          rotate_left
          focus (intro wq hSw; obtain ⟨⟨⟨s0, s1, s2, s3⟩, s4, s5, s6, s7⟩, _⟩ := hSw; go_simp; try with_reducible rfl)
          (try simp only [Act.put, List.getElem_toArray, List.getElem_cons_succ, List.getElem_cons_zero, List.setIfInBounds_toArray, List.set_cons_zero, List.set_cons_succ])
          refine wpAnyH_take (i := 14) (v := ?_) rfl (by kernel_rfl) (by kernel_rfl) (by kernel_rfl) (fun _ _ _ h => h) (Or.inl ⟨by rfl, ?_⟩) hHeld ?_
          rotate_left
          focus (intro wq hSw; obtain ⟨⟨⟨s0, s1, s2, s3⟩, s4, s5, s6, s7⟩, _⟩ := hSw; go_simp; try with_reducible rfl)
          (try simp only [Act.put, List.getElem_toArray, List.getElem_cons_succ, List.getElem_cons_zero, List.setIfInBounds_toArray, List.set_cons_zero, List.set_cons_succ])
          refine wpAnyH_ready (rs := [12]) (by kernel_rfl) (by simp) ?_
          refine AllReadyH.cons rfl (fun K hK => ?_) AllReadyH.nil
          go_simp
          refine (cN.out _ _ _ _ _ _ _ (by first | exact .inl ⟨rfl, rfl, rfl, rfl, rfl, rfl⟩ | exact .inr ⟨rfl, rfl, rfl, rfl, rfl, rfl⟩) SW.2.out).mono ?_; rintro z wq ⟨rfl, bq⟩
          have SW := hst.out _ _ SW bq
          refine hK.out _ _ SW (fun hHeld => ?_)
          clear hK K
          (try simp only [Act.put, List.getElem_toArray, List.getElem_cons_succ, List.getElem_cons_zero, List.setIfInBounds_toArray, List.set_cons_zero, List.set_cons_succ])
          refine wpAnyH_take (i := 15) (v := ?_) rfl (by kernel_rfl) (by kernel_rfl) (by kernel_rfl) (fun _ _ _ h => h) (Or.inl ⟨by rfl, ?_⟩) hHeld ?_
          rotate_left
          focus (intro wq hSw; obtain ⟨⟨⟨s0, s1, s2, s3⟩, s4, s5, s6, s7⟩, _⟩ := hSw; go_simp; try with_reducible rfl)
          (try simp only [Act.put, List.getElem_toArray, List.getElem_cons_succ, List.getElem_cons_zero, List.setIfInBounds_toArray, List.set_cons_zero, List.set_cons_succ])
          refine wpAnyH_take (i := 16) (v := ?_) rfl (by kernel_rfl) (by kernel_rfl) (by kernel_rfl) (fun _ _ _ h => h) (Or.inl ⟨by rfl, ?_⟩) hHeld ?_
          rotate_left
          focus (intro wq hSw; obtain ⟨⟨⟨s0, s1, s2, s3⟩, s4, s5, s6, s7⟩, _⟩ := hSw; go_simp; try with_reducible rfl)
          (try simp only [Act.put, List.getElem_toArray, List.getElem_cons_succ, List.getElem_cons_zero, List.setIfInBounds_toArray, List.set_cons_zero, List.set_cons_succ])
          refine wpAnyH_take (i := 17) (v := ?_) rfl (by kernel_rfl) (by kernel_rfl) (by kernel_rfl) (fun _ _ _ h => h) (Or.inl ⟨by rfl, ?_⟩) hHeld ?_
          rotate_left
          focus (intro wq hSw; obtain ⟨⟨⟨s0, s1, s2, s3⟩, s4, s5, s6, s7⟩, _⟩ := hSw; go_simp; try with_reducible rfl)
          (try simp only [Act.put, List.getElem_toArray, List.getElem_cons_succ, List.getElem_cons_zero, List.setIfInBounds_toArray, List.set_cons_zero, List.set_cons_succ])
          refine wpAnyH_take (i := 18) (v := ?_) rfl (by kernel_rfl) (by kernel_rfl) (by kernel_rfl) (fun _ _ _ h => h) (Or.inl ⟨by rfl, ?_⟩) hHeld ?_
          rotate_left
          focus (intro wq hSw; obtain ⟨⟨⟨s0, s1, s2, s3⟩, s4, s5, s6, s7⟩, _⟩ := hSw; go_simp; try with_reducible rfl)
          (try simp only [Act.put, List.getElem_toArray, List.getElem_cons_succ, List.getElem_cons_zero, List.setIfInBounds_toArray, List.set_cons_zero, List.set_cons_succ])
          refine wpAnyH_take (i := 20) (v := ?_) rfl (by kernel_rfl) (by kernel_rfl) (by kernel_rfl) (fun _ _ _ h => h) (Or.inl ⟨by rfl, ?_⟩) hHeld ?_
          rotate_left
          focus (intro wq hSw; obtain ⟨⟨⟨s0, s1, s2, s3⟩, s4, s5, s6, s7⟩, _⟩ := hSw; go_simp; try with_reducible rfl)
          (try simp only [Act.put, List.getElem_toArray, List.getElem_cons_succ, List.getElem_cons_zero, List.setIfInBounds_toArray, List.set_cons_zero, List.set_cons_succ])
          refine wpAnyH_ready (rs := [19]) (by kernel_rfl) (by simp) ?_
          refine AllReadyH.cons rfl (fun K hK => ?_) AllReadyH.nil
          go_simp
          refine (cI.out _ SW.2.out).mono ?_; rintro z wq ⟨rfl, bq⟩
          have SW := hst.out _ _ SW bq
          refine hK.out _ _ SW (fun hHeld => ?_)
          clear hK K
          (try simp only [Act.put, List.getElem_toArray, List.getElem_cons_succ, List.getElem_cons_zero, List.setIfInBounds_toArray, List.set_cons_zero, List.set_cons_succ])
          refine wpAnyH_ready (rs := [21]) (by kernel_rfl) (by simp) ?_
          refine AllReadyH.cons rfl (fun K hK => ?_) AllReadyH.nil
          go_simp
          refine (cE.out _ SW.2.out).mono ?_; rintro z wq ⟨rfl, bq⟩
          have SW := hst.out _ _ SW bq
          refine hK.out _ _ SW (fun hHeld => ?_)
          clear hK K
          (try simp only [Act.put, List.getElem_toArray, List.getElem_cons_succ, List.getElem_cons_zero, List.setIfInBounds_toArray, List.set_cons_zero, List.set_cons_succ])
          refine wpAnyH_take (i := 22) (v := ?_) rfl (by kernel_rfl) (by kernel_rfl) (by kernel_rfl) (fun _ _ _ h => h) (Or.inl ⟨by rfl, ?_⟩) hHeld ?_
          rotate_left
          focus (intro wq hSw; obtain ⟨⟨⟨s0, s1, s2, s3⟩, s4, s5, s6, s7⟩, _⟩ := hSw; go_simp; try with_reducible rfl)
          (try simp only [Act.put, List.getElem_toArray, List.getElem_cons_succ, List.getElem_cons_zero, List.setIfInBounds_toArray, List.set_cons_zero, List.set_cons_succ])
          refine wpAnyH_take (i := 23) (v := undef) rfl (by kernel_rfl) (by kernel_rfl) (by kernel_rfl) (fun _ _ _ h => h) (Or.inr ⟨by rfl, rfl⟩) hHeld ?_
          (try simp only [Act.put, List.getElem_toArray, List.getElem_cons_succ, List.getElem_cons_zero, List.setIfInBounds_toArray, List.set_cons_zero, List.set_cons_succ])
          refine wpAnyH_take (i := 24) (v := undef) rfl (by kernel_rfl) (by kernel_rfl) (by kernel_rfl) (fun _ _ _ h => h) (Or.inr ⟨by rfl, rfl⟩) hHeld ?_
          (try simp only [Act.put, List.getElem_toArray, List.getElem_cons_succ, List.getElem_cons_zero, List.setIfInBounds_toArray, List.set_cons_zero, List.set_cons_succ])
          refine wpAnyH_take (i := 25) (v := ?_) rfl (by kernel_rfl) (by kernel_rfl) (by kernel_rfl) (fun _ _ _ h => h) (Or.inl ⟨by rfl, ?_⟩) hHeld ?_
          rotate_left
          focus (intro wq hSw; obtain ⟨⟨⟨s0, s1, s2, s3⟩, s4, s5, s6, s7⟩, _⟩ := hSw; go_simp; try with_reducible rfl)
          (try simp only [Act.put, List.getElem_toArray, List.getElem_cons_succ, List.getElem_cons_zero, List.setIfInBounds_toArray, List.set_cons_zero, List.set_cons_succ])
          refine wpAnyH_take (i := 26) (v := ?_) rfl (by kernel_rfl) (by kernel_rfl) (by kernel_rfl) (fun _ _ _ h => h) (Or.inl ⟨by rfl, ?_⟩) hHeld ?_
          rotate_left
          focus (intro wq hSw; obtain ⟨⟨⟨s0, s1, s2, s3⟩, s4, s5, s6, s7⟩, _⟩ := hSw; go_simp; try with_reducible rfl)
          (try simp only [Act.put, List.getElem_toArray, List.getElem_cons_succ, List.getElem_cons_zero, List.setIfInBounds_toArray, List.set_cons_zero, List.set_cons_succ])
          refine wpAnyH_take (i := 27) (v := ?_) rfl (by kernel_rfl) (by kernel_rfl) (by kernel_rfl) (fun _ _ _ h => h) (Or.inl ⟨by rfl, ?_⟩) hHeld ?_
          rotate_left
          focus (intro wq hSw; obtain ⟨⟨⟨s0, s1, s2, s3⟩, s4, s5, s6, s7⟩, _⟩ := hSw; go_simp; try with_reducible rfl)
          (try simp only [Act.put, List.getElem_toArray, List.getElem_cons_succ, List.getElem_cons_zero, List.setIfInBounds_toArray, List.set_cons_zero, List.set_cons_succ])
          refine wpAnyH_take (i := 28) (v := ?_) rfl (by kernel_rfl) (by kernel_rfl) (by kernel_rfl) (fun _ _ _ h => h) (Or.inl ⟨by rfl, ?_⟩) hHeld ?_
          rotate_left
          focus (intro wq hSw; obtain ⟨⟨⟨s0, s1, s2, s3⟩, s4, s5, s6, s7⟩, _⟩ := hSw; go_simp; try with_reducible rfl)
          (try simp only [Act.put, List.getElem_toArray, List.getElem_cons_succ, List.getElem_cons_zero, List.setIfInBounds_toArray, List.set_cons_zero, List.set_cons_succ])
          refine wpAnyH_done (by kernel_rfl) ?_ _
          refine NoPanic.normal ?_
          have B9 := Lib.hid SW.2.out.bel
          clear SW
          go_wp2_with fail
          go_ret
          exact ⟨rfl, B9.out⟩

end Go.Proofs.YtnepfnbmmdcgpaaDoor
