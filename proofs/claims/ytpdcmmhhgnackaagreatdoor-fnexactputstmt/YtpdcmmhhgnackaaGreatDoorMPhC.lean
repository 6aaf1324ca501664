/- The program's phrase of a view. Written by tools/gen_ph.py. -/
import Derived.Test.YtpdcmmhhgnackaaGreatDoorMPhB
namespace Go.Proofs.YtpdcmmhhgnackaaGreatDoor
open Go.RowKit

set_option maxRecDepth 100000 in
set_option maxHeartbeats 4000000 in
theorem phView (kind : Int) (name : ByteArray) (on : ByteArray) (list : List ByteArray) (num : Int) (flag : Bool) (ty : Ty) (cols : List Co) (rules : List Ru) (exprs : List Ex) (a0 : Option Addr) (a1 : Option Addr) (a2 : Option Addr) (a3 : Option Addr) (c0 : Nat) (c1 : Nat) (c2 : Nat) (c3 : Nat) (w : World)  (L : List ByteArray) (nL : L.length ≤ 1000) (HCL : Hid (∀ W, Below w.heap.size w W → Calls Tryz.prog 45 #[.slice a0 list.length c0, .func (.func 30) #[] #[]] W fun e w' => ∃ a c, e = .returned (.slice a L.length c) ∧ Strs w' a c L ∧ Below W.heap.size W w')) (hLl : lets L + L.length * 2 ≤ 1073741824) (J : ByteArray) (zJ : J.size ≤ 4000000000) (HJ : Hid (joinT L (txt [44, 32]) = J)) (P : List ByteArray) (hp : 0 < P.length) (hn : P.length ≤ 900) (HCS : Hid (∀ W, Calls Tryz.prog 94 #[.agg #[.int .i64 kind, .string name, .string on, .slice a0 list.length c0, .int .i64 num, .bool flag, .int .i64 ty.kind, .int .i64 ty.len, .string ty.name, .slice a1 cols.length c1, .slice a2 rules.length c2, .slice a3 exprs.length c3]] W fun e w' => ∃ a c, e = .returned (.slice a P.length c) ∧ Strs w' a c P ∧ Below W.heap.size W w')) (M : ByteArray) (zM : M.size ≤ 4000000000) (HCM : Hid (∀ W, Below w.heap.size w W → Calls Tryz.prog 30 #[.string on] W fun e w' => e = .returned (.string M) ∧ Below W.heap.size W w')) (Q : List ByteArray) (hQ : P ++ [(ByteArray.mk #[97, 115, 32, 115, 101, 108, 101, 99, 116]), J, (ByteArray.mk #[102, 114, 111, 109]), M] = Q) (hTb : Hid (∀ W, Below w.heap.size w W → Tabs W)) (hkx : Hid (∀ W, Below w.heap.size w W → Ks 0 W a3 c3 exprs)) (hwx : Hid (∀ e ∈ exprs, e.wt ≤ 1048576)) (hzx : Hid (∀ e ∈ exprs, (putT e).size ≤ 8400)) (ys : List ByteArray) (hys : Hid (ys = dfL (Q) (ByteArray.mk #[119, 104, 101, 114, 101]) exprs))  :
    Calls Tryz.prog 105 #[.agg #[.int .i64 kind, .string name, .string on, .slice a0 list.length c0, .int .i64 num, .bool flag, .int .i64 ty.kind, .int .i64 ty.len, .string ty.name, .slice a1 cols.length c1, .slice a2 rules.length c2, .slice a3 exprs.length c3]] w fun e w' => ∃ a c, e = .returned (.slice a (ys).length c) ∧ Strs w' a c (ys) ∧ Below w.heap.size w w' := by
  have HB := Lib.hid (boxV_new w [.int .i64 kind, .string name, .string on, .slice a0 list.length c0, .int .i64 num, .bool flag, .int .i64 ty.kind, .int .i64 ty.len, .string ty.name, .slice a1 cols.length c1, .slice a2 rules.length c2, .slice a3 exprs.length c3] 55)
  have y0 : (ByteArray.mk #[102, 114, 111, 109]).size = 4 := rfl
  have y1 : (ByteArray.mk #[119, 104, 101, 114, 101]).size = 5 := rfl
  have y2 : (ByteArray.mk #[97, 115, 32, 115, 101, 108, 101, 99, 116]).size = 9 := rfl
  have HQ := Lib.hid hQ
  have hq0 : Hid (0 < Q.length) := by unfold Hid; rw [← hQ]; simp
  have hqn : Hid (Q.length ≤ 1000) := by unfold Hid; rw [← hQ]; simp; omega
  clear hQ
  go_enter Tryz.func105, Tryz.ntmps105
  go_wp2_with fail
  generalize w.alloc (.cells #[.int .i64 kind, .string name, .string on, .slice a0 list.length c0, .int .i64 num, .bool flag, .int .i64 ty.kind, .int .i64 ty.len, .string ty.name, .slice a1 cols.length c1, .slice a2 rules.length c2, .slice a3 exprs.length c3] 55) = W0 at HB ⊢
  have g0 : W0.cell? ⟨w.heap.size, 0, none⟩ = some (.int .i64 kind) := (HB.out.1.2 0 (by simp)).1
  have g1 : W0.cell? ⟨w.heap.size, 1, none⟩ = some (.string name) := (HB.out.1.2 1 (by simp)).1
  have g2 : W0.cell? ⟨w.heap.size, 2, none⟩ = some (.string on) := (HB.out.1.2 2 (by simp)).1
  have g3 : W0.cell? ⟨w.heap.size, 3, none⟩ = some (.slice a0 list.length c0) := (HB.out.1.2 3 (by simp)).1
  have g4 : W0.cell? ⟨w.heap.size, 4, none⟩ = some (.int .i64 num) := (HB.out.1.2 4 (by simp)).1
  have g5 : W0.cell? ⟨w.heap.size, 5, none⟩ = some (.bool flag) := (HB.out.1.2 5 (by simp)).1
  have g6 : W0.cell? ⟨w.heap.size, 6, none⟩ = some (.int .i64 ty.kind) := (HB.out.1.2 6 (by simp)).1
  have g7 : W0.cell? ⟨w.heap.size, 7, none⟩ = some (.int .i64 ty.len) := (HB.out.1.2 7 (by simp)).1
  have g8 : W0.cell? ⟨w.heap.size, 8, none⟩ = some (.string ty.name) := (HB.out.1.2 8 (by simp)).1
  have g9 : W0.cell? ⟨w.heap.size, 9, none⟩ = some (.slice a1 cols.length c1) := (HB.out.1.2 9 (by simp)).1
  have g10 : W0.cell? ⟨w.heap.size, 10, none⟩ = some (.slice a2 rules.length c2) := (HB.out.1.2 10 (by simp)).1
  have g11 : W0.cell? ⟨w.heap.size, 11, none⟩ = some (.slice a3 exprs.length c3) := (HB.out.1.2 11 (by simp)).1
  refine (HCL.out _ HB.out.2).mono ?_
  rintro e wL ⟨xL, yL, rfl, hxL, bL⟩
  have X1 := Lib.hid (HB.out.call bL)
  have HSL := Lib.hid hxL
  clear hxL bL g0 g1 g2 g3 g4 g5 g6 g7 g8 g9 g10 g11
  go_wp2_with fail
  refine (implJoin xL yL L (txt [44, 32]) _ HSL.out (by have : (txt [44, 32]).size = 2 := rfl; rw [this]; omega) (by omega)).mono ?_
  rintro e wJ ⟨rfl, bJ⟩
  rw [HJ.out]
  have B1 := Lib.hid (X1.out.call bJ)
  clear bJ
  have g0 : wJ.cell? ⟨w.heap.size, 0, none⟩ = some (.int .i64 kind) := (B1.out.1.2 0 (by simp)).1
  have g1 : wJ.cell? ⟨w.heap.size, 1, none⟩ = some (.string name) := (B1.out.1.2 1 (by simp)).1
  have g2 : wJ.cell? ⟨w.heap.size, 2, none⟩ = some (.string on) := (B1.out.1.2 2 (by simp)).1
  have g3 : wJ.cell? ⟨w.heap.size, 3, none⟩ = some (.slice a0 list.length c0) := (B1.out.1.2 3 (by simp)).1
  have g4 : wJ.cell? ⟨w.heap.size, 4, none⟩ = some (.int .i64 num) := (B1.out.1.2 4 (by simp)).1
  have g5 : wJ.cell? ⟨w.heap.size, 5, none⟩ = some (.bool flag) := (B1.out.1.2 5 (by simp)).1
  have g6 : wJ.cell? ⟨w.heap.size, 6, none⟩ = some (.int .i64 ty.kind) := (B1.out.1.2 6 (by simp)).1
  have g7 : wJ.cell? ⟨w.heap.size, 7, none⟩ = some (.int .i64 ty.len) := (B1.out.1.2 7 (by simp)).1
  have g8 : wJ.cell? ⟨w.heap.size, 8, none⟩ = some (.string ty.name) := (B1.out.1.2 8 (by simp)).1
  have g9 : wJ.cell? ⟨w.heap.size, 9, none⟩ = some (.slice a1 cols.length c1) := (B1.out.1.2 9 (by simp)).1
  have g10 : wJ.cell? ⟨w.heap.size, 10, none⟩ = some (.slice a2 rules.length c2) := (B1.out.1.2 10 (by simp)).1
  have g11 : wJ.cell? ⟨w.heap.size, 11, none⟩ = some (.slice a3 exprs.length c3) := (B1.out.1.2 11 (by simp)).1
  go_wp2_with fail
  have hst : Hid (∀ p q : World, ((p.cell? ⟨w.heap.size, 0, none⟩ = some (.int .i64 kind) ∧ p.cell? ⟨w.heap.size, 1, none⟩ = some (.string name) ∧ p.cell? ⟨w.heap.size, 2, none⟩ = some (.string on) ∧ p.cell? ⟨w.heap.size, 3, none⟩ = some (.slice a0 list.length c0) ∧ p.cell? ⟨w.heap.size, 4, none⟩ = some (.int .i64 num) ∧ p.cell? ⟨w.heap.size, 5, none⟩ = some (.bool flag) ∧ p.cell? ⟨w.heap.size, 6, none⟩ = some (.int .i64 ty.kind) ∧ p.cell? ⟨w.heap.size, 7, none⟩ = some (.int .i64 ty.len) ∧ p.cell? ⟨w.heap.size, 8, none⟩ = some (.string ty.name) ∧ p.cell? ⟨w.heap.size, 9, none⟩ = some (.slice a1 cols.length c1) ∧ p.cell? ⟨w.heap.size, 10, none⟩ = some (.slice a2 rules.length c2) ∧ p.cell? ⟨w.heap.size, 11, none⟩ = some (.slice a3 exprs.length c3)) ∧ Hid (BoxV w [.int .i64 kind, .string name, .string on, .slice a0 list.length c0, .int .i64 num, .bool flag, .int .i64 ty.kind, .int .i64 ty.len, .string ty.name, .slice a1 cols.length c1, .slice a2 rules.length c2, .slice a3 exprs.length c3] p)) → Below p.heap.size p q → ((q.cell? ⟨w.heap.size, 0, none⟩ = some (.int .i64 kind) ∧ q.cell? ⟨w.heap.size, 1, none⟩ = some (.string name) ∧ q.cell? ⟨w.heap.size, 2, none⟩ = some (.string on) ∧ q.cell? ⟨w.heap.size, 3, none⟩ = some (.slice a0 list.length c0) ∧ q.cell? ⟨w.heap.size, 4, none⟩ = some (.int .i64 num) ∧ q.cell? ⟨w.heap.size, 5, none⟩ = some (.bool flag) ∧ q.cell? ⟨w.heap.size, 6, none⟩ = some (.int .i64 ty.kind) ∧ q.cell? ⟨w.heap.size, 7, none⟩ = some (.int .i64 ty.len) ∧ q.cell? ⟨w.heap.size, 8, none⟩ = some (.string ty.name) ∧ q.cell? ⟨w.heap.size, 9, none⟩ = some (.slice a1 cols.length c1) ∧ q.cell? ⟨w.heap.size, 10, none⟩ = some (.slice a2 rules.length c2) ∧ q.cell? ⟨w.heap.size, 11, none⟩ = some (.slice a3 exprs.length c3)) ∧ Hid (BoxV w [.int .i64 kind, .string name, .string on, .slice a0 list.length c0, .int .i64 num, .bool flag, .int .i64 ty.kind, .int .i64 ty.len, .string ty.name, .slice a1 cols.length c1, .slice a2 rules.length c2, .slice a3 exprs.length c3] q))) := fun p q h hb => by
    have T := h.2.out.call hb
    exact ⟨⟨(T.1.2 0 (by simp)).1, (T.1.2 1 (by simp)).1, (T.1.2 2 (by simp)).1, (T.1.2 3 (by simp)).1, (T.1.2 4 (by simp)).1, (T.1.2 5 (by simp)).1, (T.1.2 6 (by simp)).1, (T.1.2 7 (by simp)).1, (T.1.2 8 (by simp)).1, (T.1.2 9 (by simp)).1, (T.1.2 10 (by simp)).1, (T.1.2 11 (by simp)).1⟩, T⟩
  have D0 := Lib.hid ((B1.out).call (below_drewE (Below.refl _ _)))
  have D1 := Lib.hid (B1.out)
  go_region_held3 (fun w' => (w'.cell? ⟨w.heap.size, 0, none⟩ = some (.int .i64 kind) ∧ w'.cell? ⟨w.heap.size, 1, none⟩ = some (.string name) ∧ w'.cell? ⟨w.heap.size, 2, none⟩ = some (.string on) ∧ w'.cell? ⟨w.heap.size, 3, none⟩ = some (.slice a0 list.length c0) ∧ w'.cell? ⟨w.heap.size, 4, none⟩ = some (.int .i64 num) ∧ w'.cell? ⟨w.heap.size, 5, none⟩ = some (.bool flag) ∧ w'.cell? ⟨w.heap.size, 6, none⟩ = some (.int .i64 ty.kind) ∧ w'.cell? ⟨w.heap.size, 7, none⟩ = some (.int .i64 ty.len) ∧ w'.cell? ⟨w.heap.size, 8, none⟩ = some (.string ty.name) ∧ w'.cell? ⟨w.heap.size, 9, none⟩ = some (.slice a1 cols.length c1) ∧ w'.cell? ⟨w.heap.size, 10, none⟩ = some (.slice a2 rules.length c2) ∧ w'.cell? ⟨w.heap.size, 11, none⟩ = some (.slice a3 exprs.length c3)) ∧ Hid (BoxV w [.int .i64 kind, .string name, .string on, .slice a0 list.length c0, .int .i64 num, .bool flag, .int .i64 ty.kind, .int .i64 ty.len, .string ty.name, .slice a1 cols.length c1, .slice a2 rules.length c2, .slice a3 exprs.length c3] w')) (first | assumption | exact ⟨⟨(D0.out.1.2 0 (by simp)).1, (D0.out.1.2 1 (by simp)).1, (D0.out.1.2 2 (by simp)).1, (D0.out.1.2 3 (by simp)).1, (D0.out.1.2 4 (by simp)).1, (D0.out.1.2 5 (by simp)).1, (D0.out.1.2 6 (by simp)).1, (D0.out.1.2 7 (by simp)).1, (D0.out.1.2 8 (by simp)).1, (D0.out.1.2 9 (by simp)).1, (D0.out.1.2 10 (by simp)).1, (D0.out.1.2 11 (by simp)).1⟩, D0.out⟩ | exact ⟨⟨(D1.out.1.2 0 (by simp)).1, (D1.out.1.2 1 (by simp)).1, (D1.out.1.2 2 (by simp)).1, (D1.out.1.2 3 (by simp)).1, (D1.out.1.2 4 (by simp)).1, (D1.out.1.2 5 (by simp)).1, (D1.out.1.2 6 (by simp)).1, (D1.out.1.2 7 (by simp)).1, (D1.out.1.2 8 (by simp)).1, (D1.out.1.2 9 (by simp)).1, (D1.out.1.2 10 (by simp)).1, (D1.out.1.2 11 (by simp)).1⟩, D1.out⟩ | exact hst.out _ _ (by assumption) ((Below.refl _ _).alloc (Nat.le_refl _) _))
    (first
      | (go_at_call 33; refine (phraseMaybe xQ yQ (Q) (ByteArray.mk #[119, 104, 101, 114, 101]) a3 c3 exprs _ HSQ3.out hq0.out hqn.out (hTb.out _ h3.2.out.2) (hkx.out _ h3.2.out.2) hwx.out (by decide) hzx.out ys hys.out).mono ?_; rintro e wd ⟨xY, yY, rfl, hxY, bd⟩; have h4 := hst.out _ _ h3 bd; have HSY4 := Lib.hid hxY)
      | (go_at_call 32; have hrow := rowLit1 wb [(ByteArray.mk #[97, 115, 32, 115, 101, 108, 101, 99, 116]), J, (ByteArray.mk #[102, 114, 111, 109]), M] (by intro t ht; simp only [List.mem_cons, List.not_mem_nil, or_false] at ht; unfold maxLen; rcases ht with rfl | rfl | rfl | rfl <;> omega) (by simp); refine (phraseAndR pa pc P _ 4 [(ByteArray.mk #[97, 115, 32, 115, 101, 108, 101, 99, 116]), J, (ByteArray.mk #[102, 114, 111, 109]), M] _ (HSP2.out.below ((Below.refl _ _).alloc (Nat.le_refl _) _)) hrow (HSP2.out.addr hp) (by simp; omega) Q HQ.out).mono ?_; rintro e wc ⟨xQ, yQ, rfl, hxQ, bc⟩; have h3 := hst.out _ _ (hst.out _ _ h2 ((Below.refl _ _).alloc (Nat.le_refl _) _)) bc; have HSQ3 := Lib.hid hxQ)
      | (go_at_call 30; refine (HCM.out _ h1.2.out.2).mono ?_; rintro e wb ⟨rfl, bb⟩; have h2 := hst.out _ _ h1 bb; have HSP2 := Lib.hid (HSP1.out.below bb))
      | (go_at_call 94; refine (HCS.out _).mono ?_; rintro e wa ⟨pa, pc, rfl, hpa, ba⟩; have h1 := hst.out _ _ (by assumption) ba; have HSP1 := Lib.hid hpa))
  go_wp2_with fail
  go_ret
  exact ⟨_, _, rfl, HSY4.out, h4.2.out.2⟩

end Go.Proofs.YtpdcmmhhgnackaaGreatDoor
