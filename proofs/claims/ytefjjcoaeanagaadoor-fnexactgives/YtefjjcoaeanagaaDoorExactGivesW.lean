/- The walk of FnExactGives. -/
import Derived.Test.YtefjjcoaeanagaaDoorTie
import Derived.Test.YtefjjcoaeanagaaDoorMGivI
import Derived.Test.YtefjjcoaeanagaaDoorMOpen
import Derived.Test.YtefjjcoaeanagaaDoorMPlSzA
import Derived.ProofKit
import Derived.OpenShut
import Derived.ShutString
import Derived.ChangeOld
import Derived.Below
import Derived.LaidMore
import Derived.Lay
import Derived.Lib.LaidTab
import Derived.Stop.LaidErr
import Derived.SevenTiedAt
import Derived.Stop.Joined
import Derived.OpenVars
namespace Go.Proofs.YtefjjcoaeanagaaDoor
open Go.ChangeShapes Go.WideShapes Go.ChangeAt Go.RowKit

/-- The two boxes of the arguments. -/
def PP (w : World) (ev tv : List Value) (w' : World) : Prop := Below w.heap.size w w' ∧ Blk w' w.heap.size ev ∧ Blk w' (w.heap.size + 1) tv

theorem PP.below {w wa wb : World} {ev tv : List Value} (h : PP w ev tv wa) (hb : Below wa.heap.size wa wb) : PP w ev tv wb := ⟨Below.call hb h.1, h.2.1.below hb, h.2.2.below hb⟩

theorem PP.drew {w wa : World} {ev tv : List Value} (h : PP w ev tv wa) : PP w ev tv wa.drew := h.below (drewB (Below.refl _ _))

/-- The arguments' boxes, the box of a copy, and what the copies hold. -/
def QQ (w : World) (ev tv : List Value) (b : Nat) (xv : List Value) (d : Nat) (p : Option Addr) (q : Nat) (kids : List Ex) (p' : Option Addr) (q' : Nat) (xs : List Lab) (w' : World) : Prop :=
  PP w ev tv w' ∧ Blk w' b xv ∧ KidsAt w' d p q kids ∧ Sl 2 RLab 0 w' p' q' xs

theorem QQ.below {w wa wb : World} {ev tv : List Value} {b : Nat} {xv : List Value} {d : Nat} {p : Option Addr} {q : Nat} {kids : List Ex} {p' : Option Addr} {q' : Nat} {xs : List Lab} (h : QQ w ev tv b xv d p q kids p' q' xs wa) (hb : Below wa.heap.size wa wb) : QQ w ev tv b xv d p q kids p' q' xs wb :=
  ⟨h.1.below hb, h.2.1.below hb, h.2.2.1.below hb, h.2.2.2.kept goodLab (Kept.below hb)⟩

theorem QQ.drew {w wa : World} {ev tv : List Value} {b : Nat} {xv : List Value} {d : Nat} {p : Option Addr} {q : Nat} {kids : List Ex} {p' : Option Addr} {q' : Nat} {xs : List Lab} (h : QQ w ev tv b xv d p q kids p' q' xs wa) : QQ w ev tv b xv d p q kids p' q' xs wa.drew := h.below (drewB (Below.refl _ _))

set_option maxRecDepth 100000 in
set_option maxHeartbeats 20000000 in
theorem walkFnExactGives (e : Ex) (a : Option Addr) (c d : Nat) (t : Ty) (la : Option Addr) (lc : Nat) (xs : List Lab) (w : World) (he : e.fit ∧ KidsAt w d a c e.kids) (ht : t.ok) (hx : Sl 2 RLab 0 w la lc xs) (hL : laidMetH Tryd.prog Rows.fnExactGivesRow.laid w) :
    Calls Tryd.prog 5 #[e.v a c, t.v, .slice la xs.length lc] w fun x w' => x = .returned (.bool true) ∧ Below w.heap.size w w' := by
  obtain ⟨hfit, hk⟩ := he
  unfold Ex.v Ty.v
  have HK := Lib.hid (fun w' hb => hk.below (w' := w') hb)
  have HX := Lib.hid (fun w' (hb : Below w.heap.size w w') => hx.kept goodLab (Kept.below hb))
  have hF := formsAt_of (show laidMet Tryd.prog _ w from hL)
  have HF := Lib.hid (fun w' hb => hF.below (w' := w') (B := w.heap.size) hb hF.1)
  have hxl := hx.len
  have hB0 : Hid (∀ o1 o2, Below w.heap.size w ((w.alloc o1).alloc o2)) := fun o1 o2 => ((Below.refl _ _).alloc (Nat.le_refl _) _).alloc (by simp) _
  clear hk hL hF hx
  go_enter Tryd.func5, Tryd.ntmps5
  go_wp2_with fail
  refine (szEx d e a c 1048576 _ hfit (HK.out _ (hB0.out _ _)) (by omega) (by omega)).mono ?_
  by_cases h1 : (1048576 : Int) < e.wt
  · rw [show leftN e.wt 1048576 = -1 from if_pos h1]
    rintro x w1 ⟨rfl, b1⟩
    have B1 := Lib.hid (Below.call b1 (hB0.out _ _))
    clear b1
    go_wp2_with fail
    go_ret
    exact ⟨rfl, B1.out⟩
  rw [show leftN e.wt 1048576 = 1048576 - e.wt from if_neg h1]
  have hwt : e.wt ≤ 1048576 := by omega
  have hd1 : decide ((1048576 : Int) - e.wt < 0) = false := by simp; omega
  rintro x w1 ⟨rfl, b1⟩
  have B1 := Lib.hid (Below.call b1 (hB0.out _ _))
  have E1 := Lib.hid (Blk.call b1 ((blk_new w _ [.int .i64 e.kind, .string e.text, .int .i64 e.num, .slice a e.kids.length c]).alloc _))
  have T1 := Lib.hid (Blk.call b1 (blk_new' (w := w.alloc _) (b := w.heap.size + 1) (by simp) _ [.int .i64 t.kind, .int .i64 t.len, .string t.name]))
  have t0 : w1.cell? ⟨w.heap.size + 1, 0, none⟩ = some (.int .i64 t.kind) := (T1.out.2 0 (by simp)).1
  have t1 : w1.cell? ⟨w.heap.size + 1, 1, none⟩ = some (.int .i64 t.len) := (T1.out.2 1 (by simp)).1
  have t2 : w1.cell? ⟨w.heap.size + 1, 2, none⟩ = some (.string t.name) := (T1.out.2 2 (by simp)).1
  clear b1
  go_wp2_with fail
  refine (szTy0 t.kind t.len t.name (1048576 - e.wt) _ ht.1 (by omega) (by omega)).mono ?_
  by_cases h2 : (1048576 : Int) - e.wt < t.name.size
  · rw [show leftN t.name.size (1048576 - e.wt) = -1 from if_pos h2]
    rintro x w2 ⟨rfl, b2⟩
    have B2 := Lib.hid (Below.call b2 B1.out)
    clear b2
    go_wp2_with fail
    go_ret
    exact ⟨rfl, B2.out⟩
  rw [show leftN t.name.size (1048576 - e.wt) = 1048576 - e.wt - t.name.size from if_neg h2]
  have hd2 : decide ((1048576 : Int) - e.wt - t.name.size < 0) = false := by simp; omega
  rintro x w2 ⟨rfl, b2⟩
  have B2 := Lib.hid (Below.call b2 B1.out)
  have E2 := Lib.hid (Blk.call b2 E1.out)
  have T2 := Lib.hid (Blk.call b2 T1.out)
  clear b2 t0 t1 t2
  go_wp2_with fail
  refine (szLabS la lc xs (1048576 - e.wt - t.name.size) _ (HX.out _ B2.out) (by omega) (by omega)).mono ?_
  by_cases h3 : (1048576 : Int) - e.wt - t.name.size < ((xs.length + wtS Lab.wt xs : Nat) : Int)
  · rw [show leftN (xs.length + wtS Lab.wt xs) (1048576 - e.wt - t.name.size) = -1 from if_pos h3]
    rintro x w3 ⟨rfl, b3⟩
    have B3 := Lib.hid (Below.call b3 B2.out)
    clear b3
    go_wp2_with fail
    go_ret
    exact ⟨rfl, B3.out⟩
  rw [show leftN (xs.length + wtS Lab.wt xs) (1048576 - e.wt - t.name.size) = 1048576 - e.wt - t.name.size - ((xs.length + wtS Lab.wt xs : Nat) : Int) from if_neg h3]
  have hd3 : decide ((1048576 : Int) - e.wt - t.name.size - ((xs.length + wtS Lab.wt xs : Nat) : Int) < 0) = false := by simp; omega
  have hlw : xs.length + wtS Lab.wt xs ≤ 1048576 := by omega
  rintro x w3 ⟨rfl, b3⟩
  have B3 := Lib.hid (Below.call b3 B2.out)
  have E3 := Lib.hid (Blk.call b3 E2.out)
  have T3 := Lib.hid (Blk.call b3 T2.out)
  clear b3
  go_wp2_with fail
  have P3 : Hid (PP w [.int .i64 e.kind, .string e.text, .int .i64 e.num, .slice a e.kids.length c] [.int .i64 t.kind, .int .i64 t.len, .string t.name] w3) := ⟨B3.out, E3.out, T3.out⟩
  have hst : Hid (∀ p q : World, ((p.cell? ⟨w.heap.size, 0, none⟩ = some (.int .i64 e.kind) ∧ p.cell? ⟨w.heap.size, 1, none⟩ = some (.string e.text) ∧ p.cell? ⟨w.heap.size, 2, none⟩ = some (.int .i64 e.num) ∧ p.cell? ⟨w.heap.size, 3, none⟩ = some (.slice a e.kids.length c) ∧ p.cell? ⟨w.heap.size + 1, 0, none⟩ = some (.int .i64 t.kind) ∧ p.cell? ⟨w.heap.size + 1, 1, none⟩ = some (.int .i64 t.len) ∧ p.cell? ⟨w.heap.size + 1, 2, none⟩ = some (.string t.name)) ∧ Hid (PP w [.int .i64 e.kind, .string e.text, .int .i64 e.num, .slice a e.kids.length c] [.int .i64 t.kind, .int .i64 t.len, .string t.name] p)) → Below p.heap.size p q → ((q.cell? ⟨w.heap.size, 0, none⟩ = some (.int .i64 e.kind) ∧ q.cell? ⟨w.heap.size, 1, none⟩ = some (.string e.text) ∧ q.cell? ⟨w.heap.size, 2, none⟩ = some (.int .i64 e.num) ∧ q.cell? ⟨w.heap.size, 3, none⟩ = some (.slice a e.kids.length c) ∧ q.cell? ⟨w.heap.size + 1, 0, none⟩ = some (.int .i64 t.kind) ∧ q.cell? ⟨w.heap.size + 1, 1, none⟩ = some (.int .i64 t.len) ∧ q.cell? ⟨w.heap.size + 1, 2, none⟩ = some (.string t.name)) ∧ Hid (PP w [.int .i64 e.kind, .string e.text, .int .i64 e.num, .slice a e.kids.length c] [.int .i64 t.kind, .int .i64 t.len, .string t.name] q))) := fun p q h hb => by
    have T := h.2.out.below hb
    exact ⟨⟨(T.2.1.2 0 (by simp)).1, (T.2.1.2 1 (by simp)).1, (T.2.1.2 2 (by simp)).1, (T.2.1.2 3 (by simp)).1, (T.2.2.2 0 (by simp)).1, (T.2.2.2 1 (by simp)).1, (T.2.2.2 2 (by simp)).1⟩, T⟩
  clear B3 E3 T3 E2 T2 E1 T1 B1 B2
  go_region_held3 (fun w' => (w'.cell? ⟨w.heap.size, 0, none⟩ = some (.int .i64 e.kind) ∧ w'.cell? ⟨w.heap.size, 1, none⟩ = some (.string e.text) ∧ w'.cell? ⟨w.heap.size, 2, none⟩ = some (.int .i64 e.num) ∧ w'.cell? ⟨w.heap.size, 3, none⟩ = some (.slice a e.kids.length c) ∧ w'.cell? ⟨w.heap.size + 1, 0, none⟩ = some (.int .i64 t.kind) ∧ w'.cell? ⟨w.heap.size + 1, 1, none⟩ = some (.int .i64 t.len) ∧ w'.cell? ⟨w.heap.size + 1, 2, none⟩ = some (.string t.name)) ∧ Hid (PP w [.int .i64 e.kind, .string e.text, .int .i64 e.num, .slice a e.kids.length c] [.int .i64 t.kind, .int .i64 t.len, .string t.name] w')) (first | assumption | exact ⟨⟨((P3.out.drew).2.1.2 0 (by simp)).1, ((P3.out.drew).2.1.2 1 (by simp)).1, ((P3.out.drew).2.1.2 2 (by simp)).1, ((P3.out.drew).2.1.2 3 (by simp)).1, ((P3.out.drew).2.2.2 0 (by simp)).1, ((P3.out.drew).2.2.2 1 (by simp)).1, ((P3.out.drew).2.2.2 2 (by simp)).1⟩, (P3.out.drew)⟩)
    (first
      | (go_at_call 18; refine (toEx d e a c _ hfit hwt (HK.out _ (And.right (by assumption : _ ∧ Hid (PP w [.int .i64 e.kind, .string e.text, .int .i64 e.num, .slice a e.kids.length c] [.int .i64 t.kind, .int .i64 t.len, .string t.name] _))).out.1)).mono ?_; rintro x wq ⟨p1, q1, rfl, k1, bq⟩; have hq := hst.out _ _ (by assumption) bq; have HK1 := Lib.hid (fun w' hb => k1.at.below (w' := w') hb); clear k1 bq)
      | (go_at_call 19; refine (toTy t.kind t.len t.name _).mono ?_; rintro x wv ⟨rfl, bv⟩; have hv := hst.out _ _ (by assumption) bv)
      | (go_at_call 20; refine (toLabS la lc xs _ (HX.out _ (And.right (by assumption : _ ∧ Hid (PP w [.int .i64 e.kind, .string e.text, .int .i64 e.num, .slice a e.kids.length c] [.int .i64 t.kind, .int .i64 t.len, .string t.name] _))).out.1) hlw).mono ?_; rintro x ws ⟨p2, q2, rfl, s2, bs⟩; have hs := hst.out _ _ (by assumption) bs; have HS2 := Lib.hid (Sl.lbs (s2.lower goodLab (Nat.zero_le _))); clear s2)
      | (go_at_call 14; obtain ⟨ls1, hc1, hL1⟩ := HS2.out; have hl1 : ls1.length = xs.length := (by rw [← hc1]; simp); have hG := specGives e p1 q1 d t p2 q2 ls1 _ hfit (HK1.out _ (Below.call bs bv)) hwt hL1; rw [hl1] at hG; refine hG.mono ?_; rintro x w4 ⟨rfl, b4⟩; have h4 := hst.out _ _ hs b4))
  have P4 := Lib.hid h4.2.out
  have HC1 := Lib.hid hc1
  have e0 : w4.cell? ⟨w.heap.size, 0, none⟩ = some (.int .i64 e.kind) := (P4.out.2.1.2 0 (by simp)).1
  have e1 : w4.cell? ⟨w.heap.size, 1, none⟩ = some (.string e.text) := (P4.out.2.1.2 1 (by simp)).1
  have e2 : w4.cell? ⟨w.heap.size, 2, none⟩ = some (.int .i64 e.num) := (P4.out.2.1.2 2 (by simp)).1
  have e3 : w4.cell? ⟨w.heap.size, 3, none⟩ = some (.slice a e.kids.length c) := (P4.out.2.1.2 3 (by simp)).1
  have t0 : w4.cell? ⟨w.heap.size + 1, 0, none⟩ = some (.int .i64 t.kind) := (P4.out.2.2.2 0 (by simp)).1
  have t1 : w4.cell? ⟨w.heap.size + 1, 1, none⟩ = some (.int .i64 t.len) := (P4.out.2.2.2 1 (by simp)).1
  have t2 : w4.cell? ⟨w.heap.size + 1, 2, none⟩ = some (.string t.name) := (P4.out.2.2.2 2 (by simp)).1
  clear h4 hs hv hq b4 bs bv hG hL1 hc1
  go_wp2_with fail
  refine (toEx d e a c _ hfit hwt (HK.out _ P4.out.1)).mono ?_
  rintro x w5 ⟨p5, q5, rfl, k5, b5⟩
  have P5 := Lib.hid (P4.out.below b5)
  have HK5 := Lib.hid (fun w' hb => k5.at.below (w' := w') hb)
  have hB5 : Hid (∀ o, Below w5.heap.size w5 (w5.alloc o)) := fun o => (Below.refl _ _).alloc (Nat.le_refl _) o
  clear b5 k5 e0 e1 e2 e3 t0 t1 t2
  go_wp2_with fail
  refine (toLabS la lc xs _ (HX.out _ (Below.call (hB5.out _) P5.out.1)) hlw).mono ?_
  rintro x w6 ⟨p6, q6, rfl, s6, b6⟩
  have Q6 : Hid (QQ w [.int .i64 e.kind, .string e.text, .int .i64 e.num, .slice a e.kids.length c] [.int .i64 t.kind, .int .i64 t.len, .string t.name] w5.heap.size [.int .i64 e.kind, .string e.text, .int .i64 e.num, .slice p5 e.kids.length q5] d p5 q5 e.kids p6 q6 xs w6) := ⟨(P5.out.below (hB5.out _)).below b6, Blk.call b6 (blk_new w5 _ [.int .i64 e.kind, .string e.text, .int .i64 e.num, .slice p5 e.kids.length q5]), HK5.out _ (Below.call b6 (hB5.out _)), s6.lower goodLab (Nat.zero_le _)⟩
  clear s6 b6
  have w6_e0 : w6.cell? ⟨w.heap.size, 0, none⟩ = some (.int .i64 e.kind) := (Q6.out.1.2.1.2 0 (by simp)).1
  have w6_e1 : w6.cell? ⟨w.heap.size, 1, none⟩ = some (.string e.text) := (Q6.out.1.2.1.2 1 (by simp)).1
  have w6_e2 : w6.cell? ⟨w.heap.size, 2, none⟩ = some (.int .i64 e.num) := (Q6.out.1.2.1.2 2 (by simp)).1
  have w6_e3 : w6.cell? ⟨w.heap.size, 3, none⟩ = some (.slice a e.kids.length c) := (Q6.out.1.2.1.2 3 (by simp)).1
  have w6_t0 : w6.cell? ⟨w.heap.size + 1, 0, none⟩ = some (.int .i64 t.kind) := (Q6.out.1.2.2.2 0 (by simp)).1
  have w6_t1 : w6.cell? ⟨w.heap.size + 1, 1, none⟩ = some (.int .i64 t.len) := (Q6.out.1.2.2.2 1 (by simp)).1
  have w6_t2 : w6.cell? ⟨w.heap.size + 1, 2, none⟩ = some (.string t.name) := (Q6.out.1.2.2.2 2 (by simp)).1
  have w6_x0 : w6.cell? ⟨w5.heap.size, 0, none⟩ = some (.int .i64 e.kind) := (Q6.out.2.1.2 0 (by simp)).1
  have w6_x1 : w6.cell? ⟨w5.heap.size, 1, none⟩ = some (.string e.text) := (Q6.out.2.1.2 1 (by simp)).1
  have w6_x2 : w6.cell? ⟨w5.heap.size, 2, none⟩ = some (.int .i64 e.num) := (Q6.out.2.1.2 2 (by simp)).1
  have w6_x3 : w6.cell? ⟨w5.heap.size, 3, none⟩ = some (.slice p5 e.kids.length q5) := (Q6.out.2.1.2 3 (by simp)).1
  have hst2 : Hid (∀ p q : World, ((p.cell? ⟨w.heap.size, 0, none⟩ = some (.int .i64 e.kind) ∧ p.cell? ⟨w.heap.size, 1, none⟩ = some (.string e.text) ∧ p.cell? ⟨w.heap.size, 2, none⟩ = some (.int .i64 e.num) ∧ p.cell? ⟨w.heap.size, 3, none⟩ = some (.slice a e.kids.length c) ∧ p.cell? ⟨w.heap.size + 1, 0, none⟩ = some (.int .i64 t.kind) ∧ p.cell? ⟨w.heap.size + 1, 1, none⟩ = some (.int .i64 t.len) ∧ p.cell? ⟨w.heap.size + 1, 2, none⟩ = some (.string t.name) ∧ p.cell? ⟨w5.heap.size, 0, none⟩ = some (.int .i64 e.kind) ∧ p.cell? ⟨w5.heap.size, 1, none⟩ = some (.string e.text) ∧ p.cell? ⟨w5.heap.size, 2, none⟩ = some (.int .i64 e.num) ∧ p.cell? ⟨w5.heap.size, 3, none⟩ = some (.slice p5 e.kids.length q5)) ∧ Hid (QQ w [.int .i64 e.kind, .string e.text, .int .i64 e.num, .slice a e.kids.length c] [.int .i64 t.kind, .int .i64 t.len, .string t.name] w5.heap.size [.int .i64 e.kind, .string e.text, .int .i64 e.num, .slice p5 e.kids.length q5] d p5 q5 e.kids p6 q6 xs p)) → Below p.heap.size p q → ((q.cell? ⟨w.heap.size, 0, none⟩ = some (.int .i64 e.kind) ∧ q.cell? ⟨w.heap.size, 1, none⟩ = some (.string e.text) ∧ q.cell? ⟨w.heap.size, 2, none⟩ = some (.int .i64 e.num) ∧ q.cell? ⟨w.heap.size, 3, none⟩ = some (.slice a e.kids.length c) ∧ q.cell? ⟨w.heap.size + 1, 0, none⟩ = some (.int .i64 t.kind) ∧ q.cell? ⟨w.heap.size + 1, 1, none⟩ = some (.int .i64 t.len) ∧ q.cell? ⟨w.heap.size + 1, 2, none⟩ = some (.string t.name) ∧ q.cell? ⟨w5.heap.size, 0, none⟩ = some (.int .i64 e.kind) ∧ q.cell? ⟨w5.heap.size, 1, none⟩ = some (.string e.text) ∧ q.cell? ⟨w5.heap.size, 2, none⟩ = some (.int .i64 e.num) ∧ q.cell? ⟨w5.heap.size, 3, none⟩ = some (.slice p5 e.kids.length q5)) ∧ Hid (QQ w [.int .i64 e.kind, .string e.text, .int .i64 e.num, .slice a e.kids.length c] [.int .i64 t.kind, .int .i64 t.len, .string t.name] w5.heap.size [.int .i64 e.kind, .string e.text, .int .i64 e.num, .slice p5 e.kids.length q5] d p5 q5 e.kids p6 q6 xs q))) := fun p q h hb => by
    have T := h.2.out.below hb
    exact ⟨⟨(T.1.2.1.2 0 (by simp)).1, (T.1.2.1.2 1 (by simp)).1, (T.1.2.1.2 2 (by simp)).1, (T.1.2.1.2 3 (by simp)).1, (T.1.2.2.2 0 (by simp)).1, (T.1.2.2.2 1 (by simp)).1, (T.1.2.2.2 2 (by simp)).1, (T.2.1.2 0 (by simp)).1, (T.2.1.2 1 (by simp)).1, (T.2.1.2 2 (by simp)).1, (T.2.1.2 3 (by simp)).1⟩, T⟩
  go_wp2_with fail
  go_region_held3 (fun w' => (w'.cell? ⟨w.heap.size, 0, none⟩ = some (.int .i64 e.kind) ∧ w'.cell? ⟨w.heap.size, 1, none⟩ = some (.string e.text) ∧ w'.cell? ⟨w.heap.size, 2, none⟩ = some (.int .i64 e.num) ∧ w'.cell? ⟨w.heap.size, 3, none⟩ = some (.slice a e.kids.length c) ∧ w'.cell? ⟨w.heap.size + 1, 0, none⟩ = some (.int .i64 t.kind) ∧ w'.cell? ⟨w.heap.size + 1, 1, none⟩ = some (.int .i64 t.len) ∧ w'.cell? ⟨w.heap.size + 1, 2, none⟩ = some (.string t.name) ∧ w'.cell? ⟨w5.heap.size, 0, none⟩ = some (.int .i64 e.kind) ∧ w'.cell? ⟨w5.heap.size, 1, none⟩ = some (.string e.text) ∧ w'.cell? ⟨w5.heap.size, 2, none⟩ = some (.int .i64 e.num) ∧ w'.cell? ⟨w5.heap.size, 3, none⟩ = some (.slice p5 e.kids.length q5)) ∧ Hid (QQ w [.int .i64 e.kind, .string e.text, .int .i64 e.num, .slice a e.kids.length c] [.int .i64 t.kind, .int .i64 t.len, .string t.name] w5.heap.size [.int .i64 e.kind, .string e.text, .int .i64 e.num, .slice p5 e.kids.length q5] d p5 q5 e.kids p6 q6 xs w')) (first | assumption | exact ⟨⟨((Q6.out.drew).1.2.1.2 0 (by simp)).1, ((Q6.out.drew).1.2.1.2 1 (by simp)).1, ((Q6.out.drew).1.2.1.2 2 (by simp)).1, ((Q6.out.drew).1.2.1.2 3 (by simp)).1, ((Q6.out.drew).1.2.2.2 0 (by simp)).1, ((Q6.out.drew).1.2.2.2 1 (by simp)).1, ((Q6.out.drew).1.2.2.2 2 (by simp)).1, ((Q6.out.drew).2.1.2 0 (by simp)).1, ((Q6.out.drew).2.1.2 1 (by simp)).1, ((Q6.out.drew).2.1.2 2 (by simp)).1, ((Q6.out.drew).2.1.2 3 (by simp)).1⟩, (Q6.out.drew)⟩)
    (first
      | (go_at_call 19; refine (toTy t.kind t.len t.name _).mono ?_; rintro x wu ⟨rfl, bu⟩; have hu := hst2.out _ _ (by assumption) bu)
      | (go_at_call 13; have hqq := (And.right (by assumption : _ ∧ Hid (QQ w [.int .i64 e.kind, .string e.text, .int .i64 e.num, .slice a e.kids.length c] [.int .i64 t.kind, .int .i64 t.len, .string t.name] w5.heap.size [.int .i64 e.kind, .string e.text, .int .i64 e.num, .slice p5 e.kids.length q5] d p5 q5 e.kids p6 q6 xs _))).out; obtain ⟨ls2, hc2, hL2⟩ := Sl.lbs hqq.2.2.2; have hl2 : ls2.length = xs.length := (by rw [← hc2]; simp); have hG := implGives e p5 q5 d t p6 q6 ls2 _ (HF.out _ hqq.1.1) hfit hqq.2.2.1 hwt hL2; rw [hl2] at hG; refine hG.mono ?_; rintro x w7 ⟨rfl, b7⟩; have h7 := hst2.out _ _ (by assumption) b7; clear hG hqq))
  have Q7 := Lib.hid h7.2.out
  rw [show gvI ls2 t e = gvS ls1 t e by rw [gives_agree, gvI_congr (labB_congr (HC1.out.trans hc2.symm)) t e]]
  generalize gvS ls1 t e = g
  have hne : (g != g) = false := by simp
  clear h7 b7 hu bu hL2 hc2
  clear w6_e0 w6_e1 w6_e2 w6_e3 w6_t0 w6_t1 w6_t2 w6_x0 w6_x1 w6_x2 w6_x3
  have w7_e0 : w7.cell? ⟨w.heap.size, 0, none⟩ = some (.int .i64 e.kind) := (Q7.out.1.2.1.2 0 (by simp)).1
  have w7_e1 : w7.cell? ⟨w.heap.size, 1, none⟩ = some (.string e.text) := (Q7.out.1.2.1.2 1 (by simp)).1
  have w7_e2 : w7.cell? ⟨w.heap.size, 2, none⟩ = some (.int .i64 e.num) := (Q7.out.1.2.1.2 2 (by simp)).1
  have w7_e3 : w7.cell? ⟨w.heap.size, 3, none⟩ = some (.slice a e.kids.length c) := (Q7.out.1.2.1.2 3 (by simp)).1
  have w7_t0 : w7.cell? ⟨w.heap.size + 1, 0, none⟩ = some (.int .i64 t.kind) := (Q7.out.1.2.2.2 0 (by simp)).1
  have w7_t1 : w7.cell? ⟨w.heap.size + 1, 1, none⟩ = some (.int .i64 t.len) := (Q7.out.1.2.2.2 1 (by simp)).1
  have w7_t2 : w7.cell? ⟨w.heap.size + 1, 2, none⟩ = some (.string t.name) := (Q7.out.1.2.2.2 2 (by simp)).1
  have w7_x0 : w7.cell? ⟨w5.heap.size, 0, none⟩ = some (.int .i64 e.kind) := (Q7.out.2.1.2 0 (by simp)).1
  have w7_x1 : w7.cell? ⟨w5.heap.size, 1, none⟩ = some (.string e.text) := (Q7.out.2.1.2 1 (by simp)).1
  have w7_x2 : w7.cell? ⟨w5.heap.size, 2, none⟩ = some (.int .i64 e.num) := (Q7.out.2.1.2 2 (by simp)).1
  have w7_x3 : w7.cell? ⟨w5.heap.size, 3, none⟩ = some (.slice p5 e.kids.length q5) := (Q7.out.2.1.2 3 (by simp)).1
  go_wp2_with fail
  go_region_held3 (fun w' => (w'.cell? ⟨w.heap.size, 0, none⟩ = some (.int .i64 e.kind) ∧ w'.cell? ⟨w.heap.size, 1, none⟩ = some (.string e.text) ∧ w'.cell? ⟨w.heap.size, 2, none⟩ = some (.int .i64 e.num) ∧ w'.cell? ⟨w.heap.size, 3, none⟩ = some (.slice a e.kids.length c) ∧ w'.cell? ⟨w.heap.size + 1, 0, none⟩ = some (.int .i64 t.kind) ∧ w'.cell? ⟨w.heap.size + 1, 1, none⟩ = some (.int .i64 t.len) ∧ w'.cell? ⟨w.heap.size + 1, 2, none⟩ = some (.string t.name) ∧ w'.cell? ⟨w5.heap.size, 0, none⟩ = some (.int .i64 e.kind) ∧ w'.cell? ⟨w5.heap.size, 1, none⟩ = some (.string e.text) ∧ w'.cell? ⟨w5.heap.size, 2, none⟩ = some (.int .i64 e.num) ∧ w'.cell? ⟨w5.heap.size, 3, none⟩ = some (.slice p5 e.kids.length q5)) ∧ Hid (QQ w [.int .i64 e.kind, .string e.text, .int .i64 e.num, .slice a e.kids.length c] [.int .i64 t.kind, .int .i64 t.len, .string t.name] w5.heap.size [.int .i64 e.kind, .string e.text, .int .i64 e.num, .slice p5 e.kids.length q5] d p5 q5 e.kids p6 q6 xs w')) (first | assumption | exact ⟨⟨((Q7.out.drew).1.2.1.2 0 (by simp)).1, ((Q7.out.drew).1.2.1.2 1 (by simp)).1, ((Q7.out.drew).1.2.1.2 2 (by simp)).1, ((Q7.out.drew).1.2.1.2 3 (by simp)).1, ((Q7.out.drew).1.2.2.2 0 (by simp)).1, ((Q7.out.drew).1.2.2.2 1 (by simp)).1, ((Q7.out.drew).1.2.2.2 2 (by simp)).1, ((Q7.out.drew).2.1.2 0 (by simp)).1, ((Q7.out.drew).2.1.2 1 (by simp)).1, ((Q7.out.drew).2.1.2 2 (by simp)).1, ((Q7.out.drew).2.1.2 3 (by simp)).1⟩, (Q7.out.drew)⟩)
    (first
      | (go_at_call 18; have hqq := (And.right (by assumption : _ ∧ Hid (QQ w [.int .i64 e.kind, .string e.text, .int .i64 e.num, .slice a e.kids.length c] [.int .i64 t.kind, .int .i64 t.len, .string t.name] w5.heap.size [.int .i64 e.kind, .string e.text, .int .i64 e.num, .slice p5 e.kids.length q5] d p5 q5 e.kids p6 q6 xs _))).out; refine (toEx d e a c _ hfit hwt (HK.out _ hqq.1.1)).mono ?_; rintro x wa ⟨p8, q8, rfl, k8, ba⟩; have hka := hst2.out _ _ (by assumption) ba; have K8 := Lib.hid k8.at; clear k8 hqq)
      | (go_at_call 21; refine (eqEx d e p5 p8 q5 q8 _ hka.2.out.2.2.1 K8.out).mono ?_; rintro x w9 ⟨rfl, b9⟩; have h9 := hst2.out _ _ hka b9))
  have Q9 := Lib.hid h9.2.out
  clear h9 b9 hka ba K8
  clear w7_e0 w7_e1 w7_e2 w7_e3 w7_t0 w7_t1 w7_t2 w7_x0 w7_x1 w7_x2 w7_x3
  go_wp2_with fail
  refine (toLabS la lc xs _ (HX.out _ Q9.out.1.1) hlw).mono ?_
  rintro x wb ⟨p10, q10, rfl, s10, bb⟩
  have QB := Lib.hid (Q9.out.below bb)
  have S10 := Lib.hid (s10.lower goodLab (Nat.zero_le _))
  clear s10 bb
  go_wp2_with fail
  refine (eqLabS p6 p10 q6 q10 xs _ QB.out.2.2.2 S10.out).mono ?_
  rintro x wc ⟨rfl, bc⟩
  have BF := Lib.hid (Below.call bc QB.out.1.1)
  clear bc
  go_wp2_with fail
  go_ret
  exact ⟨rfl, BF.out⟩

end Go.Proofs.YtefjjcoaeanagaaDoor
