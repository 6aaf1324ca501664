/- The walk of FnExactKeyUse. Written by tools/gen_exactU.py. -/
import Derived.Test.YtjjdcdnaonfnmaaGreatMExactU
import Derived.Test.YtjjdcdnaonfnmaaGreatMUseK6
namespace Go.Proofs.YtjjdcdnaonfnmaaGreat
open Go.RowKit

set_option maxRecDepth 100000 in
set_option maxHeartbeats 8000000 in
theorem walkFnExactKeyUse (us : List Value) (x : Pl) (tb rl : ByteArray) (w : World) (hR : RPl 0 w us x) (hntb : tb.size ≤ maxLen) (hnrl : rl.size ≤ maxLen) :
    Calls Tryz.prog 5 #[.agg us.toArray, .string tb, .string rl] w fun e w' => e = .returned (.bool true) ∧ Below w.heap.size w w' := by
  have hntb' : tb.size ≤ 9223372036854775807 := by unfold maxLen at hntb; omega
  have hnrl' : rl.size ≤ 9223372036854775807 := by unfold maxLen at hnrl; omega
  have HR := Lib.hid (fun w' (hb : Below w.heap.size w w') => goodPl.kept hR (Kept.below hb))
  have hB := fun o => (Below.refl w.heap.size w).alloc (Nat.le_refl _) o
  have HB0 := Lib.hid hB
  obtain ⟨a0, c0, a1, c1, a2, c2, a3, c3, a4, c4, rfl, _⟩ := hR
  clear hB
  by_cases htb : (1048576 : Int) < tb.size
  · go_enter Tryz.func5, Tryz.ntmps5
    go_wp2_with fail
    go_ret
    exact ⟨rfl, HB0.out _⟩
  by_cases hrl : (1048576 : Int) < rl.size
  · go_enter Tryz.func5, Tryz.ntmps5
    go_wp2_with fail
    go_ret
    exact ⟨rfl, HB0.out _⟩
  go_enter Tryz.func5, Tryz.ntmps5
  go_wp2_with fail
  refine (szPl _ x 1048576 _ (HR.out _ (HB0.out _)) (by omega) (by omega)).mono ?_
  by_cases h1 : (1048576 : Int) < x.wt
  · rw [show leftN x.wt 1048576 = -1 from if_pos h1]
    rintro e w1 ⟨rfl, b1⟩
    go_wp2_with fail
    go_ret
    exact ⟨rfl, Below.call b1 (HB0.out _)⟩
  · rw [show leftN x.wt 1048576 = 1048576 - x.wt from if_neg h1]
    have hwt : x.wt ≤ 1048576 := by omega
    have hd : decide ((1048576 : Int) - x.wt < 0) = false := by simp; omega
    obtain ⟨hyl, hyz⟩ := key_ok x tb rl hwt
    have HSP := Lib.hid (fun (vs : List Value) (W : World) (h : RPl 0 W vs x) => specKeyUse vs x tb rl W h hwt)
    have HIM := Lib.hid (fun (vs : List Value) (W : World) (h : RPl 0 W vs x) => implKeyUse vs x tb rl W h hwt)
    generalize risingU (keyL x tb rl) = ys at hyl hyz HSP HIM
    have hszs : Hid (∀ s ∈ ys, s.size ≤ maxLen) := fun s hs => by have := hyz s hs; unfold maxLen; omega
    rintro e w1 ⟨rfl, b1⟩
    have B1 := Lib.hid (Below.call b1 (HB0.out _))
    have X1 := Lib.hid (Blk.call b1 (blk_new w 28 [.slice a0 x.enums.length c0, .slice a1 x.seqs.length c1, .slice a2 x.tables.length c2, .slice a3 x.indexes.length c3, .slice a4 x.views.length c4, .int .i64 x.next]))
    clear b1
    have c1_0 : w1.cell? ⟨w.heap.size, 0, none⟩ = some (.slice a0 x.enums.length c0) := (X1.out.2 0 (by simp)).1
    have c1_1 : w1.cell? ⟨w.heap.size, 1, none⟩ = some (.slice a1 x.seqs.length c1) := (X1.out.2 1 (by simp)).1
    have c1_2 : w1.cell? ⟨w.heap.size, 2, none⟩ = some (.slice a2 x.tables.length c2) := (X1.out.2 2 (by simp)).1
    have c1_3 : w1.cell? ⟨w.heap.size, 3, none⟩ = some (.slice a3 x.indexes.length c3) := (X1.out.2 3 (by simp)).1
    have c1_4 : w1.cell? ⟨w.heap.size, 4, none⟩ = some (.slice a4 x.views.length c4) := (X1.out.2 4 (by simp)).1
    have c1_5 : w1.cell? ⟨w.heap.size, 5, none⟩ = some (.int .i64 x.next) := (X1.out.2 5 (by simp)).1
    go_wp2_with fail
    refine (toPl _ x _ (HR.out _ B1.out) hwt).mono ?_
    rintro e w2 ⟨vs2, hvl2, rfl, k2, b2⟩
    have K2 := Lib.hid (goodPl.lower k2 (Nat.zero_le _))
    obtain ⟨p0, q0, p1, q1, p2, q2, p3, q3, p4, q4, rfl, _⟩ := k2
    have B2 := Lib.hid (Below.call b2 B1.out)
    have X2 := Lib.hid (Blk.call b2 X1.out)
    clear b2 hvl2
    clear c1_0 c1_1 c1_2 c1_3 c1_4 c1_5
    go_wp2_with fail
    refine (HSP.out _ _ K2.out).mono ?_
    rintro e w3 ⟨aw, cw, rfl, own3, b3⟩
    have B3 := Lib.hid (Below.call b3 B2.out)
    have X3 := Lib.hid (Blk.call b3 X2.out)
    have W3 := Lib.hid own3.at_
    have HZ23 : Hid (w2.heap.size ≤ w3.heap.size) := b3.size
    clear b3 own3
    have c3_0 : w3.cell? ⟨w.heap.size, 0, none⟩ = some (.slice a0 x.enums.length c0) := (X3.out.2 0 (by simp)).1
    have c3_1 : w3.cell? ⟨w.heap.size, 1, none⟩ = some (.slice a1 x.seqs.length c1) := (X3.out.2 1 (by simp)).1
    have c3_2 : w3.cell? ⟨w.heap.size, 2, none⟩ = some (.slice a2 x.tables.length c2) := (X3.out.2 2 (by simp)).1
    have c3_3 : w3.cell? ⟨w.heap.size, 3, none⟩ = some (.slice a3 x.indexes.length c3) := (X3.out.2 3 (by simp)).1
    have c3_4 : w3.cell? ⟨w.heap.size, 4, none⟩ = some (.slice a4 x.views.length c4) := (X3.out.2 4 (by simp)).1
    have c3_5 : w3.cell? ⟨w.heap.size, 5, none⟩ = some (.int .i64 x.next) := (X3.out.2 5 (by simp)).1
    go_wp2_with fail
    refine (toPlU _ x _ (HR.out _ B3.out) hwt).mono ?_
    rintro e w4 ⟨vs4, hvl4, rfl, k4, b4⟩
    have KU := Lib.hid k4
    have K4 := Lib.hid (goodPl.lower (weakPl k4) (Nat.zero_le _))
    obtain ⟨r0, t0, r1, t1, r2, t2, r3, t3, r4, t4, rfl, _⟩ := k4
    have B4 := Lib.hid (Below.call b4 B3.out)
    have X4 := Lib.hid (Blk.call b4 X3.out)
    have W4 := Lib.hid (W3.out.below b4)
    have HZ34 : Hid (w3.heap.size ≤ w4.heap.size) := b4.size
    clear b4 hvl4 W3
    clear c3_0 c3_1 c3_2 c3_3 c3_4 c3_5
    go_wp2_with fail
    have bx : Below w4.heap.size w4 (w4.alloc (.cells #[.slice r0 x.enums.length t0, .slice r1 x.seqs.length t1, .slice r2 x.tables.length t2, .slice r3 x.indexes.length t3, .slice r4 x.views.length t4, .int .i64 x.next] 38)) := (Below.refl _ _).alloc (Nat.le_refl _) _
    have hs5 : (w4.alloc (.cells #[.slice r0 x.enums.length t0, .slice r1 x.seqs.length t1, .slice r2 x.tables.length t2, .slice r3 x.indexes.length t3, .slice r4 x.views.length t4, .int .i64 x.next] 38)).heap.size = w4.heap.size + 1 := by simp
    have HXB := Lib.hid (blk_new w4 38 [.slice r0 x.enums.length t0, .slice r1 x.seqs.length t1, .slice r2 x.tables.length t2, .slice r3 x.indexes.length t3, .slice r4 x.views.length t4, .int .i64 x.next])
    have HBX := Lib.hid bx
    have HS5 := Lib.hid hs5
    clear bx hs5
    refine (HIM.out _ _ (goodPl.kept K4.out (Kept.below HBX.out))).mono ?_
    rintro e w5 ⟨ag, cg, rfl, own5, b5⟩
    have G5 := own5.at_
    rw [HS5.out] at G5
    have E5 : Hid (PC w w4 [.slice a0 x.enums.length c0, .slice a1 x.seqs.length c1, .slice a2 x.tables.length c2, .slice a3 x.indexes.length c3, .slice a4 x.views.length c4, .int .i64 x.next] [.slice r0 x.enums.length t0, .slice r1 x.seqs.length t1, .slice r2 x.tables.length t2, .slice r3 x.indexes.length t3, .slice r4 x.views.length t4, .int .i64 x.next] x w2.heap.size w3.heap.size (w4.heap.size + 1) w5.heap.size aw ag cw cg ys w5) :=
      ⟨Blk.call b5 (X4.out.below HBX.out), Blk.call b5 HXB.out, goodPl.kept (goodPl.kept K4.out (Kept.below HBX.out)) (Kept.below b5), (W4.out.below HBX.out).below b5, G5, Below.call b5 (Below.call HBX.out B4.out), HBX.out.trans (b5.mono HBX.out.size)⟩
    have hz5 : Hid (w.heap.size < w2.heap.size ∧ w2.heap.size ≤ w3.heap.size ∧ w3.heap.size ≤ w4.heap.size) := ⟨X2.out.1, HZ23.out, HZ34.out⟩
    clear b5 own5 G5 HXB HBX HS5 K4 W4 X4 B4
    go_wp2_with fail
    refine (eqStrs ag aw cg cw _ _ _ (E5.out.g0.1.strs hszs.out) (E5.out.w0.1.strs hszs.out) rfl).mono ?_
    rintro e w6 ⟨rfl, n6, rfl⟩
    have E6 := Lib.hid (E5.out.below (below_drewN (Below.refl _ _) n6))
    generalize w5.drewN n6 = w6 at E6 ⊢
    have E6d := Lib.hid (E6.out.below (below_drewE (Below.refl _ _)))
    have hst : Hid (∀ p q : World, (((p.cell? ⟨w.heap.size, 0, none⟩ = some (.slice a0 x.enums.length c0) ∧ p.cell? ⟨w.heap.size, 1, none⟩ = some (.slice a1 x.seqs.length c1) ∧ p.cell? ⟨w.heap.size, 2, none⟩ = some (.slice a2 x.tables.length c2) ∧ p.cell? ⟨w.heap.size, 3, none⟩ = some (.slice a3 x.indexes.length c3) ∧ p.cell? ⟨w.heap.size, 4, none⟩ = some (.slice a4 x.views.length c4) ∧ p.cell? ⟨w.heap.size, 5, none⟩ = some (.int .i64 x.next)) ∧ (p.cell? ⟨w4.heap.size, 0, none⟩ = some (.slice r0 x.enums.length t0) ∧ p.cell? ⟨w4.heap.size, 1, none⟩ = some (.slice r1 x.seqs.length t1) ∧ p.cell? ⟨w4.heap.size, 2, none⟩ = some (.slice r2 x.tables.length t2) ∧ p.cell? ⟨w4.heap.size, 3, none⟩ = some (.slice r3 x.indexes.length t3) ∧ p.cell? ⟨w4.heap.size, 4, none⟩ = some (.slice r4 x.views.length t4) ∧ p.cell? ⟨w4.heap.size, 5, none⟩ = some (.int .i64 x.next))) ∧ Hid (PC w w4 [.slice a0 x.enums.length c0, .slice a1 x.seqs.length c1, .slice a2 x.tables.length c2, .slice a3 x.indexes.length c3, .slice a4 x.views.length c4, .int .i64 x.next] [.slice r0 x.enums.length t0, .slice r1 x.seqs.length t1, .slice r2 x.tables.length t2, .slice r3 x.indexes.length t3, .slice r4 x.views.length t4, .int .i64 x.next] x w2.heap.size w3.heap.size (w4.heap.size + 1) w5.heap.size aw ag cw cg ys p)) → Below p.heap.size p q → (((q.cell? ⟨w.heap.size, 0, none⟩ = some (.slice a0 x.enums.length c0) ∧ q.cell? ⟨w.heap.size, 1, none⟩ = some (.slice a1 x.seqs.length c1) ∧ q.cell? ⟨w.heap.size, 2, none⟩ = some (.slice a2 x.tables.length c2) ∧ q.cell? ⟨w.heap.size, 3, none⟩ = some (.slice a3 x.indexes.length c3) ∧ q.cell? ⟨w.heap.size, 4, none⟩ = some (.slice a4 x.views.length c4) ∧ q.cell? ⟨w.heap.size, 5, none⟩ = some (.int .i64 x.next)) ∧ (q.cell? ⟨w4.heap.size, 0, none⟩ = some (.slice r0 x.enums.length t0) ∧ q.cell? ⟨w4.heap.size, 1, none⟩ = some (.slice r1 x.seqs.length t1) ∧ q.cell? ⟨w4.heap.size, 2, none⟩ = some (.slice r2 x.tables.length t2) ∧ q.cell? ⟨w4.heap.size, 3, none⟩ = some (.slice r3 x.indexes.length t3) ∧ q.cell? ⟨w4.heap.size, 4, none⟩ = some (.slice r4 x.views.length t4) ∧ q.cell? ⟨w4.heap.size, 5, none⟩ = some (.int .i64 x.next))) ∧ Hid (PC w w4 [.slice a0 x.enums.length c0, .slice a1 x.seqs.length c1, .slice a2 x.tables.length c2, .slice a3 x.indexes.length c3, .slice a4 x.views.length c4, .int .i64 x.next] [.slice r0 x.enums.length t0, .slice r1 x.seqs.length t1, .slice r2 x.tables.length t2, .slice r3 x.indexes.length t3, .slice r4 x.views.length t4, .int .i64 x.next] x w2.heap.size w3.heap.size (w4.heap.size + 1) w5.heap.size aw ag cw cg ys q))) := fun p q h hb => by
      have T := h.2.out.below hb
      exact ⟨⟨⟨(T.abox.2 0 (by simp)).1, (T.abox.2 1 (by simp)).1, (T.abox.2 2 (by simp)).1, (T.abox.2 3 (by simp)).1, (T.abox.2 4 (by simp)).1, (T.abox.2 5 (by simp)).1⟩, ⟨(T.xbox.2 0 (by simp)).1, (T.xbox.2 1 (by simp)).1, (T.xbox.2 2 (by simp)).1, (T.xbox.2 3 (by simp)).1, (T.xbox.2 4 (by simp)).1, (T.xbox.2 5 (by simp)).1⟩⟩, T⟩
    go_wp2_with fail
    go_region_held3 (fun w' => ((w'.cell? ⟨w.heap.size, 0, none⟩ = some (.slice a0 x.enums.length c0) ∧ w'.cell? ⟨w.heap.size, 1, none⟩ = some (.slice a1 x.seqs.length c1) ∧ w'.cell? ⟨w.heap.size, 2, none⟩ = some (.slice a2 x.tables.length c2) ∧ w'.cell? ⟨w.heap.size, 3, none⟩ = some (.slice a3 x.indexes.length c3) ∧ w'.cell? ⟨w.heap.size, 4, none⟩ = some (.slice a4 x.views.length c4) ∧ w'.cell? ⟨w.heap.size, 5, none⟩ = some (.int .i64 x.next)) ∧ (w'.cell? ⟨w4.heap.size, 0, none⟩ = some (.slice r0 x.enums.length t0) ∧ w'.cell? ⟨w4.heap.size, 1, none⟩ = some (.slice r1 x.seqs.length t1) ∧ w'.cell? ⟨w4.heap.size, 2, none⟩ = some (.slice r2 x.tables.length t2) ∧ w'.cell? ⟨w4.heap.size, 3, none⟩ = some (.slice r3 x.indexes.length t3) ∧ w'.cell? ⟨w4.heap.size, 4, none⟩ = some (.slice r4 x.views.length t4) ∧ w'.cell? ⟨w4.heap.size, 5, none⟩ = some (.int .i64 x.next))) ∧ Hid (PC w w4 [.slice a0 x.enums.length c0, .slice a1 x.seqs.length c1, .slice a2 x.tables.length c2, .slice a3 x.indexes.length c3, .slice a4 x.views.length c4, .int .i64 x.next] [.slice r0 x.enums.length t0, .slice r1 x.seqs.length t1, .slice r2 x.tables.length t2, .slice r3 x.indexes.length t3, .slice r4 x.views.length t4, .int .i64 x.next] x w2.heap.size w3.heap.size (w4.heap.size + 1) w5.heap.size aw ag cw cg ys w')) (first | assumption | exact ⟨⟨⟨(E6d.out.abox.2 0 (by simp)).1, (E6d.out.abox.2 1 (by simp)).1, (E6d.out.abox.2 2 (by simp)).1, (E6d.out.abox.2 3 (by simp)).1, (E6d.out.abox.2 4 (by simp)).1, (E6d.out.abox.2 5 (by simp)).1⟩, ⟨(E6d.out.xbox.2 0 (by simp)).1, (E6d.out.xbox.2 1 (by simp)).1, (E6d.out.xbox.2 2 (by simp)).1, (E6d.out.xbox.2 3 (by simp)).1, (E6d.out.xbox.2 4 (by simp)).1, (E6d.out.xbox.2 5 (by simp)).1⟩⟩, E6d.out⟩)
      (first
        | (go_at_call 8; refine (toPl _ x _ (HR.out _ (And.right (by assumption : _ ∧ Hid (PC w w4 [.slice a0 x.enums.length c0, .slice a1 x.seqs.length c1, .slice a2 x.tables.length c2, .slice a3 x.indexes.length c3, .slice a4 x.views.length c4, .int .i64 x.next] [.slice r0 x.enums.length t0, .slice r1 x.seqs.length t1, .slice r2 x.tables.length t2, .slice r3 x.indexes.length t3, .slice r4 x.views.length t4, .int .i64 x.next] x w2.heap.size w3.heap.size (w4.heap.size + 1) w5.heap.size aw ag cw cg ys _))).out.bel) hwt).mono ?_; rintro e wq ⟨vs6, hvl6, rfl, k6, bq⟩; have hq := hst.out _ _ (by assumption) bq; have K6 := Lib.hid (goodPl.lower k6 (Nat.zero_le _)); obtain ⟨y0, z0, y1, z1, y2, z2, y3, z3, y4, z4, rfl, _⟩ := k6; clear bq hvl6)
        | (go_at_call 11; refine (eqPl _ _ x _ hq.2.out.xr K6.out).mono ?_; rintro e wz ⟨rfl, bz⟩; have hz := hst.out _ _ (by assumption) bz; have E9 := Lib.hid hz.2.out))
    clear hz hq K6 E6 E6d hst E5
    generalize wz = w9 at E9 ⊢
    have x9_0 : w9.cell? ⟨w4.heap.size, 0, none⟩ = some (.slice r0 x.enums.length t0) := (E9.out.xbox.2 0 (by simp)).1
    have x9_1 : w9.cell? ⟨w4.heap.size, 1, none⟩ = some (.slice r1 x.seqs.length t1) := (E9.out.xbox.2 1 (by simp)).1
    have x9_2 : w9.cell? ⟨w4.heap.size, 2, none⟩ = some (.slice r2 x.tables.length t2) := (E9.out.xbox.2 2 (by simp)).1
    have x9_3 : w9.cell? ⟨w4.heap.size, 3, none⟩ = some (.slice r3 x.indexes.length t3) := (E9.out.xbox.2 3 (by simp)).1
    have x9_4 : w9.cell? ⟨w4.heap.size, 4, none⟩ = some (.slice r4 x.views.length t4) := (E9.out.xbox.2 4 (by simp)).1
    have x9_5 : w9.cell? ⟨w4.heap.size, 5, none⟩ = some (.int .i64 x.next) := (E9.out.xbox.2 5 (by simp)).1
    -- x0 is marked
    have hcn := plCnt x
    have hcb : 1 + x.cnt ≤ 8388608 := by omega
    go_wp2_with fail
    refine (mkPl w3.heap.size w4 _ x KU.out w9 ((Sim.refl w3.heap.size w4).below E9.out.b4) hcb).mono ?_
    rintro e w10 ⟨rfl, hm10⟩
    have D10 : Hid (PD w [.slice a0 x.enums.length c0, .slice a1 x.seqs.length c1, .slice a2 x.tables.length c2, .slice a3 x.indexes.length c3, .slice a4 x.views.length c4, .int .i64 x.next] w2.heap.size w3.heap.size (w4.heap.size + 1) w5.heap.size aw ag cw cg ys ys w10) := E9.out.marked hm10 (by have := hz5.out; omega) (Nat.le_refl _) (Nat.le_succ _)
    clear hm10 E9 x9_0 x9_1 x9_2 x9_3 x9_4 x9_5 KU
    have ht10 : decide ((1 : Int) + (x.cnt : Nat) < 0) = false := by simp; omega
    generalize (1 : Int) + (x.cnt : Nat) = z10 at ht10 ⊢
    go_wp2_with fail
    refine (eqStrs ag aw cg cw _ _ _ (D10.out.g0.1.strs hszs.out) (D10.out.w0.1.strs hszs.out) rfl).mono ?_
    rintro e w11 ⟨rfl, n11, rfl⟩
    have D11 := Lib.hid (D10.out.below (below_drewN (Below.refl _ _) n11))
    clear D10
    generalize w10.drewN n11 = w11 at D11 ⊢
    -- g0 is marked, and found marked
    go_wp2_with fail
    refine (markStrs1 ag cg _ _ _ D11.out.g0.1 (by omega)).mono ?_
    rintro e w12 ⟨rfl, own12, hg12⟩
    have D12 : Hid (PD w [.slice a0 x.enums.length c0, .slice a1 x.seqs.length c1, .slice a2 x.tables.length c2, .slice a3 x.indexes.length c3, .slice a4 x.views.length c4, .int .i64 x.next] w2.heap.size w3.heap.size (w4.heap.size + 1) w5.heap.size aw ag cw cg ys (marks 1 ys.length) w12) := by
      have hz := hz5.out
      have hrow : ∀ g, (Value.slice ag ys.length cg).ownBlock = some g → w4.heap.size + 1 ≤ g ∧ g < w5.heap.size := fun g h => ⟨(D11.out.g0.1.lt h).1, D11.out.g0.2 g h⟩
      refine ⟨D11.out.abox.grown hg12 (fun e => by have := (hrow _ e).1; omega), D11.out.w0.grown hg12 (fun g h => .inr (by have := (hrow g h).1; omega)), ⟨own12, fun g h => ?_⟩, D11.out.bel.grown hg12 D11.out.bel.size (fun g h => by have := (hrow g h).1; omega)⟩
      rw [marks_length] at h
      exact (hrow g h).2
    have mk := marks_sizes 1 ys.length (by omega)
    clear own12 hg12 D11
    go_wp2_with fail
    refine (heldStrs1 ag cg _ _ (D12.out.g0.1.strs mk) (by omega)).mono ?_
    rintro e w13 ⟨rfl, b13⟩
    have D13 := Lib.hid (D12.out.below b13)
    have ht13 : decide ((1 : Int) + (ys.length : Int) < 0) = false := by simp; omega
    have hq13 : ((1 : Int) + (ys.length : Int) != 1 + (ys.length : Int)) = false := by simp
    clear b13 D12
    have c13_0 : w13.cell? ⟨w.heap.size, 0, none⟩ = some (.slice a0 x.enums.length c0) := (D13.out.abox.2 0 (by simp)).1
    have c13_1 : w13.cell? ⟨w.heap.size, 1, none⟩ = some (.slice a1 x.seqs.length c1) := (D13.out.abox.2 1 (by simp)).1
    have c13_2 : w13.cell? ⟨w.heap.size, 2, none⟩ = some (.slice a2 x.tables.length c2) := (D13.out.abox.2 2 (by simp)).1
    have c13_3 : w13.cell? ⟨w.heap.size, 3, none⟩ = some (.slice a3 x.indexes.length c3) := (D13.out.abox.2 3 (by simp)).1
    have c13_4 : w13.cell? ⟨w.heap.size, 4, none⟩ = some (.slice a4 x.views.length c4) := (D13.out.abox.2 4 (by simp)).1
    have c13_5 : w13.cell? ⟨w.heap.size, 5, none⟩ = some (.int .i64 x.next) := (D13.out.abox.2 5 (by simp)).1
    -- a second answer
    go_wp2_with fail
    refine (toPl _ x _ (HR.out _ D13.out.bel) hwt).mono ?_
    rintro e w14 ⟨vs14, hvl14, rfl, k14, b14⟩
    have D14 := Lib.hid (D13.out.below b14)
    have K14 := Lib.hid (goodPl.lower k14 (Nat.zero_le _))
    obtain ⟨y0, z0, y1, z1, y2, z2, y3, z3, y4, z4, rfl, _⟩ := k14
    clear b14 hvl14 D13 c13_0 c13_1 c13_2 c13_3 c13_4 c13_5
    go_wp2_with fail
    refine (HIM.out _ _ K14.out).mono ?_
    rintro e w15 ⟨a15, c15, rfl, own15, b15⟩
    have D15 := Lib.hid (D14.out.below b15)
    have S15 := Lib.hid (own15.strs hszs.out)
    clear b15 own15 D14 K14
    go_wp2_with fail
    refine (eqStrs a15 aw c15 cw _ _ _ S15.out (D15.out.w0.1.strs hszs.out) rfl).mono ?_
    rintro e w16 ⟨rfl, n16, rfl⟩
    have D16 := Lib.hid (D15.out.below (below_drewN (Below.refl _ _) n16))
    clear D15 S15
    generalize w15.drewN n16 = w16 at D16 ⊢
    go_wp2_with fail
    refine (heldStrs1 ag cg _ _ (D16.out.g0.1.strs mk) (by omega)).mono ?_
    rintro e w17 ⟨rfl, b17⟩
    have D17 := Lib.hid (D16.out.below b17)
    clear b17 D16
    go_wp2_with fail
    go_ret
    exact ⟨rfl, D17.out.bel⟩

end Go.Proofs.YtjjdcdnaonfnmaaGreat
