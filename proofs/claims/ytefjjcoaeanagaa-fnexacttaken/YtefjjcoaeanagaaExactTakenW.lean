/- For every argument FnExactTaken answers true: impl.Taken answers as spec.Taken; the argument reads behind the call as before it. No condition. Written by tools/gen_exact.py. -/
import Derived.Test.YtefjjcoaeanagaaTaken
import Derived.Test.YtefjjcoaeanagaaPlSzF
import Derived.Test.YtefjjcoaeanagaaPlToF
import Derived.Test.YtefjjcoaeanagaaPlEqF
import Derived.Test.YtefjjcoaeanagaaTwo2
namespace Go.Proofs.Ytefjjcoaeanagaa
open Go.RowKit

set_option maxHeartbeats 4000000 in
theorem walkFnExactTaken (us : List Value) (x : Pl) (n : ByteArray) (w : World) (hR : RPl 0 w us x) (hn : n.size ≤ maxLen) :
    Calls Try.prog 5 #[.agg us.toArray, .string n] w fun e w' => e = .returned (.bool true) ∧ Below w.heap.size w w' := by
  have hn' : n.size ≤ 9223372036854775807 := by unfold maxLen at hn; omega
  have HR := Lib.hid (fun w' (hb : Below w.heap.size w w') => goodPl.kept hR (Kept.below hb))
  have hB := fun o => (Below.refl w.heap.size w).alloc (Nat.le_refl _) o
  have HB0 := Lib.hid hB
  have hne : ((takenB x n) != (takenB x n)) = false := by simp
  obtain ⟨a0, c0, a1, c1, a2, c2, a3, c3, a4, c4, rfl, _⟩ := hR
  clear hB
  by_cases h0 : (1048576 : Int) < n.size
  · go_enter Try.func5, Try.ntmps5
    go_wp2_with fail
    go_ret
    exact ⟨rfl, HB0.out _⟩
  go_enter Try.func5, Try.ntmps5
  go_wp2_with fail
  refine (szPl _ x 1048576 _ (HR.out _ (HB0.out _)) (by omega) (by omega)).mono ?_
  by_cases h1 : (1048576 : Int) < x.wt
  · rw [show leftN x.wt 1048576 = -1 from if_pos h1]
    rintro e w1 ⟨rfl, b1⟩
    go_wp2_with fail
    go_ret
    exact ⟨rfl, Below.call b1 (HB0.out _)⟩
  · rw [show leftN x.wt 1048576 = 1048576 - x.wt from if_neg h1]
    have hwt : x.wt ≤ 1048576 := by omega
    have hd : decide ((1048576 : Int) - x.wt < 0) = false := by simp; omega
    rintro e w1 ⟨rfl, b1⟩
    have B1 := Lib.hid (Below.call b1 (HB0.out _))
    have X1 := Lib.hid (Blk.call b1 (blk_new w _ [.slice a0 x.enums.length c0, .slice a1 x.seqs.length c1, .slice a2 x.tables.length c2, .slice a3 x.indexes.length c3, .slice a4 x.views.length c4, .int .i64 x.next]))
    clear b1
    have c1_0 : w1.cell? ⟨w.heap.size, 0, none⟩ = some (.slice a0 x.enums.length c0) := (X1.out.2 0 (by simp)).1
    have c1_1 : w1.cell? ⟨w.heap.size, 1, none⟩ = some (.slice a1 x.seqs.length c1) := (X1.out.2 1 (by simp)).1
    have c1_2 : w1.cell? ⟨w.heap.size, 2, none⟩ = some (.slice a2 x.tables.length c2) := (X1.out.2 2 (by simp)).1
    have c1_3 : w1.cell? ⟨w.heap.size, 3, none⟩ = some (.slice a3 x.indexes.length c3) := (X1.out.2 3 (by simp)).1
    have c1_4 : w1.cell? ⟨w.heap.size, 4, none⟩ = some (.slice a4 x.views.length c4) := (X1.out.2 4 (by simp)).1
    have c1_5 : w1.cell? ⟨w.heap.size, 5, none⟩ = some (.int .i64 x.next) := (X1.out.2 5 (by simp)).1
    go_wp2_with fail
    refine (toPl _ x _ (HR.out _ B1.out) hwt).mono ?_
    rintro e w2 ⟨vs2, hvl2, rfl, k2, b2⟩
    have K2 := Lib.hid (goodPl.lower k2 (Nat.zero_le _))
    obtain ⟨p0, q0, p1, q1, p2, q2, p3, q3, p4, q4, rfl, _⟩ := k2
    have B2 := Lib.hid (Below.call b2 B1.out)
    have X2 := Lib.hid (Blk.call b2 X1.out)
    clear b2 hvl2
    clear c1_0 c1_1 c1_2 c1_3 c1_4 c1_5
    go_wp2_with fail
    refine (specTaken _ x n _ K2.out hwt).mono ?_
    rintro e w3 ⟨rfl, b3⟩
    have B3 := Lib.hid (Below.call b3 B2.out)
    have X3 := Lib.hid (Blk.call b3 X2.out)
    clear b3
    have c3_0 : w3.cell? ⟨w.heap.size, 0, none⟩ = some (.slice a0 x.enums.length c0) := (X3.out.2 0 (by simp)).1
    have c3_1 : w3.cell? ⟨w.heap.size, 1, none⟩ = some (.slice a1 x.seqs.length c1) := (X3.out.2 1 (by simp)).1
    have c3_2 : w3.cell? ⟨w.heap.size, 2, none⟩ = some (.slice a2 x.tables.length c2) := (X3.out.2 2 (by simp)).1
    have c3_3 : w3.cell? ⟨w.heap.size, 3, none⟩ = some (.slice a3 x.indexes.length c3) := (X3.out.2 3 (by simp)).1
    have c3_4 : w3.cell? ⟨w.heap.size, 4, none⟩ = some (.slice a4 x.views.length c4) := (X3.out.2 4 (by simp)).1
    have c3_5 : w3.cell? ⟨w.heap.size, 5, none⟩ = some (.int .i64 x.next) := (X3.out.2 5 (by simp)).1
    go_wp2_with fail
    refine (toPl _ x _ (HR.out _ B3.out) hwt).mono ?_
    rintro e w4 ⟨vs4, hvl4, rfl, k4, b4⟩
    have K4 := Lib.hid (goodPl.lower k4 (Nat.zero_le _))
    obtain ⟨r0, t0, r1, t1, r2, t2, r3, t3, r4, t4, rfl, _⟩ := k4
    have B4 := Lib.hid (Below.call b4 B3.out)
    have X4 := Lib.hid (Blk.call b4 X3.out)
    clear b4 hvl4
    clear c3_0 c3_1 c3_2 c3_3 c3_4 c3_5
    go_wp2_with fail
    have T4 := Lib.hid (Two2.new goodPl X4.out K4.out B4.out 30)
    refine (implTaken _ x n _ T4.out.2.2.1).mono ?_
    rintro e w5 ⟨rfl, b5⟩
    have T5 := Lib.hid (T4.out.below goodPl b5)
    clear b5
    have hst : Hid (∀ p q : World, (((p.cell? ⟨w.heap.size, 0, none⟩ = some (.slice a0 x.enums.length c0) ∧ p.cell? ⟨w.heap.size, 1, none⟩ = some (.slice a1 x.seqs.length c1) ∧ p.cell? ⟨w.heap.size, 2, none⟩ = some (.slice a2 x.tables.length c2) ∧ p.cell? ⟨w.heap.size, 3, none⟩ = some (.slice a3 x.indexes.length c3) ∧ p.cell? ⟨w.heap.size, 4, none⟩ = some (.slice a4 x.views.length c4) ∧ p.cell? ⟨w.heap.size, 5, none⟩ = some (.int .i64 x.next)) ∧ (p.cell? ⟨w4.heap.size, 0, none⟩ = some (.slice r0 x.enums.length t0) ∧ p.cell? ⟨w4.heap.size, 1, none⟩ = some (.slice r1 x.seqs.length t1) ∧ p.cell? ⟨w4.heap.size, 2, none⟩ = some (.slice r2 x.tables.length t2) ∧ p.cell? ⟨w4.heap.size, 3, none⟩ = some (.slice r3 x.indexes.length t3) ∧ p.cell? ⟨w4.heap.size, 4, none⟩ = some (.slice r4 x.views.length t4) ∧ p.cell? ⟨w4.heap.size, 5, none⟩ = some (.int .i64 x.next))) ∧ Hid (Two2 RPl w w4.heap.size [.slice a0 x.enums.length c0, .slice a1 x.seqs.length c1, .slice a2 x.tables.length c2, .slice a3 x.indexes.length c3, .slice a4 x.views.length c4, .int .i64 x.next] [.slice r0 x.enums.length t0, .slice r1 x.seqs.length t1, .slice r2 x.tables.length t2, .slice r3 x.indexes.length t3, .slice r4 x.views.length t4, .int .i64 x.next] x p)) → Below p.heap.size p q → (((q.cell? ⟨w.heap.size, 0, none⟩ = some (.slice a0 x.enums.length c0) ∧ q.cell? ⟨w.heap.size, 1, none⟩ = some (.slice a1 x.seqs.length c1) ∧ q.cell? ⟨w.heap.size, 2, none⟩ = some (.slice a2 x.tables.length c2) ∧ q.cell? ⟨w.heap.size, 3, none⟩ = some (.slice a3 x.indexes.length c3) ∧ q.cell? ⟨w.heap.size, 4, none⟩ = some (.slice a4 x.views.length c4) ∧ q.cell? ⟨w.heap.size, 5, none⟩ = some (.int .i64 x.next)) ∧ (q.cell? ⟨w4.heap.size, 0, none⟩ = some (.slice r0 x.enums.length t0) ∧ q.cell? ⟨w4.heap.size, 1, none⟩ = some (.slice r1 x.seqs.length t1) ∧ q.cell? ⟨w4.heap.size, 2, none⟩ = some (.slice r2 x.tables.length t2) ∧ q.cell? ⟨w4.heap.size, 3, none⟩ = some (.slice r3 x.indexes.length t3) ∧ q.cell? ⟨w4.heap.size, 4, none⟩ = some (.slice r4 x.views.length t4) ∧ q.cell? ⟨w4.heap.size, 5, none⟩ = some (.int .i64 x.next))) ∧ Hid (Two2 RPl w w4.heap.size [.slice a0 x.enums.length c0, .slice a1 x.seqs.length c1, .slice a2 x.tables.length c2, .slice a3 x.indexes.length c3, .slice a4 x.views.length c4, .int .i64 x.next] [.slice r0 x.enums.length t0, .slice r1 x.seqs.length t1, .slice r2 x.tables.length t2, .slice r3 x.indexes.length t3, .slice r4 x.views.length t4, .int .i64 x.next] x q))) := fun p q h hb => by
      have T := h.2.out.below goodPl hb
      exact ⟨⟨⟨(T.1.2 0 (by simp)).1, (T.1.2 1 (by simp)).1, (T.1.2 2 (by simp)).1, (T.1.2 3 (by simp)).1, (T.1.2 4 (by simp)).1, (T.1.2 5 (by simp)).1⟩, ⟨(T.2.1.2 0 (by simp)).1, (T.2.1.2 1 (by simp)).1, (T.2.1.2 2 (by simp)).1, (T.2.1.2 3 (by simp)).1, (T.2.1.2 4 (by simp)).1, (T.2.1.2 5 (by simp)).1⟩⟩, T⟩
    go_wp2_with fail
    go_region_held3 (fun w' => ((w'.cell? ⟨w.heap.size, 0, none⟩ = some (.slice a0 x.enums.length c0) ∧ w'.cell? ⟨w.heap.size, 1, none⟩ = some (.slice a1 x.seqs.length c1) ∧ w'.cell? ⟨w.heap.size, 2, none⟩ = some (.slice a2 x.tables.length c2) ∧ w'.cell? ⟨w.heap.size, 3, none⟩ = some (.slice a3 x.indexes.length c3) ∧ w'.cell? ⟨w.heap.size, 4, none⟩ = some (.slice a4 x.views.length c4) ∧ w'.cell? ⟨w.heap.size, 5, none⟩ = some (.int .i64 x.next)) ∧ (w'.cell? ⟨w4.heap.size, 0, none⟩ = some (.slice r0 x.enums.length t0) ∧ w'.cell? ⟨w4.heap.size, 1, none⟩ = some (.slice r1 x.seqs.length t1) ∧ w'.cell? ⟨w4.heap.size, 2, none⟩ = some (.slice r2 x.tables.length t2) ∧ w'.cell? ⟨w4.heap.size, 3, none⟩ = some (.slice r3 x.indexes.length t3) ∧ w'.cell? ⟨w4.heap.size, 4, none⟩ = some (.slice r4 x.views.length t4) ∧ w'.cell? ⟨w4.heap.size, 5, none⟩ = some (.int .i64 x.next))) ∧ Hid (Two2 RPl w w4.heap.size [.slice a0 x.enums.length c0, .slice a1 x.seqs.length c1, .slice a2 x.tables.length c2, .slice a3 x.indexes.length c3, .slice a4 x.views.length c4, .int .i64 x.next] [.slice r0 x.enums.length t0, .slice r1 x.seqs.length t1, .slice r2 x.tables.length t2, .slice r3 x.indexes.length t3, .slice r4 x.views.length t4, .int .i64 x.next] x w')) (first | assumption | exact ⟨⟨⟨((T5.out.drew goodPl).1.2 0 (by simp)).1, ((T5.out.drew goodPl).1.2 1 (by simp)).1, ((T5.out.drew goodPl).1.2 2 (by simp)).1, ((T5.out.drew goodPl).1.2 3 (by simp)).1, ((T5.out.drew goodPl).1.2 4 (by simp)).1, ((T5.out.drew goodPl).1.2 5 (by simp)).1⟩, ⟨((T5.out.drew goodPl).2.1.2 0 (by simp)).1, ((T5.out.drew goodPl).2.1.2 1 (by simp)).1, ((T5.out.drew goodPl).2.1.2 2 (by simp)).1, ((T5.out.drew goodPl).2.1.2 3 (by simp)).1, ((T5.out.drew goodPl).2.1.2 4 (by simp)).1, ((T5.out.drew goodPl).2.1.2 5 (by simp)).1⟩⟩, T5.out.drew goodPl⟩)
      (first
        | (go_at_call 22; refine (toPl _ x _ (HR.out _ (And.right (by assumption : _ ∧ Hid (Two2 RPl w w4.heap.size [.slice a0 x.enums.length c0, .slice a1 x.seqs.length c1, .slice a2 x.tables.length c2, .slice a3 x.indexes.length c3, .slice a4 x.views.length c4, .int .i64 x.next] [.slice r0 x.enums.length t0, .slice r1 x.seqs.length t1, .slice r2 x.tables.length t2, .slice r3 x.indexes.length t3, .slice r4 x.views.length t4, .int .i64 x.next] x _))).out.2.2.2) hwt).mono ?_; rintro e wq ⟨vs6, hvl6, rfl, k6, bq⟩; have hq := hst.out _ _ (by assumption) bq; have K6 := Lib.hid (goodPl.lower k6 (Nat.zero_le _)); obtain ⟨y0, z0, y1, z1, y2, z2, y3, z3, y4, z4, rfl, _⟩ := k6; clear hvl6)
        | (go_at_call 23; refine (eqPl _ _ x _ hq.2.out.2.2.1 K6.out).mono ?_; rintro e wz ⟨rfl, bz⟩; have hz := hst.out _ _ (by assumption) bz; have T9 := Lib.hid hz.2.out))
    go_wp2_with fail
    go_ret
    exact ⟨rfl, T9.out.2.2.2⟩

end Go.Proofs.Ytefjjcoaeanagaa
