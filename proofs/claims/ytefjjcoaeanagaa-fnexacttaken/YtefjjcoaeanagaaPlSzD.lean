/- The laws' own helpers over schemas (the size that is left): Table. Written by tools/gen_plan.py. -/
import Derived.Test.YtefjjcoaeanagaaDat2
import Derived.Test.YtefjjcoaeanagaaPl
import Derived.Test.YtefjjcoaeanagaaPlSzB
import Derived.Test.YtefjjcoaeanagaaPlSzC
namespace Go.Proofs.Ytefjjcoaeanagaa
open Go.RowKit

set_option maxHeartbeats 2000000 in
theorem szTb (vs : List Value) (x : Tb) (left : Int) (w : World) (hR : RTb 0 w vs x) (h0 : 0 ≤ left) (h1 : left ≤ 1048576) :
    Calls Try.prog 24 #[.agg vs.toArray, .int .i64 left] w fun e w' => e = .returned (.int .i64 (leftN x.wt left)) ∧ Below w.heap.size w w' := by
  obtain ⟨a0, c0, a1, c1, rfl, hfit, k0, k1⟩ := hR
  have t_name : x.name.size ≤ 9223372036854775807 := by have : x.name.size ≤ maxLen := hfit.1; unfold maxLen at this; omega
  have K0 := Lib.hid (fun w' (hb : Below w.heap.size w w') => k0.kept goodCo (Kept.below hb))
  clear k0
  have K1 := Lib.hid (fun w' (hb : Below w.heap.size w w') => k1.kept goodRu (Kept.below hb))
  clear k1
  have HW := Lib.hid (show x.wt = x.name.size + (x.cols.length + wtS Co.wt x.cols) + (x.rules.length + wtS Ru.wt x.rules) from rfl)
  go_enter Try.func24, Try.ntmps24
  by_cases q0 : left < ((x.name.size : Nat) : Int)
  · have H : Hid (leftN x.wt left = -1) := by unfold Hid leftN; rw [if_pos (by have := HW.out; omega)]
    have d0 : decide (left - ((x.name.size : Nat) : Int) < 0) = true := by simp; omega
    go_wp2_with fail
    go_ret
    exact ⟨by rw [H.out]; rfl, (Below.refl _ _).alloc (Nat.le_refl _) _⟩
  · have d0 : decide (left - ((x.name.size : Nat) : Int) < 0) = false := by simp; omega
    go_wp2_with fail
    refine (szCoS a0 c0 x.cols (left - ((x.name.size : Nat) : Int)) _ (K0.out _ ?_) (by omega) (by omega)).mono ?_
    · exact (Below.refl _ _).alloc (Nat.le_refl _) _
    by_cases q1 : left - ((x.name.size : Nat) : Int) < (((x.cols.length + wtS Co.wt x.cols) : Nat) : Int)
    · have H : Hid (leftN x.wt left = -1) := by unfold Hid leftN; rw [if_pos (by have := HW.out; omega)]
      rw [show leftN (x.cols.length + wtS Co.wt x.cols) (left - ((x.name.size : Nat) : Int)) = -1 from if_pos q1]
      rintro e w1 ⟨rfl, b1⟩
      have B1 := Lib.hid (Below.call b1 ((Below.refl _ _).alloc (Nat.le_refl _) _))
      clear b1
      go_wp2_with fail
      go_ret
      exact ⟨by rw [H.out]; rfl, B1.out⟩
    · have d1 : decide (left - ((x.name.size : Nat) : Int) - (((x.cols.length + wtS Co.wt x.cols) : Nat) : Int) < 0) = false := by simp; omega
      rw [show leftN (x.cols.length + wtS Co.wt x.cols) (left - ((x.name.size : Nat) : Int)) = left - ((x.name.size : Nat) : Int) - (((x.cols.length + wtS Co.wt x.cols) : Nat) : Int) from if_neg q1]
      rintro e w1 ⟨rfl, b1⟩
      have B1 := Lib.hid (Below.call b1 ((Below.refl _ _).alloc (Nat.le_refl _) _))
      have A1 := Lib.hid (Blk.call b1 (blk_new w _ [.string x.name, .slice a0 x.cols.length c0, .slice a1 x.rules.length c1, .int .i64 x.token]))
      clear b1
      have g1_0 : w1.cell? ⟨w.heap.size, 0, none⟩ = some (.string x.name) := (A1.out.2 0 (by simp)).1
      have g1_1 : w1.cell? ⟨w.heap.size, 1, none⟩ = some (.slice a0 x.cols.length c0) := (A1.out.2 1 (by simp)).1
      have g1_2 : w1.cell? ⟨w.heap.size, 2, none⟩ = some (.slice a1 x.rules.length c1) := (A1.out.2 2 (by simp)).1
      have g1_3 : w1.cell? ⟨w.heap.size, 3, none⟩ = some (.int .i64 x.token) := (A1.out.2 3 (by simp)).1
      go_wp2_with fail
      refine (szRuS a1 c1 x.rules (left - ((x.name.size : Nat) : Int) - (((x.cols.length + wtS Co.wt x.cols) : Nat) : Int)) _ (K1.out _ ?_) (by omega) (by omega)).mono ?_
      · exact B1.out
      by_cases q2 : left - ((x.name.size : Nat) : Int) - (((x.cols.length + wtS Co.wt x.cols) : Nat) : Int) < (((x.rules.length + wtS Ru.wt x.rules) : Nat) : Int)
      · have H : Hid (leftN x.wt left = -1) := by unfold Hid leftN; rw [if_pos (by have := HW.out; omega)]
        rw [show leftN (x.rules.length + wtS Ru.wt x.rules) (left - ((x.name.size : Nat) : Int) - (((x.cols.length + wtS Co.wt x.cols) : Nat) : Int)) = -1 from if_pos q2]
        rintro e w2 ⟨rfl, b2⟩
        have B2 := Lib.hid (Below.call b2 B1.out)
        clear b2
        go_wp2_with fail
        go_ret
        exact ⟨by rw [H.out]; rfl, B2.out⟩
      · have d2 : decide (left - ((x.name.size : Nat) : Int) - (((x.cols.length + wtS Co.wt x.cols) : Nat) : Int) - (((x.rules.length + wtS Ru.wt x.rules) : Nat) : Int) < 0) = false := by simp; omega
        rw [show leftN (x.rules.length + wtS Ru.wt x.rules) (left - ((x.name.size : Nat) : Int) - (((x.cols.length + wtS Co.wt x.cols) : Nat) : Int)) = left - ((x.name.size : Nat) : Int) - (((x.cols.length + wtS Co.wt x.cols) : Nat) : Int) - (((x.rules.length + wtS Ru.wt x.rules) : Nat) : Int) from if_neg q2]
        rintro e w2 ⟨rfl, b2⟩
        have B2 := Lib.hid (Below.call b2 B1.out)
        have A2 := Lib.hid (Blk.call b2 A1.out)
        clear b2
        clear g1_0 g1_1 g1_2 g1_3
        have g2_0 : w2.cell? ⟨w.heap.size, 0, none⟩ = some (.string x.name) := (A2.out.2 0 (by simp)).1
        have g2_1 : w2.cell? ⟨w.heap.size, 1, none⟩ = some (.slice a0 x.cols.length c0) := (A2.out.2 1 (by simp)).1
        have g2_2 : w2.cell? ⟨w.heap.size, 2, none⟩ = some (.slice a1 x.rules.length c1) := (A2.out.2 2 (by simp)).1
        have g2_3 : w2.cell? ⟨w.heap.size, 3, none⟩ = some (.int .i64 x.token) := (A2.out.2 3 (by simp)).1
        have H : Hid (leftN x.wt left = left - ((x.name.size : Nat) : Int) - (((x.cols.length + wtS Co.wt x.cols) : Nat) : Int) - (((x.rules.length + wtS Ru.wt x.rules) : Nat) : Int)) := by unfold Hid leftN; rw [if_neg (by have := HW.out; omega)]; have := HW.out; omega
        go_wp2_with fail
        go_ret
        exact ⟨by rw [H.out]; rfl, B2.out⟩

set_option maxHeartbeats 2000000 in
theorem szTbS (a : Option Addr) (c : Nat) (xs : List Tb) (left : Int) (w : World) (hx : Sl 4 RTb 0 w a c xs) (h0 : 0 ≤ left) (h1 : left ≤ 1048576) :
    Calls Try.prog 42 #[.slice a xs.length c, .int .i64 left] w fun e w' => e = .returned (.int .i64 (leftN (xs.length + wtS Tb.wt xs) left)) ∧ Below w.heap.size w w' := by
  have hl := hx.len
  by_cases hs : left < xs.length
  · have H : Hid (leftN (xs.length + wtS Tb.wt xs) left = -1) := by unfold Hid leftN; rw [if_pos (by omega)]
    go_enter Try.func42, Try.ntmps42
    go_wp2
    go_ret
    exact ⟨by rw [H.out]; rfl, Below.refl _ _⟩
  · have hs' : (xs.length : Int) ≤ left := by omega
    have HX := Lib.hid (fun w' (hb : Below w.heap.size w w') => hx.kept goodTb (Kept.below hb))
    clear hx
    go_enter Try.func42, Try.ntmps42
    go_wp2
    go_loopw [1, 5] (fun l i wr => ∃ k : Nat, k ≤ xs.length ∧ i = .int .i64 k ∧ wtS Tb.wt (xs.take k) ≤ left - xs.length ∧ l = .int .i64 (left - xs.length - wtS Tb.wt (xs.take k)) ∧ Below w.heap.size w wr) (fun _ i _ => xs.length - (intOf i).toNat)
    case atStart => exact ⟨0, Nat.zero_le _, rfl, by simp [wtS]; omega, by simp [wtS], Below.refl _ _⟩
    case round =>
      obtain ⟨k, hk, rfl, hsm, rfl, hb⟩ := hrel
      by_cases hlt : k < xs.length
      · obtain ⟨b, off, vs, rfl, hbl, hcs, hR⟩ := (HX.out _ hb).spot hlt
        have HR := hR
        obtain ⟨a0, c0, a1, c1, rfl, _⟩ := hR
        have hc0 : wr.cell? ⟨b, off + k * 4, none⟩ = some (.string xs[k].name) := hcs 0 (by simp)
        have hc1 : wr.cell? ⟨b, off + k * 4 + 1, none⟩ = some (.slice a0 xs[k].cols.length c0) := hcs 1 (by simp)
        have hc2 : wr.cell? ⟨b, off + k * 4 + 2, none⟩ = some (.slice a1 xs[k].rules.length c1) := hcs 2 (by simp)
        have hc3 : wr.cell? ⟨b, off + k * 4 + 3, none⟩ = some (.int .i64 xs[k].token) := hcs 3 (by simp)
        have HT := Lib.hid (wtS_take Tb.wt xs k hlt)
        have HL := Lib.hid (wtS_le Tb.wt xs (k + 1))
        have HK := Lib.hid HR
        clear HR hcs
        go_wp2_with fail
        refine (szTb _ xs[k] (left - xs.length - wtS Tb.wt (xs.take k)) _ HK.out (by omega) (by omega)).mono ?_
        by_cases hle : left - xs.length - wtS Tb.wt (xs.take k) < xs[k].wt
        · rw [show leftN xs[k].wt (left - xs.length - wtS Tb.wt (xs.take k)) = -1 from if_pos hle]
          rintro e w2 ⟨rfl, hb2⟩
          have H : Hid (leftN (xs.length + wtS Tb.wt xs) left = -1) := by unfold Hid leftN; rw [if_pos (by have := HT.out; have := HL.out; omega)]
          go_wp2_with fail
          go_ret
          exact ⟨by rw [H.out]; rfl, hb.trans (hb2.mono hb.size)⟩
        · rw [show leftN xs[k].wt (left - xs.length - wtS Tb.wt (xs.take k)) = left - xs.length - wtS Tb.wt (xs.take k) - xs[k].wt from if_neg hle]
          rintro e w2 ⟨rfl, hb2⟩
          go_wp2_with fail
          go_roundw
          case rel => exact ⟨k + 1, by omega, by go_num, by have := HT.out; omega, by rw [HT.out]; go_num, hb.trans (hb2.mono hb.size)⟩
          case measure => simp [intOf]; omega
      · obtain rfl : k = xs.length := by omega
        have H : Hid (leftN (xs.length + wtS Tb.wt xs) left = left - xs.length - wtS Tb.wt xs) := by
          unfold Hid leftN; rw [List.take_length] at hsm; rw [if_neg (by omega)]; omega
        go_wp2_with fail
        go_ret
        exact ⟨by rw [H.out, List.take_length]; rfl, hb⟩

end Go.Proofs.Ytefjjcoaeanagaa
