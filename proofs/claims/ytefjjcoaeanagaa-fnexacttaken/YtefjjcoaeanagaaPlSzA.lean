/- The laws' own helpers over schemas (the size that is left): Labels, Seq. Written by tools/gen_plan.py. -/
import Derived.Test.YtefjjcoaeanagaaDat2
import Derived.Test.YtefjjcoaeanagaaPl
namespace Go.Proofs.Ytefjjcoaeanagaa
open Go.RowKit

set_option maxHeartbeats 2000000 in
theorem szLab (vs : List Value) (x : Lab) (left : Int) (w : World) (hR : RLab 0 w vs x) (h0 : 0 ≤ left) (h1 : left ≤ 1048576) :
    Calls Try.prog 81 #[.agg vs.toArray, .int .i64 left] w fun e w' => e = .returned (.int .i64 (leftN x.wt left)) ∧ Below w.heap.size w w' := by
  obtain ⟨a0, c0, rfl, hfit, k0⟩ := hR
  have t_name : x.name.size ≤ 9223372036854775807 := by have : x.name.size ≤ maxLen := hfit; unfold maxLen at this; omega
  have K0 := Lib.hid (fun w' (hb : Below w.heap.size w w') => k0.kept (Kept.below hb))
  clear k0
  have HW := Lib.hid (show x.wt = x.name.size + (x.list.length + lets x.list) from rfl)
  go_enter Try.func81, Try.ntmps81
  by_cases q0 : left < ((x.name.size : Nat) : Int)
  · have H : Hid (leftN x.wt left = -1) := by unfold Hid leftN; rw [if_pos (by have := HW.out; omega)]
    have d0 : decide (left - ((x.name.size : Nat) : Int) < 0) = true := by simp; omega
    go_wp2_with fail
    go_ret
    exact ⟨by rw [H.out]; rfl, (Below.refl _ _).alloc (Nat.le_refl _) _⟩
  · have d0 : decide (left - ((x.name.size : Nat) : Int) < 0) = false := by simp; omega
    go_wp2_with fail
    refine (szSs a0 c0 x.list (left - ((x.name.size : Nat) : Int)) _ (K0.out _ ?_) (by omega) (by omega)).mono ?_
    · exact (Below.refl _ _).alloc (Nat.le_refl _) _
    by_cases q1 : left - ((x.name.size : Nat) : Int) < (((x.list.length + lets x.list) : Nat) : Int)
    · have H : Hid (leftN x.wt left = -1) := by unfold Hid leftN; rw [if_pos (by have := HW.out; omega)]
      rw [show leftN (x.list.length + lets x.list) (left - ((x.name.size : Nat) : Int)) = -1 from if_pos q1]
      rintro e w1 ⟨rfl, b1⟩
      have B1 := Lib.hid (Below.call b1 ((Below.refl _ _).alloc (Nat.le_refl _) _))
      clear b1
      go_wp2_with fail
      go_ret
      exact ⟨by rw [H.out]; rfl, B1.out⟩
    · have d1 : decide (left - ((x.name.size : Nat) : Int) - (((x.list.length + lets x.list) : Nat) : Int) < 0) = false := by simp; omega
      rw [show leftN (x.list.length + lets x.list) (left - ((x.name.size : Nat) : Int)) = left - ((x.name.size : Nat) : Int) - (((x.list.length + lets x.list) : Nat) : Int) from if_neg q1]
      rintro e w1 ⟨rfl, b1⟩
      have B1 := Lib.hid (Below.call b1 ((Below.refl _ _).alloc (Nat.le_refl _) _))
      have A1 := Lib.hid (Blk.call b1 (blk_new w _ [.string x.name, .slice a0 x.list.length c0]))
      clear b1
      have g1_0 : w1.cell? ⟨w.heap.size, 0, none⟩ = some (.string x.name) := (A1.out.2 0 (by simp)).1
      have g1_1 : w1.cell? ⟨w.heap.size, 1, none⟩ = some (.slice a0 x.list.length c0) := (A1.out.2 1 (by simp)).1
      have H : Hid (leftN x.wt left = left - ((x.name.size : Nat) : Int) - (((x.list.length + lets x.list) : Nat) : Int)) := by unfold Hid leftN; rw [if_neg (by have := HW.out; omega)]; have := HW.out; omega
      go_wp2_with fail
      go_ret
      exact ⟨by rw [H.out]; rfl, B1.out⟩

set_option maxHeartbeats 2000000 in
theorem szLabS (a : Option Addr) (c : Nat) (xs : List Lab) (left : Int) (w : World) (hx : Sl 2 RLab 0 w a c xs) (h0 : 0 ≤ left) (h1 : left ≤ 1048576) :
    Calls Try.prog 40 #[.slice a xs.length c, .int .i64 left] w fun e w' => e = .returned (.int .i64 (leftN (xs.length + wtS Lab.wt xs) left)) ∧ Below w.heap.size w w' := by
  have hl := hx.len
  by_cases hs : left < xs.length
  · have H : Hid (leftN (xs.length + wtS Lab.wt xs) left = -1) := by unfold Hid leftN; rw [if_pos (by omega)]
    go_enter Try.func40, Try.ntmps40
    go_wp2
    go_ret
    exact ⟨by rw [H.out]; rfl, Below.refl _ _⟩
  · have hs' : (xs.length : Int) ≤ left := by omega
    have HX := Lib.hid (fun w' (hb : Below w.heap.size w w') => hx.kept goodLab (Kept.below hb))
    clear hx
    go_enter Try.func40, Try.ntmps40
    go_wp2
    go_loopw [1, 5] (fun l i wr => ∃ k : Nat, k ≤ xs.length ∧ i = .int .i64 k ∧ wtS Lab.wt (xs.take k) ≤ left - xs.length ∧ l = .int .i64 (left - xs.length - wtS Lab.wt (xs.take k)) ∧ Below w.heap.size w wr) (fun _ i _ => xs.length - (intOf i).toNat)
    case atStart => exact ⟨0, Nat.zero_le _, rfl, by simp [wtS]; omega, by simp [wtS], Below.refl _ _⟩
    case round =>
      obtain ⟨k, hk, rfl, hsm, rfl, hb⟩ := hrel
      by_cases hlt : k < xs.length
      · obtain ⟨b, off, vs, rfl, hbl, hcs, hR⟩ := (HX.out _ hb).spot hlt
        have HR := hR
        obtain ⟨a0, c0, rfl, _⟩ := hR
        have hc0 : wr.cell? ⟨b, off + k * 2, none⟩ = some (.string xs[k].name) := hcs 0 (by simp)
        have hc1 : wr.cell? ⟨b, off + k * 2 + 1, none⟩ = some (.slice a0 xs[k].list.length c0) := hcs 1 (by simp)
        have HT := Lib.hid (wtS_take Lab.wt xs k hlt)
        have HL := Lib.hid (wtS_le Lab.wt xs (k + 1))
        have HK := Lib.hid HR
        clear HR hcs
        go_wp2_with fail
        refine (szLab _ xs[k] (left - xs.length - wtS Lab.wt (xs.take k)) _ HK.out (by omega) (by omega)).mono ?_
        by_cases hle : left - xs.length - wtS Lab.wt (xs.take k) < xs[k].wt
        · rw [show leftN xs[k].wt (left - xs.length - wtS Lab.wt (xs.take k)) = -1 from if_pos hle]
          rintro e w2 ⟨rfl, hb2⟩
          have H : Hid (leftN (xs.length + wtS Lab.wt xs) left = -1) := by unfold Hid leftN; rw [if_pos (by have := HT.out; have := HL.out; omega)]
          go_wp2_with fail
          go_ret
          exact ⟨by rw [H.out]; rfl, hb.trans (hb2.mono hb.size)⟩
        · rw [show leftN xs[k].wt (left - xs.length - wtS Lab.wt (xs.take k)) = left - xs.length - wtS Lab.wt (xs.take k) - xs[k].wt from if_neg hle]
          rintro e w2 ⟨rfl, hb2⟩
          go_wp2_with fail
          go_roundw
          case rel => exact ⟨k + 1, by omega, by go_num, by have := HT.out; omega, by rw [HT.out]; go_num, hb.trans (hb2.mono hb.size)⟩
          case measure => simp [intOf]; omega
      · obtain rfl : k = xs.length := by omega
        have H : Hid (leftN (xs.length + wtS Lab.wt xs) left = left - xs.length - wtS Lab.wt xs) := by
          unfold Hid leftN; rw [List.take_length] at hsm; rw [if_neg (by omega)]; omega
        go_wp2_with fail
        go_ret
        exact ⟨by rw [H.out, List.take_length]; rfl, hb⟩

set_option maxHeartbeats 2000000 in
theorem szSq (vs : List Value) (x : Sq) (left : Int) (w : World) (hR : RSq 0 w vs x) (h0 : 0 ≤ left) (h1 : left ≤ 1048576) :
    Calls Try.prog 82 #[.agg vs.toArray, .int .i64 left] w fun e w' => e = .returned (.int .i64 (leftN x.wt left)) ∧ Below w.heap.size w w' := by
  obtain ⟨rfl, hfit⟩ := hR
  have t_name : x.name.size ≤ 9223372036854775807 := by have : x.name.size ≤ maxLen := hfit.1; unfold maxLen at this; omega
  have HW := Lib.hid (show x.wt = x.name.size from rfl)
  go_enter Try.func82, Try.ntmps82
  by_cases q0 : left < ((x.name.size : Nat) : Int)
  · have H : Hid (leftN x.wt left = -1) := by unfold Hid leftN; rw [if_pos (by have := HW.out; omega)]
    have d0 : decide (left - ((x.name.size : Nat) : Int) < 0) = true := by simp; omega
    go_wp2_with fail
    go_ret
    exact ⟨by rw [H.out]; rfl, (Below.refl _ _).alloc (Nat.le_refl _) _⟩
  · have d0 : decide (left - ((x.name.size : Nat) : Int) < 0) = false := by simp; omega
    have H : Hid (leftN x.wt left = left - ((x.name.size : Nat) : Int)) := by unfold Hid leftN; rw [if_neg (by have := HW.out; omega)]; have := HW.out; omega
    go_wp2_with fail
    go_ret
    exact ⟨by rw [H.out]; rfl, (Below.refl _ _).alloc (Nat.le_refl _) _⟩

set_option maxHeartbeats 2000000 in
theorem szSqS (a : Option Addr) (c : Nat) (xs : List Sq) (left : Int) (w : World) (hx : Sl 2 RSq 0 w a c xs) (h0 : 0 ≤ left) (h1 : left ≤ 1048576) :
    Calls Try.prog 41 #[.slice a xs.length c, .int .i64 left] w fun e w' => e = .returned (.int .i64 (leftN (xs.length + wtS Sq.wt xs) left)) ∧ Below w.heap.size w w' := by
  have hl := hx.len
  by_cases hs : left < xs.length
  · have H : Hid (leftN (xs.length + wtS Sq.wt xs) left = -1) := by unfold Hid leftN; rw [if_pos (by omega)]
    go_enter Try.func41, Try.ntmps41
    go_wp2
    go_ret
    exact ⟨by rw [H.out]; rfl, Below.refl _ _⟩
  · have hs' : (xs.length : Int) ≤ left := by omega
    have HX := Lib.hid (fun w' (hb : Below w.heap.size w w') => hx.kept goodSq (Kept.below hb))
    clear hx
    go_enter Try.func41, Try.ntmps41
    go_wp2
    go_loopw [1, 5] (fun l i wr => ∃ k : Nat, k ≤ xs.length ∧ i = .int .i64 k ∧ wtS Sq.wt (xs.take k) ≤ left - xs.length ∧ l = .int .i64 (left - xs.length - wtS Sq.wt (xs.take k)) ∧ Below w.heap.size w wr) (fun _ i _ => xs.length - (intOf i).toNat)
    case atStart => exact ⟨0, Nat.zero_le _, rfl, by simp [wtS]; omega, by simp [wtS], Below.refl _ _⟩
    case round =>
      obtain ⟨k, hk, rfl, hsm, rfl, hb⟩ := hrel
      by_cases hlt : k < xs.length
      · obtain ⟨b, off, vs, rfl, hbl, hcs, hR⟩ := (HX.out _ hb).spot hlt
        have HR := hR
        obtain ⟨rfl, _⟩ := hR
        have hc0 : wr.cell? ⟨b, off + k * 2, none⟩ = some (.string xs[k].name) := hcs 0 (by simp)
        have hc1 : wr.cell? ⟨b, off + k * 2 + 1, none⟩ = some (.int .i64 xs[k].start) := hcs 1 (by simp)
        have HT := Lib.hid (wtS_take Sq.wt xs k hlt)
        have HL := Lib.hid (wtS_le Sq.wt xs (k + 1))
        have HK := Lib.hid HR
        clear HR hcs
        go_wp2_with fail
        refine (szSq _ xs[k] (left - xs.length - wtS Sq.wt (xs.take k)) _ HK.out (by omega) (by omega)).mono ?_
        by_cases hle : left - xs.length - wtS Sq.wt (xs.take k) < xs[k].wt
        · rw [show leftN xs[k].wt (left - xs.length - wtS Sq.wt (xs.take k)) = -1 from if_pos hle]
          rintro e w2 ⟨rfl, hb2⟩
          have H : Hid (leftN (xs.length + wtS Sq.wt xs) left = -1) := by unfold Hid leftN; rw [if_pos (by have := HT.out; have := HL.out; omega)]
          go_wp2_with fail
          go_ret
          exact ⟨by rw [H.out]; rfl, hb.trans (hb2.mono hb.size)⟩
        · rw [show leftN xs[k].wt (left - xs.length - wtS Sq.wt (xs.take k)) = left - xs.length - wtS Sq.wt (xs.take k) - xs[k].wt from if_neg hle]
          rintro e w2 ⟨rfl, hb2⟩
          go_wp2_with fail
          go_roundw
          case rel => exact ⟨k + 1, by omega, by go_num, by have := HT.out; omega, by rw [HT.out]; go_num, hb.trans (hb2.mono hb.size)⟩
          case measure => simp [intOf]; omega
      · obtain rfl : k = xs.length := by omega
        have H : Hid (leftN (xs.length + wtS Sq.wt xs) left = left - xs.length - wtS Sq.wt xs) := by
          unfold Hid leftN; rw [List.take_length] at hsm; rw [if_neg (by omega)]; omega
        go_wp2_with fail
        go_ret
        exact ⟨by rw [H.out, List.take_length]; rfl, hb⟩

end Go.Proofs.Ytefjjcoaeanagaa
