/- The laws' own helpers over schemas (the size that is left): Index, View. Written by tools/gen_plan.py. -/
/- The laws' own helpers over schemas (the size that is left): Plan. Written by tools/gen_plan.py. -/
/- The laws' own helpers over schemas (the copy): Labels, Seq. Written by tools/gen_plan.py. -/
/- The laws' own helpers over schemas (the copy): Col. Written by tools/gen_plan.py. -/
import Derived.Test.YtjjdcdnaonfnmaaGreatMTyp2
import Derived.Test.YtjjdcdnaonfnmaaGreatMDatU
import Derived.Test.YtjjdcdnaonfnmaaGreatMPlMkE
namespace Go.Proofs.YtjjdcdnaonfnmaaGreat
open Go.RowKit

set_option maxHeartbeats 2000000 in
theorem szIx (vs : List Value) (x : Ix) (left : Int) (w : World) (hR : RIx 0 w vs x) (h0 : 0 ≤ left) (h1 : left ≤ 1048576) :
    Calls Tryz.prog 68 #[.agg vs.toArray, .int .i64 left] w fun e w' => e = .returned (.int .i64 (leftN x.wt left)) ∧ Below w.heap.size w w' := by
  obtain ⟨a0, c0, rfl, hfit, k0⟩ := hR
  have t_name : x.name.size ≤ 9223372036854775807 := by have : x.name.size ≤ maxLen := hfit.1; unfold maxLen at this; omega
  have t_table : x.table.size ≤ 9223372036854775807 := by have : x.table.size ≤ maxLen := hfit.2; unfold maxLen at this; omega
  have K0 := Lib.hid (fun w' (hb : Below w.heap.size w w') => k0.kept (Kept.below hb))
  clear k0
  have HW := Lib.hid (show x.wt = x.name.size + x.table.size + (x.cols.length + lets x.cols) from rfl)
  go_enter Tryz.func68, Tryz.ntmps68
  by_cases q0 : left < ((x.name.size : Nat) : Int)
  · have H : Hid (leftN x.wt left = -1) := by unfold Hid leftN; rw [if_pos (by have := HW.out; omega)]
    have d0 : decide (left - ((x.name.size : Nat) : Int) < 0) = true := by simp; omega
    go_wp2_with fail
    go_ret
    exact ⟨by rw [H.out]; rfl, (Below.refl _ _).alloc (Nat.le_refl _) _⟩
  · have d0 : decide (left - ((x.name.size : Nat) : Int) < 0) = false := by simp; omega
    by_cases q1 : left - ((x.name.size : Nat) : Int) < ((x.table.size : Nat) : Int)
    · have H : Hid (leftN x.wt left = -1) := by unfold Hid leftN; rw [if_pos (by have := HW.out; omega)]
      have d1 : decide (left - ((x.name.size : Nat) : Int) - ((x.table.size : Nat) : Int) < 0) = true := by simp; omega
      go_wp2_with fail
      go_ret
      exact ⟨by rw [H.out]; rfl, (Below.refl _ _).alloc (Nat.le_refl _) _⟩
    · have d1 : decide (left - ((x.name.size : Nat) : Int) - ((x.table.size : Nat) : Int) < 0) = false := by simp; omega
      go_wp2_with fail
      refine (szSs a0 c0 x.cols (left - ((x.name.size : Nat) : Int) - ((x.table.size : Nat) : Int)) _ (K0.out _ ?_) (by omega) (by omega)).mono ?_
      · exact (Below.refl _ _).alloc (Nat.le_refl _) _
      by_cases q2 : left - ((x.name.size : Nat) : Int) - ((x.table.size : Nat) : Int) < (((x.cols.length + lets x.cols) : Nat) : Int)
      · have H : Hid (leftN x.wt left = -1) := by unfold Hid leftN; rw [if_pos (by have := HW.out; omega)]
        rw [show leftN (x.cols.length + lets x.cols) (left - ((x.name.size : Nat) : Int) - ((x.table.size : Nat) : Int)) = -1 from if_pos q2]
        rintro e w2 ⟨rfl, b2⟩
        have B2 := Lib.hid (Below.call b2 ((Below.refl _ _).alloc (Nat.le_refl _) _))
        clear b2
        go_wp2_with fail
        go_ret
        exact ⟨by rw [H.out]; rfl, B2.out⟩
      · have d2 : decide (left - ((x.name.size : Nat) : Int) - ((x.table.size : Nat) : Int) - (((x.cols.length + lets x.cols) : Nat) : Int) < 0) = false := by simp; omega
        rw [show leftN (x.cols.length + lets x.cols) (left - ((x.name.size : Nat) : Int) - ((x.table.size : Nat) : Int)) = left - ((x.name.size : Nat) : Int) - ((x.table.size : Nat) : Int) - (((x.cols.length + lets x.cols) : Nat) : Int) from if_neg q2]
        rintro e w2 ⟨rfl, b2⟩
        have B2 := Lib.hid (Below.call b2 ((Below.refl _ _).alloc (Nat.le_refl _) _))
        have A2 := Lib.hid (Blk.call b2 (blk_new w _ [.string x.name, .string x.table, .slice a0 x.cols.length c0, .bool x.uniq]))
        clear b2
        have g2_0 : w2.cell? ⟨w.heap.size, 0, none⟩ = some (.string x.name) := (A2.out.2 0 (by simp)).1
        have g2_1 : w2.cell? ⟨w.heap.size, 1, none⟩ = some (.string x.table) := (A2.out.2 1 (by simp)).1
        have g2_2 : w2.cell? ⟨w.heap.size, 2, none⟩ = some (.slice a0 x.cols.length c0) := (A2.out.2 2 (by simp)).1
        have g2_3 : w2.cell? ⟨w.heap.size, 3, none⟩ = some (.bool x.uniq) := (A2.out.2 3 (by simp)).1
        have H : Hid (leftN x.wt left = left - ((x.name.size : Nat) : Int) - ((x.table.size : Nat) : Int) - (((x.cols.length + lets x.cols) : Nat) : Int)) := by unfold Hid leftN; rw [if_neg (by have := HW.out; omega)]; have := HW.out; omega
        go_wp2_with fail
        go_ret
        exact ⟨by rw [H.out]; rfl, B2.out⟩

set_option maxHeartbeats 2000000 in
theorem szIxS (a : Option Addr) (c : Nat) (xs : List Ix) (left : Int) (w : World) (hx : Sl 4 RIx 0 w a c xs) (h0 : 0 ≤ left) (h1 : left ≤ 1048576) :
    Calls Tryz.prog 22 #[.slice a xs.length c, .int .i64 left] w fun e w' => e = .returned (.int .i64 (leftN (xs.length + wtS Ix.wt xs) left)) ∧ Below w.heap.size w w' := by
  have hl := hx.len
  by_cases hs : left < xs.length
  · have H : Hid (leftN (xs.length + wtS Ix.wt xs) left = -1) := by unfold Hid leftN; rw [if_pos (by omega)]
    go_enter Tryz.func22, Tryz.ntmps22
    go_wp2
    go_ret
    exact ⟨by rw [H.out]; rfl, Below.refl _ _⟩
  · have hs' : (xs.length : Int) ≤ left := by omega
    have HX := Lib.hid (fun w' (hb : Below w.heap.size w w') => hx.kept goodIx (Kept.below hb))
    clear hx
    go_enter Tryz.func22, Tryz.ntmps22
    go_wp2
    go_loopw [1, 5] (fun l i wr => ∃ k : Nat, k ≤ xs.length ∧ i = .int .i64 k ∧ wtS Ix.wt (xs.take k) ≤ left - xs.length ∧ l = .int .i64 (left - xs.length - wtS Ix.wt (xs.take k)) ∧ Below w.heap.size w wr) (fun _ i _ => xs.length - (intOf i).toNat)
    case atStart => exact ⟨0, Nat.zero_le _, rfl, by simp [wtS]; omega, by simp [wtS], Below.refl _ _⟩
    case round =>
      obtain ⟨k, hk, rfl, hsm, rfl, hb⟩ := hrel
      by_cases hlt : k < xs.length
      · obtain ⟨b, off, vs, rfl, hbl, hcs, hR⟩ := (HX.out _ hb).spot hlt
        have HR := hR
        obtain ⟨a0, c0, rfl, _⟩ := hR
        have hc0 : wr.cell? ⟨b, off + k * 4, none⟩ = some (.string xs[k].name) := hcs 0 (by simp)
        have hc1 : wr.cell? ⟨b, off + k * 4 + 1, none⟩ = some (.string xs[k].table) := hcs 1 (by simp)
        have hc2 : wr.cell? ⟨b, off + k * 4 + 2, none⟩ = some (.slice a0 xs[k].cols.length c0) := hcs 2 (by simp)
        have hc3 : wr.cell? ⟨b, off + k * 4 + 3, none⟩ = some (.bool xs[k].uniq) := hcs 3 (by simp)
        have HT := Lib.hid (wtS_take Ix.wt xs k hlt)
        have HL := Lib.hid (wtS_le Ix.wt xs (k + 1))
        have HK := Lib.hid HR
        clear HR hcs
        go_wp2_with fail
        refine (szIx _ xs[k] (left - xs.length - wtS Ix.wt (xs.take k)) _ HK.out (by omega) (by omega)).mono ?_
        by_cases hle : left - xs.length - wtS Ix.wt (xs.take k) < xs[k].wt
        · rw [show leftN xs[k].wt (left - xs.length - wtS Ix.wt (xs.take k)) = -1 from if_pos hle]
          rintro e w2 ⟨rfl, hb2⟩
          have H : Hid (leftN (xs.length + wtS Ix.wt xs) left = -1) := by unfold Hid leftN; rw [if_pos (by have := HT.out; have := HL.out; omega)]
          go_wp2_with fail
          go_ret
          exact ⟨by rw [H.out]; rfl, hb.trans (hb2.mono hb.size)⟩
        · rw [show leftN xs[k].wt (left - xs.length - wtS Ix.wt (xs.take k)) = left - xs.length - wtS Ix.wt (xs.take k) - xs[k].wt from if_neg hle]
          rintro e w2 ⟨rfl, hb2⟩
          go_wp2_with fail
          go_roundw
          case rel => exact ⟨k + 1, by omega, by go_num, by have := HT.out; omega, by rw [HT.out]; go_num, hb.trans (hb2.mono hb.size)⟩
          case measure => simp [intOf]; omega
      · obtain rfl : k = xs.length := by omega
        have H : Hid (leftN (xs.length + wtS Ix.wt xs) left = left - xs.length - wtS Ix.wt xs) := by
          unfold Hid leftN; rw [List.take_length] at hsm; rw [if_neg (by omega)]; omega
        go_wp2_with fail
        go_ret
        exact ⟨by rw [H.out, List.take_length]; rfl, hb⟩

set_option maxHeartbeats 2000000 in
theorem szVw (vs : List Value) (x : Vw) (left : Int) (w : World) (hR : RVw 0 w vs x) (h0 : 0 ≤ left) (h1 : left ≤ 1048576) :
    Calls Tryz.prog 69 #[.agg vs.toArray, .int .i64 left] w fun e w' => e = .returned (.int .i64 (leftN x.wt left)) ∧ Below w.heap.size w w' := by
  obtain ⟨a0, c0, a1, c1, rfl, hfit, k0, k1⟩ := hR
  have t_name : x.name.size ≤ 9223372036854775807 := by have : x.name.size ≤ maxLen := hfit.1; unfold maxLen at this; omega
  have t_table : x.table.size ≤ 9223372036854775807 := by have : x.table.size ≤ maxLen := hfit.2; unfold maxLen at this; omega
  have K0 := Lib.hid (fun w' (hb : Below w.heap.size w w') => k0.kept (Kept.below hb))
  clear k0
  have K1 := Lib.hid (fun w' (hb : Below w.heap.size w w') => k1.kept (Kept.below hb))
  clear k1
  have HW := Lib.hid (show x.wt = x.name.size + x.table.size + (x.cols.length + lets x.cols) + (x.whr.length + wtL x.whr) from rfl)
  go_enter Tryz.func69, Tryz.ntmps69
  by_cases q0 : left < ((x.name.size : Nat) : Int)
  · have H : Hid (leftN x.wt left = -1) := by unfold Hid leftN; rw [if_pos (by have := HW.out; omega)]
    have d0 : decide (left - ((x.name.size : Nat) : Int) < 0) = true := by simp; omega
    go_wp2_with fail
    go_ret
    exact ⟨by rw [H.out]; rfl, (Below.refl _ _).alloc (Nat.le_refl _) _⟩
  · have d0 : decide (left - ((x.name.size : Nat) : Int) < 0) = false := by simp; omega
    by_cases q1 : left - ((x.name.size : Nat) : Int) < ((x.table.size : Nat) : Int)
    · have H : Hid (leftN x.wt left = -1) := by unfold Hid leftN; rw [if_pos (by have := HW.out; omega)]
      have d1 : decide (left - ((x.name.size : Nat) : Int) - ((x.table.size : Nat) : Int) < 0) = true := by simp; omega
      go_wp2_with fail
      go_ret
      exact ⟨by rw [H.out]; rfl, (Below.refl _ _).alloc (Nat.le_refl _) _⟩
    · have d1 : decide (left - ((x.name.size : Nat) : Int) - ((x.table.size : Nat) : Int) < 0) = false := by simp; omega
      go_wp2_with fail
      refine (szSs a0 c0 x.cols (left - ((x.name.size : Nat) : Int) - ((x.table.size : Nat) : Int)) _ (K0.out _ ?_) (by omega) (by omega)).mono ?_
      · exact (Below.refl _ _).alloc (Nat.le_refl _) _
      by_cases q2 : left - ((x.name.size : Nat) : Int) - ((x.table.size : Nat) : Int) < (((x.cols.length + lets x.cols) : Nat) : Int)
      · have H : Hid (leftN x.wt left = -1) := by unfold Hid leftN; rw [if_pos (by have := HW.out; omega)]
        rw [show leftN (x.cols.length + lets x.cols) (left - ((x.name.size : Nat) : Int) - ((x.table.size : Nat) : Int)) = -1 from if_pos q2]
        rintro e w2 ⟨rfl, b2⟩
        have B2 := Lib.hid (Below.call b2 ((Below.refl _ _).alloc (Nat.le_refl _) _))
        clear b2
        go_wp2_with fail
        go_ret
        exact ⟨by rw [H.out]; rfl, B2.out⟩
      · have d2 : decide (left - ((x.name.size : Nat) : Int) - ((x.table.size : Nat) : Int) - (((x.cols.length + lets x.cols) : Nat) : Int) < 0) = false := by simp; omega
        rw [show leftN (x.cols.length + lets x.cols) (left - ((x.name.size : Nat) : Int) - ((x.table.size : Nat) : Int)) = left - ((x.name.size : Nat) : Int) - ((x.table.size : Nat) : Int) - (((x.cols.length + lets x.cols) : Nat) : Int) from if_neg q2]
        rintro e w2 ⟨rfl, b2⟩
        have B2 := Lib.hid (Below.call b2 ((Below.refl _ _).alloc (Nat.le_refl _) _))
        have A2 := Lib.hid (Blk.call b2 (blk_new w _ [.string x.name, .string x.table, .slice a0 x.cols.length c0, .slice a1 x.whr.length c1]))
        clear b2
        have g2_0 : w2.cell? ⟨w.heap.size, 0, none⟩ = some (.string x.name) := (A2.out.2 0 (by simp)).1
        have g2_1 : w2.cell? ⟨w.heap.size, 1, none⟩ = some (.string x.table) := (A2.out.2 1 (by simp)).1
        have g2_2 : w2.cell? ⟨w.heap.size, 2, none⟩ = some (.slice a0 x.cols.length c0) := (A2.out.2 2 (by simp)).1
        have g2_3 : w2.cell? ⟨w.heap.size, 3, none⟩ = some (.slice a1 x.whr.length c1) := (A2.out.2 3 (by simp)).1
        go_wp2_with fail
        refine (szKs a1 c1 x.whr (left - ((x.name.size : Nat) : Int) - ((x.table.size : Nat) : Int) - (((x.cols.length + lets x.cols) : Nat) : Int)) _ (K1.out _ ?_) (by omega) (by omega)).mono ?_
        · exact B2.out
        by_cases q3 : left - ((x.name.size : Nat) : Int) - ((x.table.size : Nat) : Int) - (((x.cols.length + lets x.cols) : Nat) : Int) < (((x.whr.length + wtL x.whr) : Nat) : Int)
        · have H : Hid (leftN x.wt left = -1) := by unfold Hid leftN; rw [if_pos (by have := HW.out; omega)]
          rw [show leftN (x.whr.length + wtL x.whr) (left - ((x.name.size : Nat) : Int) - ((x.table.size : Nat) : Int) - (((x.cols.length + lets x.cols) : Nat) : Int)) = -1 from if_pos q3]
          rintro e w3 ⟨rfl, b3⟩
          have B3 := Lib.hid (Below.call b3 B2.out)
          clear b3
          go_wp2_with fail
          go_ret
          exact ⟨by rw [H.out]; rfl, B3.out⟩
        · have d3 : decide (left - ((x.name.size : Nat) : Int) - ((x.table.size : Nat) : Int) - (((x.cols.length + lets x.cols) : Nat) : Int) - (((x.whr.length + wtL x.whr) : Nat) : Int) < 0) = false := by simp; omega
          rw [show leftN (x.whr.length + wtL x.whr) (left - ((x.name.size : Nat) : Int) - ((x.table.size : Nat) : Int) - (((x.cols.length + lets x.cols) : Nat) : Int)) = left - ((x.name.size : Nat) : Int) - ((x.table.size : Nat) : Int) - (((x.cols.length + lets x.cols) : Nat) : Int) - (((x.whr.length + wtL x.whr) : Nat) : Int) from if_neg q3]
          rintro e w3 ⟨rfl, b3⟩
          have B3 := Lib.hid (Below.call b3 B2.out)
          have A3 := Lib.hid (Blk.call b3 A2.out)
          clear b3
          clear g2_0 g2_1 g2_2 g2_3
          have g3_0 : w3.cell? ⟨w.heap.size, 0, none⟩ = some (.string x.name) := (A3.out.2 0 (by simp)).1
          have g3_1 : w3.cell? ⟨w.heap.size, 1, none⟩ = some (.string x.table) := (A3.out.2 1 (by simp)).1
          have g3_2 : w3.cell? ⟨w.heap.size, 2, none⟩ = some (.slice a0 x.cols.length c0) := (A3.out.2 2 (by simp)).1
          have g3_3 : w3.cell? ⟨w.heap.size, 3, none⟩ = some (.slice a1 x.whr.length c1) := (A3.out.2 3 (by simp)).1
          have H : Hid (leftN x.wt left = left - ((x.name.size : Nat) : Int) - ((x.table.size : Nat) : Int) - (((x.cols.length + lets x.cols) : Nat) : Int) - (((x.whr.length + wtL x.whr) : Nat) : Int)) := by unfold Hid leftN; rw [if_neg (by have := HW.out; omega)]; have := HW.out; omega
          go_wp2_with fail
          go_ret
          exact ⟨by rw [H.out]; rfl, B3.out⟩

set_option maxHeartbeats 2000000 in
theorem szVwS (a : Option Addr) (c : Nat) (xs : List Vw) (left : Int) (w : World) (hx : Sl 4 RVw 0 w a c xs) (h0 : 0 ≤ left) (h1 : left ≤ 1048576) :
    Calls Tryz.prog 23 #[.slice a xs.length c, .int .i64 left] w fun e w' => e = .returned (.int .i64 (leftN (xs.length + wtS Vw.wt xs) left)) ∧ Below w.heap.size w w' := by
  have hl := hx.len
  by_cases hs : left < xs.length
  · have H : Hid (leftN (xs.length + wtS Vw.wt xs) left = -1) := by unfold Hid leftN; rw [if_pos (by omega)]
    go_enter Tryz.func23, Tryz.ntmps23
    go_wp2
    go_ret
    exact ⟨by rw [H.out]; rfl, Below.refl _ _⟩
  · have hs' : (xs.length : Int) ≤ left := by omega
    have HX := Lib.hid (fun w' (hb : Below w.heap.size w w') => hx.kept goodVw (Kept.below hb))
    clear hx
    go_enter Tryz.func23, Tryz.ntmps23
    go_wp2
    go_loopw [1, 5] (fun l i wr => ∃ k : Nat, k ≤ xs.length ∧ i = .int .i64 k ∧ wtS Vw.wt (xs.take k) ≤ left - xs.length ∧ l = .int .i64 (left - xs.length - wtS Vw.wt (xs.take k)) ∧ Below w.heap.size w wr) (fun _ i _ => xs.length - (intOf i).toNat)
    case atStart => exact ⟨0, Nat.zero_le _, rfl, by simp [wtS]; omega, by simp [wtS], Below.refl _ _⟩
    case round =>
      obtain ⟨k, hk, rfl, hsm, rfl, hb⟩ := hrel
      by_cases hlt : k < xs.length
      · obtain ⟨b, off, vs, rfl, hbl, hcs, hR⟩ := (HX.out _ hb).spot hlt
        have HR := hR
        obtain ⟨a0, c0, a1, c1, rfl, _⟩ := hR
        have hc0 : wr.cell? ⟨b, off + k * 4, none⟩ = some (.string xs[k].name) := hcs 0 (by simp)
        have hc1 : wr.cell? ⟨b, off + k * 4 + 1, none⟩ = some (.string xs[k].table) := hcs 1 (by simp)
        have hc2 : wr.cell? ⟨b, off + k * 4 + 2, none⟩ = some (.slice a0 xs[k].cols.length c0) := hcs 2 (by simp)
        have hc3 : wr.cell? ⟨b, off + k * 4 + 3, none⟩ = some (.slice a1 xs[k].whr.length c1) := hcs 3 (by simp)
        have HT := Lib.hid (wtS_take Vw.wt xs k hlt)
        have HL := Lib.hid (wtS_le Vw.wt xs (k + 1))
        have HK := Lib.hid HR
        clear HR hcs
        go_wp2_with fail
        refine (szVw _ xs[k] (left - xs.length - wtS Vw.wt (xs.take k)) _ HK.out (by omega) (by omega)).mono ?_
        by_cases hle : left - xs.length - wtS Vw.wt (xs.take k) < xs[k].wt
        · rw [show leftN xs[k].wt (left - xs.length - wtS Vw.wt (xs.take k)) = -1 from if_pos hle]
          rintro e w2 ⟨rfl, hb2⟩
          have H : Hid (leftN (xs.length + wtS Vw.wt xs) left = -1) := by unfold Hid leftN; rw [if_pos (by have := HT.out; have := HL.out; omega)]
          go_wp2_with fail
          go_ret
          exact ⟨by rw [H.out]; rfl, hb.trans (hb2.mono hb.size)⟩
        · rw [show leftN xs[k].wt (left - xs.length - wtS Vw.wt (xs.take k)) = left - xs.length - wtS Vw.wt (xs.take k) - xs[k].wt from if_neg hle]
          rintro e w2 ⟨rfl, hb2⟩
          go_wp2_with fail
          go_roundw
          case rel => exact ⟨k + 1, by omega, by go_num, by have := HT.out; omega, by rw [HT.out]; go_num, hb.trans (hb2.mono hb.size)⟩
          case measure => simp [intOf]; omega
      · obtain rfl : k = xs.length := by omega
        have H : Hid (leftN (xs.length + wtS Vw.wt xs) left = left - xs.length - wtS Vw.wt xs) := by
          unfold Hid leftN; rw [List.take_length] at hsm; rw [if_neg (by omega)]; omega
        go_wp2_with fail
        go_ret
        exact ⟨by rw [H.out, List.take_length]; rfl, hb⟩

end Go.Proofs.YtjjdcdnaonfnmaaGreat

namespace Go.Proofs.YtjjdcdnaonfnmaaGreat
open Go.RowKit

set_option maxHeartbeats 2000000 in
theorem szPl (vs : List Value) (x : Pl) (left : Int) (w : World) (hR : RPl 0 w vs x) (h0 : 0 ≤ left) (h1 : left ≤ 1048576) :
    Calls Tryz.prog 6 #[.agg vs.toArray, .int .i64 left] w fun e w' => e = .returned (.int .i64 (leftN x.wt left)) ∧ Below w.heap.size w w' := by
  obtain ⟨a0, c0, a1, c1, a2, c2, a3, c3, a4, c4, rfl, hfit, k0, k1, k2, k3, k4⟩ := hR
  have K0 := Lib.hid (fun w' (hb : Below w.heap.size w w') => k0.kept goodLab (Kept.below hb))
  clear k0
  have K1 := Lib.hid (fun w' (hb : Below w.heap.size w w') => k1.kept goodSq (Kept.below hb))
  clear k1
  have K2 := Lib.hid (fun w' (hb : Below w.heap.size w w') => k2.kept goodTb (Kept.below hb))
  clear k2
  have K3 := Lib.hid (fun w' (hb : Below w.heap.size w w') => k3.kept goodIx (Kept.below hb))
  clear k3
  have K4 := Lib.hid (fun w' (hb : Below w.heap.size w w') => k4.kept goodVw (Kept.below hb))
  clear k4
  have HW := Lib.hid (show x.wt = (x.enums.length + wtS Lab.wt x.enums) + (x.seqs.length + wtS Sq.wt x.seqs) + (x.tables.length + wtS Tb.wt x.tables) + (x.indexes.length + wtS Ix.wt x.indexes) + (x.views.length + wtS Vw.wt x.views) from rfl)
  go_enter Tryz.func6, Tryz.ntmps6
  go_wp2_with fail
  refine (szLabS a0 c0 x.enums (left) _ (K0.out _ ?_) (by omega) (by omega)).mono ?_
  · exact (Below.refl _ _).alloc (Nat.le_refl _) _
  by_cases q0 : left < (((x.enums.length + wtS Lab.wt x.enums) : Nat) : Int)
  · have H : Hid (leftN x.wt left = -1) := by unfold Hid leftN; rw [if_pos (by have := HW.out; omega)]
    rw [show leftN (x.enums.length + wtS Lab.wt x.enums) (left) = -1 from if_pos q0]
    rintro e w0 ⟨rfl, b0⟩
    have B0 := Lib.hid (Below.call b0 ((Below.refl _ _).alloc (Nat.le_refl _) _))
    clear b0
    go_wp2_with fail
    go_ret
    exact ⟨by rw [H.out]; rfl, B0.out⟩
  · have d0 : decide (left - (((x.enums.length + wtS Lab.wt x.enums) : Nat) : Int) < 0) = false := by simp; omega
    rw [show leftN (x.enums.length + wtS Lab.wt x.enums) (left) = left - (((x.enums.length + wtS Lab.wt x.enums) : Nat) : Int) from if_neg q0]
    rintro e w0 ⟨rfl, b0⟩
    have B0 := Lib.hid (Below.call b0 ((Below.refl _ _).alloc (Nat.le_refl _) _))
    have A0 := Lib.hid (Blk.call b0 (blk_new w _ [.slice a0 x.enums.length c0, .slice a1 x.seqs.length c1, .slice a2 x.tables.length c2, .slice a3 x.indexes.length c3, .slice a4 x.views.length c4, .int .i64 x.next]))
    clear b0
    have g0_0 : w0.cell? ⟨w.heap.size, 0, none⟩ = some (.slice a0 x.enums.length c0) := (A0.out.2 0 (by simp)).1
    have g0_1 : w0.cell? ⟨w.heap.size, 1, none⟩ = some (.slice a1 x.seqs.length c1) := (A0.out.2 1 (by simp)).1
    have g0_2 : w0.cell? ⟨w.heap.size, 2, none⟩ = some (.slice a2 x.tables.length c2) := (A0.out.2 2 (by simp)).1
    have g0_3 : w0.cell? ⟨w.heap.size, 3, none⟩ = some (.slice a3 x.indexes.length c3) := (A0.out.2 3 (by simp)).1
    have g0_4 : w0.cell? ⟨w.heap.size, 4, none⟩ = some (.slice a4 x.views.length c4) := (A0.out.2 4 (by simp)).1
    have g0_5 : w0.cell? ⟨w.heap.size, 5, none⟩ = some (.int .i64 x.next) := (A0.out.2 5 (by simp)).1
    go_wp2_with fail
    refine (szSqS a1 c1 x.seqs (left - (((x.enums.length + wtS Lab.wt x.enums) : Nat) : Int)) _ (K1.out _ ?_) (by omega) (by omega)).mono ?_
    · exact B0.out
    by_cases q1 : left - (((x.enums.length + wtS Lab.wt x.enums) : Nat) : Int) < (((x.seqs.length + wtS Sq.wt x.seqs) : Nat) : Int)
    · have H : Hid (leftN x.wt left = -1) := by unfold Hid leftN; rw [if_pos (by have := HW.out; omega)]
      rw [show leftN (x.seqs.length + wtS Sq.wt x.seqs) (left - (((x.enums.length + wtS Lab.wt x.enums) : Nat) : Int)) = -1 from if_pos q1]
      rintro e w1 ⟨rfl, b1⟩
      have B1 := Lib.hid (Below.call b1 B0.out)
      clear b1
      go_wp2_with fail
      go_ret
      exact ⟨by rw [H.out]; rfl, B1.out⟩
    · have d1 : decide (left - (((x.enums.length + wtS Lab.wt x.enums) : Nat) : Int) - (((x.seqs.length + wtS Sq.wt x.seqs) : Nat) : Int) < 0) = false := by simp; omega
      rw [show leftN (x.seqs.length + wtS Sq.wt x.seqs) (left - (((x.enums.length + wtS Lab.wt x.enums) : Nat) : Int)) = left - (((x.enums.length + wtS Lab.wt x.enums) : Nat) : Int) - (((x.seqs.length + wtS Sq.wt x.seqs) : Nat) : Int) from if_neg q1]
      rintro e w1 ⟨rfl, b1⟩
      have B1 := Lib.hid (Below.call b1 B0.out)
      have A1 := Lib.hid (Blk.call b1 A0.out)
      clear b1
      clear g0_0 g0_1 g0_2 g0_3 g0_4 g0_5
      have g1_0 : w1.cell? ⟨w.heap.size, 0, none⟩ = some (.slice a0 x.enums.length c0) := (A1.out.2 0 (by simp)).1
      have g1_1 : w1.cell? ⟨w.heap.size, 1, none⟩ = some (.slice a1 x.seqs.length c1) := (A1.out.2 1 (by simp)).1
      have g1_2 : w1.cell? ⟨w.heap.size, 2, none⟩ = some (.slice a2 x.tables.length c2) := (A1.out.2 2 (by simp)).1
      have g1_3 : w1.cell? ⟨w.heap.size, 3, none⟩ = some (.slice a3 x.indexes.length c3) := (A1.out.2 3 (by simp)).1
      have g1_4 : w1.cell? ⟨w.heap.size, 4, none⟩ = some (.slice a4 x.views.length c4) := (A1.out.2 4 (by simp)).1
      have g1_5 : w1.cell? ⟨w.heap.size, 5, none⟩ = some (.int .i64 x.next) := (A1.out.2 5 (by simp)).1
      go_wp2_with fail
      refine (szTbS a2 c2 x.tables (left - (((x.enums.length + wtS Lab.wt x.enums) : Nat) : Int) - (((x.seqs.length + wtS Sq.wt x.seqs) : Nat) : Int)) _ (K2.out _ ?_) (by omega) (by omega)).mono ?_
      · exact B1.out
      by_cases q2 : left - (((x.enums.length + wtS Lab.wt x.enums) : Nat) : Int) - (((x.seqs.length + wtS Sq.wt x.seqs) : Nat) : Int) < (((x.tables.length + wtS Tb.wt x.tables) : Nat) : Int)
      · have H : Hid (leftN x.wt left = -1) := by unfold Hid leftN; rw [if_pos (by have := HW.out; omega)]
        rw [show leftN (x.tables.length + wtS Tb.wt x.tables) (left - (((x.enums.length + wtS Lab.wt x.enums) : Nat) : Int) - (((x.seqs.length + wtS Sq.wt x.seqs) : Nat) : Int)) = -1 from if_pos q2]
        rintro e w2 ⟨rfl, b2⟩
        have B2 := Lib.hid (Below.call b2 B1.out)
        clear b2
        go_wp2_with fail
        go_ret
        exact ⟨by rw [H.out]; rfl, B2.out⟩
      · have d2 : decide (left - (((x.enums.length + wtS Lab.wt x.enums) : Nat) : Int) - (((x.seqs.length + wtS Sq.wt x.seqs) : Nat) : Int) - (((x.tables.length + wtS Tb.wt x.tables) : Nat) : Int) < 0) = false := by simp; omega
        rw [show leftN (x.tables.length + wtS Tb.wt x.tables) (left - (((x.enums.length + wtS Lab.wt x.enums) : Nat) : Int) - (((x.seqs.length + wtS Sq.wt x.seqs) : Nat) : Int)) = left - (((x.enums.length + wtS Lab.wt x.enums) : Nat) : Int) - (((x.seqs.length + wtS Sq.wt x.seqs) : Nat) : Int) - (((x.tables.length + wtS Tb.wt x.tables) : Nat) : Int) from if_neg q2]
        rintro e w2 ⟨rfl, b2⟩
        have B2 := Lib.hid (Below.call b2 B1.out)
        have A2 := Lib.hid (Blk.call b2 A1.out)
        clear b2
        clear g1_0 g1_1 g1_2 g1_3 g1_4 g1_5
        have g2_0 : w2.cell? ⟨w.heap.size, 0, none⟩ = some (.slice a0 x.enums.length c0) := (A2.out.2 0 (by simp)).1
        have g2_1 : w2.cell? ⟨w.heap.size, 1, none⟩ = some (.slice a1 x.seqs.length c1) := (A2.out.2 1 (by simp)).1
        have g2_2 : w2.cell? ⟨w.heap.size, 2, none⟩ = some (.slice a2 x.tables.length c2) := (A2.out.2 2 (by simp)).1
        have g2_3 : w2.cell? ⟨w.heap.size, 3, none⟩ = some (.slice a3 x.indexes.length c3) := (A2.out.2 3 (by simp)).1
        have g2_4 : w2.cell? ⟨w.heap.size, 4, none⟩ = some (.slice a4 x.views.length c4) := (A2.out.2 4 (by simp)).1
        have g2_5 : w2.cell? ⟨w.heap.size, 5, none⟩ = some (.int .i64 x.next) := (A2.out.2 5 (by simp)).1
        go_wp2_with fail
        refine (szIxS a3 c3 x.indexes (left - (((x.enums.length + wtS Lab.wt x.enums) : Nat) : Int) - (((x.seqs.length + wtS Sq.wt x.seqs) : Nat) : Int) - (((x.tables.length + wtS Tb.wt x.tables) : Nat) : Int)) _ (K3.out _ ?_) (by omega) (by omega)).mono ?_
        · exact B2.out
        by_cases q3 : left - (((x.enums.length + wtS Lab.wt x.enums) : Nat) : Int) - (((x.seqs.length + wtS Sq.wt x.seqs) : Nat) : Int) - (((x.tables.length + wtS Tb.wt x.tables) : Nat) : Int) < (((x.indexes.length + wtS Ix.wt x.indexes) : Nat) : Int)
        · have H : Hid (leftN x.wt left = -1) := by unfold Hid leftN; rw [if_pos (by have := HW.out; omega)]
          rw [show leftN (x.indexes.length + wtS Ix.wt x.indexes) (left - (((x.enums.length + wtS Lab.wt x.enums) : Nat) : Int) - (((x.seqs.length + wtS Sq.wt x.seqs) : Nat) : Int) - (((x.tables.length + wtS Tb.wt x.tables) : Nat) : Int)) = -1 from if_pos q3]
          rintro e w3 ⟨rfl, b3⟩
          have B3 := Lib.hid (Below.call b3 B2.out)
          clear b3
          go_wp2_with fail
          go_ret
          exact ⟨by rw [H.out]; rfl, B3.out⟩
        · have d3 : decide (left - (((x.enums.length + wtS Lab.wt x.enums) : Nat) : Int) - (((x.seqs.length + wtS Sq.wt x.seqs) : Nat) : Int) - (((x.tables.length + wtS Tb.wt x.tables) : Nat) : Int) - (((x.indexes.length + wtS Ix.wt x.indexes) : Nat) : Int) < 0) = false := by simp; omega
          rw [show leftN (x.indexes.length + wtS Ix.wt x.indexes) (left - (((x.enums.length + wtS Lab.wt x.enums) : Nat) : Int) - (((x.seqs.length + wtS Sq.wt x.seqs) : Nat) : Int) - (((x.tables.length + wtS Tb.wt x.tables) : Nat) : Int)) = left - (((x.enums.length + wtS Lab.wt x.enums) : Nat) : Int) - (((x.seqs.length + wtS Sq.wt x.seqs) : Nat) : Int) - (((x.tables.length + wtS Tb.wt x.tables) : Nat) : Int) - (((x.indexes.length + wtS Ix.wt x.indexes) : Nat) : Int) from if_neg q3]
          rintro e w3 ⟨rfl, b3⟩
          have B3 := Lib.hid (Below.call b3 B2.out)
          have A3 := Lib.hid (Blk.call b3 A2.out)
          clear b3
          clear g2_0 g2_1 g2_2 g2_3 g2_4 g2_5
          have g3_0 : w3.cell? ⟨w.heap.size, 0, none⟩ = some (.slice a0 x.enums.length c0) := (A3.out.2 0 (by simp)).1
          have g3_1 : w3.cell? ⟨w.heap.size, 1, none⟩ = some (.slice a1 x.seqs.length c1) := (A3.out.2 1 (by simp)).1
          have g3_2 : w3.cell? ⟨w.heap.size, 2, none⟩ = some (.slice a2 x.tables.length c2) := (A3.out.2 2 (by simp)).1
          have g3_3 : w3.cell? ⟨w.heap.size, 3, none⟩ = some (.slice a3 x.indexes.length c3) := (A3.out.2 3 (by simp)).1
          have g3_4 : w3.cell? ⟨w.heap.size, 4, none⟩ = some (.slice a4 x.views.length c4) := (A3.out.2 4 (by simp)).1
          have g3_5 : w3.cell? ⟨w.heap.size, 5, none⟩ = some (.int .i64 x.next) := (A3.out.2 5 (by simp)).1
          go_wp2_with fail
          refine (szVwS a4 c4 x.views (left - (((x.enums.length + wtS Lab.wt x.enums) : Nat) : Int) - (((x.seqs.length + wtS Sq.wt x.seqs) : Nat) : Int) - (((x.tables.length + wtS Tb.wt x.tables) : Nat) : Int) - (((x.indexes.length + wtS Ix.wt x.indexes) : Nat) : Int)) _ (K4.out _ ?_) (by omega) (by omega)).mono ?_
          · exact B3.out
          by_cases q4 : left - (((x.enums.length + wtS Lab.wt x.enums) : Nat) : Int) - (((x.seqs.length + wtS Sq.wt x.seqs) : Nat) : Int) - (((x.tables.length + wtS Tb.wt x.tables) : Nat) : Int) - (((x.indexes.length + wtS Ix.wt x.indexes) : Nat) : Int) < (((x.views.length + wtS Vw.wt x.views) : Nat) : Int)
          · have H : Hid (leftN x.wt left = -1) := by unfold Hid leftN; rw [if_pos (by have := HW.out; omega)]
            rw [show leftN (x.views.length + wtS Vw.wt x.views) (left - (((x.enums.length + wtS Lab.wt x.enums) : Nat) : Int) - (((x.seqs.length + wtS Sq.wt x.seqs) : Nat) : Int) - (((x.tables.length + wtS Tb.wt x.tables) : Nat) : Int) - (((x.indexes.length + wtS Ix.wt x.indexes) : Nat) : Int)) = -1 from if_pos q4]
            rintro e w4 ⟨rfl, b4⟩
            have B4 := Lib.hid (Below.call b4 B3.out)
            clear b4
            go_wp2_with fail
            go_ret
            exact ⟨by rw [H.out]; rfl, B4.out⟩
          · have d4 : decide (left - (((x.enums.length + wtS Lab.wt x.enums) : Nat) : Int) - (((x.seqs.length + wtS Sq.wt x.seqs) : Nat) : Int) - (((x.tables.length + wtS Tb.wt x.tables) : Nat) : Int) - (((x.indexes.length + wtS Ix.wt x.indexes) : Nat) : Int) - (((x.views.length + wtS Vw.wt x.views) : Nat) : Int) < 0) = false := by simp; omega
            rw [show leftN (x.views.length + wtS Vw.wt x.views) (left - (((x.enums.length + wtS Lab.wt x.enums) : Nat) : Int) - (((x.seqs.length + wtS Sq.wt x.seqs) : Nat) : Int) - (((x.tables.length + wtS Tb.wt x.tables) : Nat) : Int) - (((x.indexes.length + wtS Ix.wt x.indexes) : Nat) : Int)) = left - (((x.enums.length + wtS Lab.wt x.enums) : Nat) : Int) - (((x.seqs.length + wtS Sq.wt x.seqs) : Nat) : Int) - (((x.tables.length + wtS Tb.wt x.tables) : Nat) : Int) - (((x.indexes.length + wtS Ix.wt x.indexes) : Nat) : Int) - (((x.views.length + wtS Vw.wt x.views) : Nat) : Int) from if_neg q4]
            rintro e w4 ⟨rfl, b4⟩
            have B4 := Lib.hid (Below.call b4 B3.out)
            have A4 := Lib.hid (Blk.call b4 A3.out)
            clear b4
            clear g3_0 g3_1 g3_2 g3_3 g3_4 g3_5
            have g4_0 : w4.cell? ⟨w.heap.size, 0, none⟩ = some (.slice a0 x.enums.length c0) := (A4.out.2 0 (by simp)).1
            have g4_1 : w4.cell? ⟨w.heap.size, 1, none⟩ = some (.slice a1 x.seqs.length c1) := (A4.out.2 1 (by simp)).1
            have g4_2 : w4.cell? ⟨w.heap.size, 2, none⟩ = some (.slice a2 x.tables.length c2) := (A4.out.2 2 (by simp)).1
            have g4_3 : w4.cell? ⟨w.heap.size, 3, none⟩ = some (.slice a3 x.indexes.length c3) := (A4.out.2 3 (by simp)).1
            have g4_4 : w4.cell? ⟨w.heap.size, 4, none⟩ = some (.slice a4 x.views.length c4) := (A4.out.2 4 (by simp)).1
            have g4_5 : w4.cell? ⟨w.heap.size, 5, none⟩ = some (.int .i64 x.next) := (A4.out.2 5 (by simp)).1
            have H : Hid (leftN x.wt left = left - (((x.enums.length + wtS Lab.wt x.enums) : Nat) : Int) - (((x.seqs.length + wtS Sq.wt x.seqs) : Nat) : Int) - (((x.tables.length + wtS Tb.wt x.tables) : Nat) : Int) - (((x.indexes.length + wtS Ix.wt x.indexes) : Nat) : Int) - (((x.views.length + wtS Vw.wt x.views) : Nat) : Int)) := by unfold Hid leftN; rw [if_neg (by have := HW.out; omega)]; have := HW.out; omega
            go_wp2_with fail
            go_ret
            exact ⟨by rw [H.out]; rfl, B4.out⟩

end Go.Proofs.YtjjdcdnaonfnmaaGreat

namespace Go.Proofs.YtjjdcdnaonfnmaaGreat
open Go.RowKit

set_option maxHeartbeats 2000000 in
theorem toLabU (vs : List Value) (x : Lab) (w : World) (hR : RLab 0 w vs x) (hn : x.wt ≤ 1048576) :
    Calls Tryz.prog 71 #[.agg vs.toArray] w fun e w' => ∃ vs' : List Value, vs'.length = 2 ∧ e = .returned (.agg vs'.toArray) ∧ RLabU w.heap.size w' vs' x ∧ Below w.heap.size w w' := by
  obtain ⟨a0, c0, rfl, hfit, k0⟩ := hR
  have K0 := Lib.hid (fun w' (hb : Below w.heap.size w w') => k0.kept (Kept.below hb))
  clear k0
  have HW : x.wt = x.name.size + (x.list.length + lets x.list) := rfl
  go_enter Tryz.func71, Tryz.ntmps71
  go_wp2_with fail
  refine (toSsU a0 c0 x.list _ (K0.out _ ?_) (by omega)).mono ?_
  · ((repeat (first | refine Below.alloc ?_ (by first | omega | (simp; done) | (simp; omega)) _ | refine Below.setCell ?_ (by first | omega | (simp; done) | (simp; omega)) _)); first | exact Below.refl _ _ | exact Below.refl _ _)
  rintro e w0 ⟨p0, q0, rfl, s0, b0⟩
  have B0 := Lib.hid (show Below w.heap.size w w0 from Below.call b0 (by ((repeat (first | refine Below.alloc ?_ (by first | omega | (simp; done) | (simp; omega)) _ | refine Below.setCell ?_ (by first | omega | (simp; done) | (simp; omega)) _)); first | exact Below.refl _ _ | exact Below.refl _ _)))
  have A0 := Lib.hid (show Blk w0 w.heap.size [.string x.name, .slice a0 x.list.length c0] from Blk.call b0 (((blk_new w _ [.string x.name, .slice a0 x.list.length c0]).alloc _).alloc _))
  have Y0 := Lib.hid (show Blk w0 (w.heap.size + 1) [.string ByteArray.empty, .slice none 0 0] from Blk.call b0 ((blk_new' (w := w.alloc _) (b := w.heap.size + 1) (by simp) _ [.string ByteArray.empty, .slice none 0 0]).alloc _))
  have G0 := Lib.hid (show Blk w0 (w.heap.size + 1 + 1) [.string x.name, .slice none 0 0] from Blk.call b0 (blk_new' (w := (w.alloc _).alloc _) (b := w.heap.size + 1 + 1) (by simp) _ [.string x.name, .slice none 0 0]))
  have S0 := Lib.hid (s0.lower (show w.heap.size + 3 ≤ _ by (first | omega | (simp; done) | (simp; omega) | (simp [World.setCell]; done) | (simp [World.setCell]; omega))))
  clear s0 b0
  have h0_0 : w0.cell? ⟨w.heap.size + 1 + 1, 0, none⟩ = some (.string x.name) := (G0.out.2 0 (by simp)).1
  have y0_0 : w0.cell? ⟨w.heap.size + 1, 0, none⟩ = some (.string ByteArray.empty) := (Y0.out.2 0 (by simp)).1
  have r0_0 : w0.frozen? ⟨w.heap.size + 1, 0, none⟩ = false := (Y0.out.2 0 (by simp)).2
  have h0_1 : w0.cell? ⟨w.heap.size + 1 + 1, 1, none⟩ = some (.slice none 0 0) := (G0.out.2 1 (by simp)).1
  have z0_1 : w0.frozen? ⟨w.heap.size + 1 + 1, 1, none⟩ = false := (G0.out.2 1 (by simp)).2
  have y0_1 : w0.cell? ⟨w.heap.size + 1, 1, none⟩ = some (.slice none 0 0) := (Y0.out.2 1 (by simp)).1
  have r0_1 : w0.frozen? ⟨w.heap.size + 1, 1, none⟩ = false := (Y0.out.2 1 (by simp)).2
  go_wp2_with fail
  refine bodyPost_ret (v := .agg #[.string x.name, .slice p0 x.list.length q0]) (by simp [results, Tryz.results71, go_sem, *]) rfl ⟨[.string x.name, .slice p0 x.list.length q0], rfl, rfl, ⟨p0, q0, rfl, hfit, ?_⟩, ?_⟩
  · exact (S0.out.kept (by (refine Kept.set ?_ (by first | omega | (simp; done) | (simp; omega)) _; refine Kept.set ?_ (by first | omega | (simp; done) | (simp; omega)) _; refine Kept.set ?_ (by first | omega | (simp; done) | (simp; omega)) _; exact Kept.refl _ _))).lower (by omega)
  · (refine Below.setCell ?_ (by first | omega | (simp; done) | (simp; omega)) _; refine Below.setCell ?_ (by first | omega | (simp; done) | (simp; omega)) _; refine Below.setCell ?_ (by first | omega | (simp; done) | (simp; omega)) _; exact B0.out)

theorem toLab (vs : List Value) (x : Lab) (w : World) (hR : RLab 0 w vs x) (hn : x.wt ≤ 1048576) :
    Calls Tryz.prog 71 #[.agg vs.toArray] w fun e w' => ∃ vs' : List Value, vs'.length = 2 ∧ e = .returned (.agg vs'.toArray) ∧ RLab w.heap.size w' vs' x ∧ Below w.heap.size w w' :=
  (toLabU vs x w hR hn).mono fun _ _ ⟨vs', h1, h2, h3, h4⟩ => ⟨vs', h1, h2, weakLab h3, h4⟩

theorem Tryz.infoLabels : (Tryz.prog.info? 123).map (fun i => (i.zero, i.size, i.bytes)) = some (some (.agg #[.string ByteArray.empty, .slice none 0 0]), 2, 40) := by kernel_rfl

set_option maxHeartbeats 2000000 in
theorem toLabSU (a : Option Addr) (c : Nat) (xs : List Lab) (w : World) (hx : Sl 2 RLab 0 w a c xs) (hn : xs.length + wtS Lab.wt xs ≤ 1048576) :
    Calls Tryz.prog 25 #[.slice a xs.length c] w fun e w' => ∃ a' c', e = .returned (.slice a' xs.length c') ∧ SlU 123 2 RLabU w.heap.size w' a' c' xs ∧ Below w.heap.size w w' := by
  obtain ⟨i0, hi0, hz0, hz1, hz2⟩ := info_parts Tryz.infoLabels
  have hb16 : i0.bytes * xs.length ≤ 281474976710656 := by rw [hz2]; omega
  have hl := hx.len
  have HX := Lib.hid (fun w' (hb : Below w.heap.size w w') => hx.kept goodLab (Kept.below hb))
  clear hx
  go_enter Tryz.func25, Tryz.ntmps25
  go_wp2_with (at_make; refine wpList_make_full _ rfl _ _ 32 rfl w.heap.size 123 i0 (.agg #[.string ByteArray.empty, .slice none 0 0]) 2 Tryz.underlying32 hi0 hz0 hz1 .i64 .i64 _ _ xs.length rfl rfl rfl rfl hb16 (by unfold maxLen; omega) (Nat.le_refl _) ?_; intro w1 hown hg)
  have HD0 : DoneR 123 2 RLabU [.string ByteArray.empty, .slice none 0 0] w xs 0 w1 := DoneR.new (z := [.string ByteArray.empty, .slice none 0 0]) (by simp) hown hg
  clear hown hg
  go_loopw [4] (fun i wr => ∃ k : Nat, i = .int .i64 k ∧ DoneR 123 2 RLabU [.string ByteArray.empty, .slice none 0 0] w xs k wr) (fun i _ => xs.length - (intOf i).toNat)
  case atStart => exact ⟨0, rfl, HD0⟩
  case round =>
    obtain ⟨k, rfl, hd⟩ := hrel
    by_cases hlt : k < xs.length
    · obtain ⟨b, off, vs, rfl, hbl, hcs, hR⟩ := (HX.out _ hd.2.2.2).spot hlt
      have HR := hR
      obtain ⟨a0, c0, rfl, _⟩ := hR
      have hc0 : wr.cell? ⟨b, off + k * 2, none⟩ = some (.string xs[k].name) := hcs 0 (by simp)
      have hc1 : wr.cell? ⟨b, off + k * 2 + 1, none⟩ = some (.slice a0 xs[k].list.length c0) := hcs 1 (by simp)
      have HK := Lib.hid HR
      have HD := Lib.hid hd
      have HWt := wtS_get Lab.wt hlt
      clear HR hd hcs HD0
      go_wp2_with fail
      refine (toLabU _ xs[k] _ HK.out (by omega)).mono ?_
      rintro e w2 ⟨vs2, hvl, rfl, hk2, hb2⟩
      have HR2 := hk2
      obtain ⟨p0, q0, rfl, _⟩ := hk2
      have DC := HD.out.cells rfl hlt hb2
      have hd0 : w2.cell? ⟨w.heap.size, k * 2, none⟩ = some (.string ByteArray.empty) := DC.1 0 (by simp)
      have hf0 : w2.frozen? ⟨w.heap.size, k * 2, none⟩ = false := DC.2 _
      have hd1 : w2.cell? ⟨w.heap.size, k * 2 + 1, none⟩ = some (.slice none 0 0) := DC.1 1 (by simp)
      have hf1 : w2.frozen? ⟨w.heap.size, k * 2 + 1, none⟩ = false := DC.2 _
      have HS := Lib.hid (HD.out.step goodLabU rfl hlt hvl HR2 hb2 rfl)
      clear DC HR2 hb2 HD HK hc0 hc1 hbl hvl
      go_wp2_with fail
      go_roundw
      case rel => exact ⟨k + 1, by go_num, HS.out⟩
      case measure => simp [intOf]; omega
    · have hle := hd.1
      obtain rfl : k = xs.length := by omega
      have HE := Lib.hid (hd.endU goodLabU)
      have hbl := hd.2.2.2
      clear hd
      go_wp2_with fail
      go_ret
      exact ⟨_, _, rfl, HE.out, hbl⟩

theorem toLabS (a : Option Addr) (c : Nat) (xs : List Lab) (w : World) (hx : Sl 2 RLab 0 w a c xs) (hn : xs.length + wtS Lab.wt xs ≤ 1048576) :
    Calls Tryz.prog 25 #[.slice a xs.length c] w fun e w' => ∃ a' c', e = .returned (.slice a' xs.length c') ∧ Sl 2 RLab w.heap.size w' a' c' xs ∧ Below w.heap.size w w' :=
  (toLabSU a c xs w hx hn).mono fun _ _ ⟨a', c', h1, h2, h3⟩ => ⟨a', c', h1, h2.weak weakLab, h3⟩

set_option maxHeartbeats 2000000 in
theorem toSqU (vs : List Value) (x : Sq) (w : World) (hR : RSq 0 w vs x) (hn : x.wt ≤ 1048576) :
    Calls Tryz.prog 72 #[.agg vs.toArray] w fun e w' => ∃ vs' : List Value, vs'.length = 2 ∧ e = .returned (.agg vs'.toArray) ∧ RSqU w.heap.size w' vs' x ∧ Below w.heap.size w w' := by
  obtain ⟨rfl, hfit⟩ := hR
  have HW : x.wt = x.name.size := rfl
  go_enter Tryz.func72, Tryz.ntmps72
  go_wp2_with fail
  refine bodyPost_ret (v := .agg #[.string x.name, .int .i64 x.start]) (by simp [results, Tryz.results72, go_sem, *]) rfl ⟨[.string x.name, .int .i64 x.start], rfl, rfl, ⟨rfl, hfit⟩, ?_⟩
  · ((repeat (first | refine Below.alloc ?_ (by first | omega | (simp; done) | (simp; omega)) _ | refine Below.setCell ?_ (by first | omega | (simp; done) | (simp; omega)) _)); first | exact Below.refl _ _ | exact Below.refl _ _)

theorem toSq (vs : List Value) (x : Sq) (w : World) (hR : RSq 0 w vs x) (hn : x.wt ≤ 1048576) :
    Calls Tryz.prog 72 #[.agg vs.toArray] w fun e w' => ∃ vs' : List Value, vs'.length = 2 ∧ e = .returned (.agg vs'.toArray) ∧ RSq w.heap.size w' vs' x ∧ Below w.heap.size w w' :=
  (toSqU vs x w hR hn).mono fun _ _ ⟨vs', h1, h2, h3, h4⟩ => ⟨vs', h1, h2, weakSq h3, h4⟩

theorem Tryz.infoSeq : (Tryz.prog.info? 125).map (fun i => (i.zero, i.size, i.bytes)) = some (some (.agg #[.string ByteArray.empty, .int .i64 0]), 2, 24) := by kernel_rfl

set_option maxHeartbeats 2000000 in
theorem toSqSU (a : Option Addr) (c : Nat) (xs : List Sq) (w : World) (hx : Sl 2 RSq 0 w a c xs) (hn : xs.length + wtS Sq.wt xs ≤ 1048576) :
    Calls Tryz.prog 26 #[.slice a xs.length c] w fun e w' => ∃ a' c', e = .returned (.slice a' xs.length c') ∧ SlU 125 2 RSqU w.heap.size w' a' c' xs ∧ Below w.heap.size w w' := by
  obtain ⟨i0, hi0, hz0, hz1, hz2⟩ := info_parts Tryz.infoSeq
  have hb16 : i0.bytes * xs.length ≤ 281474976710656 := by rw [hz2]; omega
  have hl := hx.len
  have HX := Lib.hid (fun w' (hb : Below w.heap.size w w') => hx.kept goodSq (Kept.below hb))
  clear hx
  go_enter Tryz.func26, Tryz.ntmps26
  go_wp2_with (at_make; refine wpList_make_full _ rfl _ _ 33 rfl w.heap.size 125 i0 (.agg #[.string ByteArray.empty, .int .i64 0]) 2 Tryz.underlying33 hi0 hz0 hz1 .i64 .i64 _ _ xs.length rfl rfl rfl rfl hb16 (by unfold maxLen; omega) (Nat.le_refl _) ?_; intro w1 hown hg)
  have HD0 : DoneR 125 2 RSqU [.string ByteArray.empty, .int .i64 0] w xs 0 w1 := DoneR.new (z := [.string ByteArray.empty, .int .i64 0]) (by simp) hown hg
  clear hown hg
  go_loopw [4] (fun i wr => ∃ k : Nat, i = .int .i64 k ∧ DoneR 125 2 RSqU [.string ByteArray.empty, .int .i64 0] w xs k wr) (fun i _ => xs.length - (intOf i).toNat)
  case atStart => exact ⟨0, rfl, HD0⟩
  case round =>
    obtain ⟨k, rfl, hd⟩ := hrel
    by_cases hlt : k < xs.length
    · obtain ⟨b, off, vs, rfl, hbl, hcs, hR⟩ := (HX.out _ hd.2.2.2).spot hlt
      have HR := hR
      obtain ⟨rfl, _⟩ := hR
      have hc0 : wr.cell? ⟨b, off + k * 2, none⟩ = some (.string xs[k].name) := hcs 0 (by simp)
      have hc1 : wr.cell? ⟨b, off + k * 2 + 1, none⟩ = some (.int .i64 xs[k].start) := hcs 1 (by simp)
      have HK := Lib.hid HR
      have HD := Lib.hid hd
      have HWt := wtS_get Sq.wt hlt
      clear HR hd hcs HD0
      go_wp2_with fail
      refine (toSqU _ xs[k] _ HK.out (by omega)).mono ?_
      rintro e w2 ⟨vs2, hvl, rfl, hk2, hb2⟩
      have HR2 := hk2
      obtain ⟨rfl, _⟩ := hk2
      have DC := HD.out.cells rfl hlt hb2
      have hd0 : w2.cell? ⟨w.heap.size, k * 2, none⟩ = some (.string ByteArray.empty) := DC.1 0 (by simp)
      have hf0 : w2.frozen? ⟨w.heap.size, k * 2, none⟩ = false := DC.2 _
      have hd1 : w2.cell? ⟨w.heap.size, k * 2 + 1, none⟩ = some (.int .i64 0) := DC.1 1 (by simp)
      have hf1 : w2.frozen? ⟨w.heap.size, k * 2 + 1, none⟩ = false := DC.2 _
      have HS := Lib.hid (HD.out.step goodSqU rfl hlt hvl HR2 hb2 rfl)
      clear DC HR2 hb2 HD HK hc0 hc1 hbl hvl
      go_wp2_with fail
      go_roundw
      case rel => exact ⟨k + 1, by go_num, HS.out⟩
      case measure => simp [intOf]; omega
    · have hle := hd.1
      obtain rfl : k = xs.length := by omega
      have HE := Lib.hid (hd.endU goodSqU)
      have hbl := hd.2.2.2
      clear hd
      go_wp2_with fail
      go_ret
      exact ⟨_, _, rfl, HE.out, hbl⟩

theorem toSqS (a : Option Addr) (c : Nat) (xs : List Sq) (w : World) (hx : Sl 2 RSq 0 w a c xs) (hn : xs.length + wtS Sq.wt xs ≤ 1048576) :
    Calls Tryz.prog 26 #[.slice a xs.length c] w fun e w' => ∃ a' c', e = .returned (.slice a' xs.length c') ∧ Sl 2 RSq w.heap.size w' a' c' xs ∧ Below w.heap.size w w' :=
  (toSqSU a c xs w hx hn).mono fun _ _ ⟨a', c', h1, h2, h3⟩ => ⟨a', c', h1, h2.weak weakSq, h3⟩

end Go.Proofs.YtjjdcdnaonfnmaaGreat

namespace Go.Proofs.YtjjdcdnaonfnmaaGreat
open Go.RowKit

set_option maxHeartbeats 2000000 in
theorem toCoU (vs : List Value) (x : Co) (w : World) (hR : RCo 0 w vs x) (hn : x.wt ≤ 1048576) :
    Calls Tryz.prog 111 #[.agg vs.toArray] w fun e w' => ∃ vs' : List Value, vs'.length = 6 ∧ e = .returned (.agg vs'.toArray) ∧ RCoU w.heap.size w' vs' x ∧ Below w.heap.size w w' := by
  obtain ⟨a0, c0, rfl, hfit, k0⟩ := hR
  have K0 := Lib.hid (fun w' (hb : Below w.heap.size w w') => k0.kept (Kept.below hb))
  clear k0
  have HW : x.wt = x.name.size + x.ty.name.size + (x.dflt.length + wtL x.dflt) := rfl
  go_enter Tryz.func111, Tryz.ntmps111
  go_wp2_with fail
  refine (toTy x.ty.kind x.ty.len x.ty.name _).mono ?_
  rintro e wt ⟨rfl, bt⟩
  have Bt := Lib.hid (show Below w.heap.size w wt from Below.call bt (by ((repeat (first | refine Below.alloc ?_ (by first | omega | (simp; done) | (simp; omega)) _ | refine Below.setCell ?_ (by first | omega | (simp; done) | (simp; omega)) _)); first | exact Below.refl _ _ | exact Below.refl _ _)))
  have At := Lib.hid (show Blk wt w.heap.size [.string x.name, .int .i64 x.ty.kind, .int .i64 x.ty.len, .string x.ty.name, .bool x.notNull, .slice a0 x.dflt.length c0] from Blk.call bt (((blk_new w _ [.string x.name, .int .i64 x.ty.kind, .int .i64 x.ty.len, .string x.ty.name, .bool x.notNull, .slice a0 x.dflt.length c0]).alloc _).alloc _))
  have Yt := Lib.hid (show Blk wt (w.heap.size + 1) [.string ByteArray.empty, .int .i64 0, .int .i64 0, .string ByteArray.empty, .bool false, .slice none 0 0] from Blk.call bt ((blk_new' (w := w.alloc _) (b := w.heap.size + 1) (by simp) _ [.string ByteArray.empty, .int .i64 0, .int .i64 0, .string ByteArray.empty, .bool false, .slice none 0 0]).alloc _))
  have Gt := Lib.hid (show Blk wt (w.heap.size + 1 + 1) [.string x.name, .int .i64 0, .int .i64 0, .string ByteArray.empty, .bool false, .slice none 0 0] from Blk.call bt (blk_new' (w := (w.alloc _).alloc _) (b := w.heap.size + 1 + 1) (by simp) _ [.string x.name, .int .i64 0, .int .i64 0, .string ByteArray.empty, .bool false, .slice none 0 0]))
  clear bt
  have gt_4 : wt.cell? ⟨w.heap.size, 4, none⟩ = some (.bool x.notNull) := (At.out.2 4 (by simp)).1
  have gt_5 : wt.cell? ⟨w.heap.size, 5, none⟩ = some (.slice a0 x.dflt.length c0) := (At.out.2 5 (by simp)).1
  have ht_1 : wt.cell? ⟨w.heap.size + 1 + 1, 1, none⟩ = some (.int .i64 0) := (Gt.out.2 1 (by simp)).1
  have zt_1 : wt.frozen? ⟨w.heap.size + 1 + 1, 1, none⟩ = false := (Gt.out.2 1 (by simp)).2
  have ht_2 : wt.cell? ⟨w.heap.size + 1 + 1, 2, none⟩ = some (.int .i64 0) := (Gt.out.2 2 (by simp)).1
  have zt_2 : wt.frozen? ⟨w.heap.size + 1 + 1, 2, none⟩ = false := (Gt.out.2 2 (by simp)).2
  have ht_3 : wt.cell? ⟨w.heap.size + 1 + 1, 3, none⟩ = some (.string ByteArray.empty) := (Gt.out.2 3 (by simp)).1
  have zt_3 : wt.frozen? ⟨w.heap.size + 1 + 1, 3, none⟩ = false := (Gt.out.2 3 (by simp)).2
  have ht_4 : wt.cell? ⟨w.heap.size + 1 + 1, 4, none⟩ = some (.bool false) := (Gt.out.2 4 (by simp)).1
  have zt_4 : wt.frozen? ⟨w.heap.size + 1 + 1, 4, none⟩ = false := (Gt.out.2 4 (by simp)).2
  go_wp2_with fail
  refine (toKsU a0 c0 x.dflt _ (K0.out _ ?_) (by omega)).mono ?_
  · (refine Below.setCell ?_ (by first | omega | (simp; done) | (simp; omega)) _; refine Below.setCell ?_ (by first | omega | (simp; done) | (simp; omega)) _; refine Below.setCell ?_ (by first | omega | (simp; done) | (simp; omega)) _; refine Below.setCell ?_ (by first | omega | (simp; done) | (simp; omega)) _; exact Bt.out)
  rintro e w0 ⟨p0, q0, rfl, s0, b0⟩
  have B0 := Lib.hid (show Below w.heap.size w w0 from Below.call b0 (by (refine Below.setCell ?_ (by first | omega | (simp; done) | (simp; omega)) _; refine Below.setCell ?_ (by first | omega | (simp; done) | (simp; omega)) _; refine Below.setCell ?_ (by first | omega | (simp; done) | (simp; omega)) _; refine Below.setCell ?_ (by first | omega | (simp; done) | (simp; omega)) _; exact Bt.out)))
  have A0 := Lib.hid (show Blk w0 w.heap.size [.string x.name, .int .i64 x.ty.kind, .int .i64 x.ty.len, .string x.ty.name, .bool x.notNull, .slice a0 x.dflt.length c0] from Blk.call b0 (((((At.out).other (b' := w.heap.size + 1 + 1) (by omega) 1 (.int .i64 x.ty.kind)).other (b' := w.heap.size + 1 + 1) (by omega) 2 (.int .i64 x.ty.len)).other (b' := w.heap.size + 1 + 1) (by omega) 3 (.string x.ty.name)).other (b' := w.heap.size + 1 + 1) (by omega) 4 (.bool x.notNull)))
  have Y0 := Lib.hid (show Blk w0 (w.heap.size + 1) [.string ByteArray.empty, .int .i64 0, .int .i64 0, .string ByteArray.empty, .bool false, .slice none 0 0] from Blk.call b0 (((((Yt.out).other (b' := w.heap.size + 1 + 1) (by omega) 1 (.int .i64 x.ty.kind)).other (b' := w.heap.size + 1 + 1) (by omega) 2 (.int .i64 x.ty.len)).other (b' := w.heap.size + 1 + 1) (by omega) 3 (.string x.ty.name)).other (b' := w.heap.size + 1 + 1) (by omega) 4 (.bool x.notNull)))
  have G0 := Lib.hid (show Blk w0 (w.heap.size + 1 + 1) [.string x.name, .int .i64 x.ty.kind, .int .i64 x.ty.len, .string x.ty.name, .bool x.notNull, .slice none 0 0] from Blk.call b0 (((((Gt.out).set 1 (.int .i64 x.ty.kind)).set 2 (.int .i64 x.ty.len)).set 3 (.string x.ty.name)).set 4 (.bool x.notNull)))
  have S0 := Lib.hid (s0.lower (show w.heap.size + 3 ≤ _ by (have h3 := Gt.out.1; first | omega | (simp; done) | (simp; omega) | (simp [World.setCell]; done) | (simp [World.setCell]; omega))))
  clear s0 b0
  clear gt_4 gt_5 ht_1 zt_1 ht_2 zt_2 ht_3 zt_3 ht_4 zt_4
  have h0_0 : w0.cell? ⟨w.heap.size + 1 + 1, 0, none⟩ = some (.string x.name) := (G0.out.2 0 (by simp)).1
  have y0_0 : w0.cell? ⟨w.heap.size + 1, 0, none⟩ = some (.string ByteArray.empty) := (Y0.out.2 0 (by simp)).1
  have r0_0 : w0.frozen? ⟨w.heap.size + 1, 0, none⟩ = false := (Y0.out.2 0 (by simp)).2
  have h0_1 : w0.cell? ⟨w.heap.size + 1 + 1, 1, none⟩ = some (.int .i64 x.ty.kind) := (G0.out.2 1 (by simp)).1
  have y0_1 : w0.cell? ⟨w.heap.size + 1, 1, none⟩ = some (.int .i64 0) := (Y0.out.2 1 (by simp)).1
  have r0_1 : w0.frozen? ⟨w.heap.size + 1, 1, none⟩ = false := (Y0.out.2 1 (by simp)).2
  have h0_2 : w0.cell? ⟨w.heap.size + 1 + 1, 2, none⟩ = some (.int .i64 x.ty.len) := (G0.out.2 2 (by simp)).1
  have y0_2 : w0.cell? ⟨w.heap.size + 1, 2, none⟩ = some (.int .i64 0) := (Y0.out.2 2 (by simp)).1
  have r0_2 : w0.frozen? ⟨w.heap.size + 1, 2, none⟩ = false := (Y0.out.2 2 (by simp)).2
  have h0_3 : w0.cell? ⟨w.heap.size + 1 + 1, 3, none⟩ = some (.string x.ty.name) := (G0.out.2 3 (by simp)).1
  have y0_3 : w0.cell? ⟨w.heap.size + 1, 3, none⟩ = some (.string ByteArray.empty) := (Y0.out.2 3 (by simp)).1
  have r0_3 : w0.frozen? ⟨w.heap.size + 1, 3, none⟩ = false := (Y0.out.2 3 (by simp)).2
  have h0_4 : w0.cell? ⟨w.heap.size + 1 + 1, 4, none⟩ = some (.bool x.notNull) := (G0.out.2 4 (by simp)).1
  have y0_4 : w0.cell? ⟨w.heap.size + 1, 4, none⟩ = some (.bool false) := (Y0.out.2 4 (by simp)).1
  have r0_4 : w0.frozen? ⟨w.heap.size + 1, 4, none⟩ = false := (Y0.out.2 4 (by simp)).2
  have h0_5 : w0.cell? ⟨w.heap.size + 1 + 1, 5, none⟩ = some (.slice none 0 0) := (G0.out.2 5 (by simp)).1
  have z0_5 : w0.frozen? ⟨w.heap.size + 1 + 1, 5, none⟩ = false := (G0.out.2 5 (by simp)).2
  have y0_5 : w0.cell? ⟨w.heap.size + 1, 5, none⟩ = some (.slice none 0 0) := (Y0.out.2 5 (by simp)).1
  have r0_5 : w0.frozen? ⟨w.heap.size + 1, 5, none⟩ = false := (Y0.out.2 5 (by simp)).2
  go_wp2_with fail
  refine bodyPost_ret (v := .agg #[.string x.name, .int .i64 x.ty.kind, .int .i64 x.ty.len, .string x.ty.name, .bool x.notNull, .slice p0 x.dflt.length q0]) (by simp [results, Tryz.results111, go_sem, *]) rfl ⟨[.string x.name, .int .i64 x.ty.kind, .int .i64 x.ty.len, .string x.ty.name, .bool x.notNull, .slice p0 x.dflt.length q0], rfl, rfl, ⟨p0, q0, rfl, hfit, ?_⟩, ?_⟩
  · exact (S0.out.kept (by (refine Kept.set ?_ (by first | omega | (simp; done) | (simp; omega)) _; refine Kept.set ?_ (by first | omega | (simp; done) | (simp; omega)) _; refine Kept.set ?_ (by first | omega | (simp; done) | (simp; omega)) _; refine Kept.set ?_ (by first | omega | (simp; done) | (simp; omega)) _; refine Kept.set ?_ (by first | omega | (simp; done) | (simp; omega)) _; refine Kept.set ?_ (by first | omega | (simp; done) | (simp; omega)) _; refine Kept.set ?_ (by first | omega | (simp; done) | (simp; omega)) _; exact Kept.refl _ _))).lower (by omega)
  · (refine Below.setCell ?_ (by first | omega | (simp; done) | (simp; omega)) _; refine Below.setCell ?_ (by first | omega | (simp; done) | (simp; omega)) _; refine Below.setCell ?_ (by first | omega | (simp; done) | (simp; omega)) _; refine Below.setCell ?_ (by first | omega | (simp; done) | (simp; omega)) _; refine Below.setCell ?_ (by first | omega | (simp; done) | (simp; omega)) _; refine Below.setCell ?_ (by first | omega | (simp; done) | (simp; omega)) _; refine Below.setCell ?_ (by first | omega | (simp; done) | (simp; omega)) _; exact B0.out)

theorem toCo (vs : List Value) (x : Co) (w : World) (hR : RCo 0 w vs x) (hn : x.wt ≤ 1048576) :
    Calls Tryz.prog 111 #[.agg vs.toArray] w fun e w' => ∃ vs' : List Value, vs'.length = 6 ∧ e = .returned (.agg vs'.toArray) ∧ RCo w.heap.size w' vs' x ∧ Below w.heap.size w w' :=
  (toCoU vs x w hR hn).mono fun _ _ ⟨vs', h1, h2, h3, h4⟩ => ⟨vs', h1, h2, weakCo h3, h4⟩

theorem Tryz.infoCol : (Tryz.prog.info? 60).map (fun i => (i.zero, i.size, i.bytes)) = some (some (.agg #[.string ByteArray.empty, .int .i64 0, .int .i64 0, .string ByteArray.empty, .bool false, .slice none 0 0]), 6, 80) := by kernel_rfl

set_option maxHeartbeats 2000000 in
theorem toCoSU (a : Option Addr) (c : Nat) (xs : List Co) (w : World) (hx : Sl 6 RCo 0 w a c xs) (hn : xs.length + wtS Co.wt xs ≤ 1048576) :
    Calls Tryz.prog 97 #[.slice a xs.length c] w fun e w' => ∃ a' c', e = .returned (.slice a' xs.length c') ∧ SlU 60 6 RCoU w.heap.size w' a' c' xs ∧ Below w.heap.size w w' := by
  obtain ⟨i0, hi0, hz0, hz1, hz2⟩ := info_parts Tryz.infoCol
  have hb16 : i0.bytes * xs.length ≤ 281474976710656 := by rw [hz2]; omega
  have hl := hx.len
  have HX := Lib.hid (fun w' (hb : Below w.heap.size w w') => hx.kept goodCo (Kept.below hb))
  clear hx
  go_enter Tryz.func97, Tryz.ntmps97
  go_wp2_with (at_make; refine wpList_make_full _ rfl _ _ 52 rfl w.heap.size 60 i0 (.agg #[.string ByteArray.empty, .int .i64 0, .int .i64 0, .string ByteArray.empty, .bool false, .slice none 0 0]) 6 Tryz.underlying52 hi0 hz0 hz1 .i64 .i64 _ _ xs.length rfl rfl rfl rfl hb16 (by unfold maxLen; omega) (Nat.le_refl _) ?_; intro w1 hown hg)
  have HD0 : DoneR 60 6 RCoU [.string ByteArray.empty, .int .i64 0, .int .i64 0, .string ByteArray.empty, .bool false, .slice none 0 0] w xs 0 w1 := DoneR.new (z := [.string ByteArray.empty, .int .i64 0, .int .i64 0, .string ByteArray.empty, .bool false, .slice none 0 0]) (by simp) hown hg
  clear hown hg
  go_loopw [4] (fun i wr => ∃ k : Nat, i = .int .i64 k ∧ DoneR 60 6 RCoU [.string ByteArray.empty, .int .i64 0, .int .i64 0, .string ByteArray.empty, .bool false, .slice none 0 0] w xs k wr) (fun i _ => xs.length - (intOf i).toNat)
  case atStart => exact ⟨0, rfl, HD0⟩
  case round =>
    obtain ⟨k, rfl, hd⟩ := hrel
    by_cases hlt : k < xs.length
    · obtain ⟨b, off, vs, rfl, hbl, hcs, hR⟩ := (HX.out _ hd.2.2.2).spot hlt
      have HR := hR
      obtain ⟨a0, c0, rfl, _⟩ := hR
      have hc0 : wr.cell? ⟨b, off + k * 6, none⟩ = some (.string xs[k].name) := hcs 0 (by simp)
      have hc1 : wr.cell? ⟨b, off + k * 6 + 1, none⟩ = some (.int .i64 xs[k].ty.kind) := hcs 1 (by simp)
      have hc2 : wr.cell? ⟨b, off + k * 6 + 2, none⟩ = some (.int .i64 xs[k].ty.len) := hcs 2 (by simp)
      have hc3 : wr.cell? ⟨b, off + k * 6 + 3, none⟩ = some (.string xs[k].ty.name) := hcs 3 (by simp)
      have hc4 : wr.cell? ⟨b, off + k * 6 + 4, none⟩ = some (.bool xs[k].notNull) := hcs 4 (by simp)
      have hc5 : wr.cell? ⟨b, off + k * 6 + 5, none⟩ = some (.slice a0 xs[k].dflt.length c0) := hcs 5 (by simp)
      have HK := Lib.hid HR
      have HD := Lib.hid hd
      have HWt := wtS_get Co.wt hlt
      clear HR hd hcs HD0
      go_wp2_with fail
      refine (toCoU _ xs[k] _ HK.out (by omega)).mono ?_
      rintro e w2 ⟨vs2, hvl, rfl, hk2, hb2⟩
      have HR2 := hk2
      obtain ⟨p0, q0, rfl, _⟩ := hk2
      have DC := HD.out.cells rfl hlt hb2
      have hd0 : w2.cell? ⟨w.heap.size, k * 6, none⟩ = some (.string ByteArray.empty) := DC.1 0 (by simp)
      have hf0 : w2.frozen? ⟨w.heap.size, k * 6, none⟩ = false := DC.2 _
      have hd1 : w2.cell? ⟨w.heap.size, k * 6 + 1, none⟩ = some (.int .i64 0) := DC.1 1 (by simp)
      have hf1 : w2.frozen? ⟨w.heap.size, k * 6 + 1, none⟩ = false := DC.2 _
      have hd2 : w2.cell? ⟨w.heap.size, k * 6 + 2, none⟩ = some (.int .i64 0) := DC.1 2 (by simp)
      have hf2 : w2.frozen? ⟨w.heap.size, k * 6 + 2, none⟩ = false := DC.2 _
      have hd3 : w2.cell? ⟨w.heap.size, k * 6 + 3, none⟩ = some (.string ByteArray.empty) := DC.1 3 (by simp)
      have hf3 : w2.frozen? ⟨w.heap.size, k * 6 + 3, none⟩ = false := DC.2 _
      have hd4 : w2.cell? ⟨w.heap.size, k * 6 + 4, none⟩ = some (.bool false) := DC.1 4 (by simp)
      have hf4 : w2.frozen? ⟨w.heap.size, k * 6 + 4, none⟩ = false := DC.2 _
      have hd5 : w2.cell? ⟨w.heap.size, k * 6 + 5, none⟩ = some (.slice none 0 0) := DC.1 5 (by simp)
      have hf5 : w2.frozen? ⟨w.heap.size, k * 6 + 5, none⟩ = false := DC.2 _
      have HS := Lib.hid (HD.out.step goodCoU rfl hlt hvl HR2 hb2 rfl)
      clear DC HR2 hb2 HD HK hc0 hc1 hc2 hc3 hc4 hc5 hbl hvl
      go_wp2_with fail
      go_roundw
      case rel => exact ⟨k + 1, by go_num, HS.out⟩
      case measure => simp [intOf]; omega
    · have hle := hd.1
      obtain rfl : k = xs.length := by omega
      have HE := Lib.hid (hd.endU goodCoU)
      have hbl := hd.2.2.2
      clear hd
      go_wp2_with fail
      go_ret
      exact ⟨_, _, rfl, HE.out, hbl⟩

theorem toCoS (a : Option Addr) (c : Nat) (xs : List Co) (w : World) (hx : Sl 6 RCo 0 w a c xs) (hn : xs.length + wtS Co.wt xs ≤ 1048576) :
    Calls Tryz.prog 97 #[.slice a xs.length c] w fun e w' => ∃ a' c', e = .returned (.slice a' xs.length c') ∧ Sl 6 RCo w.heap.size w' a' c' xs ∧ Below w.heap.size w w' :=
  (toCoSU a c xs w hx hn).mono fun _ _ ⟨a', c', h1, h2, h3⟩ => ⟨a', c', h1, h2.weak weakCo, h3⟩

end Go.Proofs.YtjjdcdnaonfnmaaGreat
