/- The laws' marks in copies of schemas (Plan). Written by tools/gen_mark.py. -/
/- The laws' own helpers over schemas (the size that is left): Labels, Seq. Written by tools/gen_plan.py. -/
/- The laws' own helpers over schemas (the size that is left): Col. Written by tools/gen_plan.py. -/
/- The laws' own helpers over schemas (the size that is left): Rule. Written by tools/gen_plan.py. -/
/- The laws' own helpers over schemas (the size that is left): Table. Written by tools/gen_plan.py. -/
import Derived.Test.YtjjdcdnaonfnmaaGreatMPlMkA
import Derived.Test.YtjjdcdnaonfnmaaGreatMTyp2
import Derived.Test.YtjjdcdnaonfnmaaGreatMDatU
namespace Go.Proofs.YtjjdcdnaonfnmaaGreat
open Go.RowKit

def Pl.cnt (x : Pl) : Nat := cntS Lab.cnt x.enums + cntS Sq.cnt x.seqs + cntS Tb.cnt x.tables + cntS Ix.cnt x.indexes + cntS Vw.cnt x.views

set_option maxHeartbeats 4000000 in
theorem mkPl (lo : Nat) (w1 : World) (vs : List Value) (x : Pl) (h : RPlU lo w1 vs x) (w : World) (hs : Sim lo w1 w) (h2 : 1 + x.cnt ≤ 8388608) :
    Calls Tryz.prog 12 #[.agg vs.toArray, .int .i64 1] w fun e w' => e = .returned (.int .i64 (1 + (x.cnt : Nat))) ∧ Mkd lo w1 w w' := by
  obtain ⟨a0, c0, a1, c1, a2, c2, a3, c3, a4, c4, rfl, _, u0, u1, u2, u3, u4⟩ := h
  have HN : Hid (x.cnt = cntS Lab.cnt x.enums + cntS Sq.cnt x.seqs + cntS Tb.cnt x.tables + cntS Ix.cnt x.indexes + cntS Vw.cnt x.views) := rfl
  rw [HN.out] at h2
  have h2' := h2
  have U0 := Lib.hid u0
  have U1 := Lib.hid u1
  have U2 := Lib.hid u2
  have U3 := Lib.hid u3
  have U4 := Lib.hid u4
  have M0 := Lib.hid (show Mkd lo w1 w (w.alloc (.cells #[.slice a0 x.enums.length c0, .slice a1 x.seqs.length c1, .slice a2 x.tables.length c2, .slice a3 x.indexes.length c3, .slice a4 x.views.length c4, .int .i64 x.next] 38)) from (Mkd.refl hs).below ((Below.refl _ _).alloc (Nat.le_refl _) _))
  have A0 := Lib.hid (blk_new w 38 [.slice a0 x.enums.length c0, .slice a1 x.seqs.length c1, .slice a2 x.tables.length c2, .slice a3 x.indexes.length c3, .slice a4 x.views.length c4, .int .i64 x.next])
  have hlo : Hid (w1.heap.size ≤ w.heap.size) := hs.size
  clear hs u0 u1 u2 u3 u4
  go_enter Tryz.func12, Tryz.ntmps12
  go_wp2_with fail
  refine (mkLabS lo w1 a0 c0 x.enums U0.out (1) _ ?_ (by omega) (by omega)).mono ?_
  · exact M0.out.1
  rintro e w2 ⟨rfl, b1⟩
  have M1 := Lib.hid (M0.out.trans b1)
  have A1 := Lib.hid (show Blk w2 w.heap.size [.slice a0 x.enums.length c0, .slice a1 x.seqs.length c1, .slice a2 x.tables.length c2, .slice a3 x.indexes.length c3, .slice a4 x.views.length c4, .int .i64 x.next] from A0.out.turn b1.2 (by have := hlo.out; omega))
  clear b1
  have g1_0 : w2.cell? ⟨w.heap.size, 0, none⟩ = some (.slice a0 x.enums.length c0) := (A1.out.2 0 (by simp)).1
  have g1_1 : w2.cell? ⟨w.heap.size, 1, none⟩ = some (.slice a1 x.seqs.length c1) := (A1.out.2 1 (by simp)).1
  have g1_2 : w2.cell? ⟨w.heap.size, 2, none⟩ = some (.slice a2 x.tables.length c2) := (A1.out.2 2 (by simp)).1
  have g1_3 : w2.cell? ⟨w.heap.size, 3, none⟩ = some (.slice a3 x.indexes.length c3) := (A1.out.2 3 (by simp)).1
  have g1_4 : w2.cell? ⟨w.heap.size, 4, none⟩ = some (.slice a4 x.views.length c4) := (A1.out.2 4 (by simp)).1
  have g1_5 : w2.cell? ⟨w.heap.size, 5, none⟩ = some (.int .i64 x.next) := (A1.out.2 5 (by simp)).1
  go_wp2_with fail
  refine (mkSqS lo w1 a1 c1 x.seqs U1.out (1 + (cntS Lab.cnt x.enums : Nat)) _ ?_ (by omega) (by omega)).mono ?_
  · exact M1.out.1
  rintro e w3 ⟨rfl, b2⟩
  have M2 := Lib.hid (M1.out.trans b2)
  have A2 := Lib.hid (show Blk w3 w.heap.size [.slice a0 x.enums.length c0, .slice a1 x.seqs.length c1, .slice a2 x.tables.length c2, .slice a3 x.indexes.length c3, .slice a4 x.views.length c4, .int .i64 x.next] from A1.out.turn b2.2 (by have := hlo.out; omega))
  clear b2
  clear g1_0 g1_1 g1_2 g1_3 g1_4 g1_5
  have g2_0 : w3.cell? ⟨w.heap.size, 0, none⟩ = some (.slice a0 x.enums.length c0) := (A2.out.2 0 (by simp)).1
  have g2_1 : w3.cell? ⟨w.heap.size, 1, none⟩ = some (.slice a1 x.seqs.length c1) := (A2.out.2 1 (by simp)).1
  have g2_2 : w3.cell? ⟨w.heap.size, 2, none⟩ = some (.slice a2 x.tables.length c2) := (A2.out.2 2 (by simp)).1
  have g2_3 : w3.cell? ⟨w.heap.size, 3, none⟩ = some (.slice a3 x.indexes.length c3) := (A2.out.2 3 (by simp)).1
  have g2_4 : w3.cell? ⟨w.heap.size, 4, none⟩ = some (.slice a4 x.views.length c4) := (A2.out.2 4 (by simp)).1
  have g2_5 : w3.cell? ⟨w.heap.size, 5, none⟩ = some (.int .i64 x.next) := (A2.out.2 5 (by simp)).1
  go_wp2_with fail
  refine (mkTbS lo w1 a2 c2 x.tables U2.out (1 + (cntS Lab.cnt x.enums : Nat) + (cntS Sq.cnt x.seqs : Nat)) _ ?_ (by omega) (by omega)).mono ?_
  · exact M2.out.1
  rintro e w4 ⟨rfl, b3⟩
  have M3 := Lib.hid (M2.out.trans b3)
  have A3 := Lib.hid (show Blk w4 w.heap.size [.slice a0 x.enums.length c0, .slice a1 x.seqs.length c1, .slice a2 x.tables.length c2, .slice a3 x.indexes.length c3, .slice a4 x.views.length c4, .int .i64 x.next] from A2.out.turn b3.2 (by have := hlo.out; omega))
  clear b3
  clear g2_0 g2_1 g2_2 g2_3 g2_4 g2_5
  have g3_0 : w4.cell? ⟨w.heap.size, 0, none⟩ = some (.slice a0 x.enums.length c0) := (A3.out.2 0 (by simp)).1
  have g3_1 : w4.cell? ⟨w.heap.size, 1, none⟩ = some (.slice a1 x.seqs.length c1) := (A3.out.2 1 (by simp)).1
  have g3_2 : w4.cell? ⟨w.heap.size, 2, none⟩ = some (.slice a2 x.tables.length c2) := (A3.out.2 2 (by simp)).1
  have g3_3 : w4.cell? ⟨w.heap.size, 3, none⟩ = some (.slice a3 x.indexes.length c3) := (A3.out.2 3 (by simp)).1
  have g3_4 : w4.cell? ⟨w.heap.size, 4, none⟩ = some (.slice a4 x.views.length c4) := (A3.out.2 4 (by simp)).1
  have g3_5 : w4.cell? ⟨w.heap.size, 5, none⟩ = some (.int .i64 x.next) := (A3.out.2 5 (by simp)).1
  go_wp2_with fail
  refine (mkIxS lo w1 a3 c3 x.indexes U3.out (1 + (cntS Lab.cnt x.enums : Nat) + (cntS Sq.cnt x.seqs : Nat) + (cntS Tb.cnt x.tables : Nat)) _ ?_ (by omega) (by omega)).mono ?_
  · exact M3.out.1
  rintro e w5 ⟨rfl, b4⟩
  have M4 := Lib.hid (M3.out.trans b4)
  have A4 := Lib.hid (show Blk w5 w.heap.size [.slice a0 x.enums.length c0, .slice a1 x.seqs.length c1, .slice a2 x.tables.length c2, .slice a3 x.indexes.length c3, .slice a4 x.views.length c4, .int .i64 x.next] from A3.out.turn b4.2 (by have := hlo.out; omega))
  clear b4
  clear g3_0 g3_1 g3_2 g3_3 g3_4 g3_5
  have g4_0 : w5.cell? ⟨w.heap.size, 0, none⟩ = some (.slice a0 x.enums.length c0) := (A4.out.2 0 (by simp)).1
  have g4_1 : w5.cell? ⟨w.heap.size, 1, none⟩ = some (.slice a1 x.seqs.length c1) := (A4.out.2 1 (by simp)).1
  have g4_2 : w5.cell? ⟨w.heap.size, 2, none⟩ = some (.slice a2 x.tables.length c2) := (A4.out.2 2 (by simp)).1
  have g4_3 : w5.cell? ⟨w.heap.size, 3, none⟩ = some (.slice a3 x.indexes.length c3) := (A4.out.2 3 (by simp)).1
  have g4_4 : w5.cell? ⟨w.heap.size, 4, none⟩ = some (.slice a4 x.views.length c4) := (A4.out.2 4 (by simp)).1
  have g4_5 : w5.cell? ⟨w.heap.size, 5, none⟩ = some (.int .i64 x.next) := (A4.out.2 5 (by simp)).1
  go_wp2_with fail
  refine (mkVwS lo w1 a4 c4 x.views U4.out (1 + (cntS Lab.cnt x.enums : Nat) + (cntS Sq.cnt x.seqs : Nat) + (cntS Tb.cnt x.tables : Nat) + (cntS Ix.cnt x.indexes : Nat)) _ ?_ (by omega) (by omega)).mono ?_
  · exact M4.out.1
  rintro e w6 ⟨rfl, b5⟩
  have M5 := Lib.hid (M4.out.trans b5)
  have A5 := Lib.hid (show Blk w6 w.heap.size [.slice a0 x.enums.length c0, .slice a1 x.seqs.length c1, .slice a2 x.tables.length c2, .slice a3 x.indexes.length c3, .slice a4 x.views.length c4, .int .i64 x.next] from A4.out.turn b5.2 (by have := hlo.out; omega))
  clear b5
  clear g4_0 g4_1 g4_2 g4_3 g4_4 g4_5
  have g5_0 : w6.cell? ⟨w.heap.size, 0, none⟩ = some (.slice a0 x.enums.length c0) := (A5.out.2 0 (by simp)).1
  have g5_1 : w6.cell? ⟨w.heap.size, 1, none⟩ = some (.slice a1 x.seqs.length c1) := (A5.out.2 1 (by simp)).1
  have g5_2 : w6.cell? ⟨w.heap.size, 2, none⟩ = some (.slice a2 x.tables.length c2) := (A5.out.2 2 (by simp)).1
  have g5_3 : w6.cell? ⟨w.heap.size, 3, none⟩ = some (.slice a3 x.indexes.length c3) := (A5.out.2 3 (by simp)).1
  have g5_4 : w6.cell? ⟨w.heap.size, 4, none⟩ = some (.slice a4 x.views.length c4) := (A5.out.2 4 (by simp)).1
  have g5_5 : w6.cell? ⟨w.heap.size, 5, none⟩ = some (.int .i64 x.next) := (A5.out.2 5 (by simp)).1
  go_wp2_with fail
  go_ret
  exact ⟨by rw [HN.out]; exact congrArg (fun v => Ending.returned (Value.int .i64 v)) (by omega), M5.out⟩

end Go.Proofs.YtjjdcdnaonfnmaaGreat

namespace Go.Proofs.YtjjdcdnaonfnmaaGreat
open Go.RowKit

set_option maxHeartbeats 2000000 in
theorem szLab (vs : List Value) (x : Lab) (left : Int) (w : World) (hR : RLab 0 w vs x) (h0 : 0 ≤ left) (h1 : left ≤ 1048576) :
    Calls Tryz.prog 65 #[.agg vs.toArray, .int .i64 left] w fun e w' => e = .returned (.int .i64 (leftN x.wt left)) ∧ Below w.heap.size w w' := by
  obtain ⟨a0, c0, rfl, hfit, k0⟩ := hR
  have t_name : x.name.size ≤ 9223372036854775807 := by have : x.name.size ≤ maxLen := hfit; unfold maxLen at this; omega
  have K0 := Lib.hid (fun w' (hb : Below w.heap.size w w') => k0.kept (Kept.below hb))
  clear k0
  have HW := Lib.hid (show x.wt = x.name.size + (x.list.length + lets x.list) from rfl)
  go_enter Tryz.func65, Tryz.ntmps65
  by_cases q0 : left < ((x.name.size : Nat) : Int)
  · have H : Hid (leftN x.wt left = -1) := by unfold Hid leftN; rw [if_pos (by have := HW.out; omega)]
    have d0 : decide (left - ((x.name.size : Nat) : Int) < 0) = true := by simp; omega
    go_wp2_with fail
    go_ret
    exact ⟨by rw [H.out]; rfl, (Below.refl _ _).alloc (Nat.le_refl _) _⟩
  · have d0 : decide (left - ((x.name.size : Nat) : Int) < 0) = false := by simp; omega
    go_wp2_with fail
    refine (szSs a0 c0 x.list (left - ((x.name.size : Nat) : Int)) _ (K0.out _ ?_) (by omega) (by omega)).mono ?_
    · exact (Below.refl _ _).alloc (Nat.le_refl _) _
    by_cases q1 : left - ((x.name.size : Nat) : Int) < (((x.list.length + lets x.list) : Nat) : Int)
    · have H : Hid (leftN x.wt left = -1) := by unfold Hid leftN; rw [if_pos (by have := HW.out; omega)]
      rw [show leftN (x.list.length + lets x.list) (left - ((x.name.size : Nat) : Int)) = -1 from if_pos q1]
      rintro e w1 ⟨rfl, b1⟩
      have B1 := Lib.hid (Below.call b1 ((Below.refl _ _).alloc (Nat.le_refl _) _))
      clear b1
      go_wp2_with fail
      go_ret
      exact ⟨by rw [H.out]; rfl, B1.out⟩
    · have d1 : decide (left - ((x.name.size : Nat) : Int) - (((x.list.length + lets x.list) : Nat) : Int) < 0) = false := by simp; omega
      rw [show leftN (x.list.length + lets x.list) (left - ((x.name.size : Nat) : Int)) = left - ((x.name.size : Nat) : Int) - (((x.list.length + lets x.list) : Nat) : Int) from if_neg q1]
      rintro e w1 ⟨rfl, b1⟩
      have B1 := Lib.hid (Below.call b1 ((Below.refl _ _).alloc (Nat.le_refl _) _))
      have A1 := Lib.hid (Blk.call b1 (blk_new w _ [.string x.name, .slice a0 x.list.length c0]))
      clear b1
      have g1_0 : w1.cell? ⟨w.heap.size, 0, none⟩ = some (.string x.name) := (A1.out.2 0 (by simp)).1
      have g1_1 : w1.cell? ⟨w.heap.size, 1, none⟩ = some (.slice a0 x.list.length c0) := (A1.out.2 1 (by simp)).1
      have H : Hid (leftN x.wt left = left - ((x.name.size : Nat) : Int) - (((x.list.length + lets x.list) : Nat) : Int)) := by unfold Hid leftN; rw [if_neg (by have := HW.out; omega)]; have := HW.out; omega
      go_wp2_with fail
      go_ret
      exact ⟨by rw [H.out]; rfl, B1.out⟩

set_option maxHeartbeats 2000000 in
theorem szLabS (a : Option Addr) (c : Nat) (xs : List Lab) (left : Int) (w : World) (hx : Sl 2 RLab 0 w a c xs) (h0 : 0 ≤ left) (h1 : left ≤ 1048576) :
    Calls Tryz.prog 19 #[.slice a xs.length c, .int .i64 left] w fun e w' => e = .returned (.int .i64 (leftN (xs.length + wtS Lab.wt xs) left)) ∧ Below w.heap.size w w' := by
  have hl := hx.len
  by_cases hs : left < xs.length
  · have H : Hid (leftN (xs.length + wtS Lab.wt xs) left = -1) := by unfold Hid leftN; rw [if_pos (by omega)]
    go_enter Tryz.func19, Tryz.ntmps19
    go_wp2
    go_ret
    exact ⟨by rw [H.out]; rfl, Below.refl _ _⟩
  · have hs' : (xs.length : Int) ≤ left := by omega
    have HX := Lib.hid (fun w' (hb : Below w.heap.size w w') => hx.kept goodLab (Kept.below hb))
    clear hx
    go_enter Tryz.func19, Tryz.ntmps19
    go_wp2
    go_loopw [1, 5] (fun l i wr => ∃ k : Nat, k ≤ xs.length ∧ i = .int .i64 k ∧ wtS Lab.wt (xs.take k) ≤ left - xs.length ∧ l = .int .i64 (left - xs.length - wtS Lab.wt (xs.take k)) ∧ Below w.heap.size w wr) (fun _ i _ => xs.length - (intOf i).toNat)
    case atStart => exact ⟨0, Nat.zero_le _, rfl, by simp [wtS]; omega, by simp [wtS], Below.refl _ _⟩
    case round =>
      obtain ⟨k, hk, rfl, hsm, rfl, hb⟩ := hrel
      by_cases hlt : k < xs.length
      · obtain ⟨b, off, vs, rfl, hbl, hcs, hR⟩ := (HX.out _ hb).spot hlt
        have HR := hR
        obtain ⟨a0, c0, rfl, _⟩ := hR
        have hc0 : wr.cell? ⟨b, off + k * 2, none⟩ = some (.string xs[k].name) := hcs 0 (by simp)
        have hc1 : wr.cell? ⟨b, off + k * 2 + 1, none⟩ = some (.slice a0 xs[k].list.length c0) := hcs 1 (by simp)
        have HT := Lib.hid (wtS_take Lab.wt xs k hlt)
        have HL := Lib.hid (wtS_le Lab.wt xs (k + 1))
        have HK := Lib.hid HR
        clear HR hcs
        go_wp2_with fail
        refine (szLab _ xs[k] (left - xs.length - wtS Lab.wt (xs.take k)) _ HK.out (by omega) (by omega)).mono ?_
        by_cases hle : left - xs.length - wtS Lab.wt (xs.take k) < xs[k].wt
        · rw [show leftN xs[k].wt (left - xs.length - wtS Lab.wt (xs.take k)) = -1 from if_pos hle]
          rintro e w2 ⟨rfl, hb2⟩
          have H : Hid (leftN (xs.length + wtS Lab.wt xs) left = -1) := by unfold Hid leftN; rw [if_pos (by have := HT.out; have := HL.out; omega)]
          go_wp2_with fail
          go_ret
          exact ⟨by rw [H.out]; rfl, hb.trans (hb2.mono hb.size)⟩
        · rw [show leftN xs[k].wt (left - xs.length - wtS Lab.wt (xs.take k)) = left - xs.length - wtS Lab.wt (xs.take k) - xs[k].wt from if_neg hle]
          rintro e w2 ⟨rfl, hb2⟩
          go_wp2_with fail
          go_roundw
          case rel => exact ⟨k + 1, by omega, by go_num, by have := HT.out; omega, by rw [HT.out]; go_num, hb.trans (hb2.mono hb.size)⟩
          case measure => simp [intOf]; omega
      · obtain rfl : k = xs.length := by omega
        have H : Hid (leftN (xs.length + wtS Lab.wt xs) left = left - xs.length - wtS Lab.wt xs) := by
          unfold Hid leftN; rw [List.take_length] at hsm; rw [if_neg (by omega)]; omega
        go_wp2_with fail
        go_ret
        exact ⟨by rw [H.out, List.take_length]; rfl, hb⟩

set_option maxHeartbeats 2000000 in
theorem szSq (vs : List Value) (x : Sq) (left : Int) (w : World) (hR : RSq 0 w vs x) (h0 : 0 ≤ left) (h1 : left ≤ 1048576) :
    Calls Tryz.prog 66 #[.agg vs.toArray, .int .i64 left] w fun e w' => e = .returned (.int .i64 (leftN x.wt left)) ∧ Below w.heap.size w w' := by
  obtain ⟨rfl, hfit⟩ := hR
  have t_name : x.name.size ≤ 9223372036854775807 := by have : x.name.size ≤ maxLen := hfit.1; unfold maxLen at this; omega
  have HW := Lib.hid (show x.wt = x.name.size from rfl)
  go_enter Tryz.func66, Tryz.ntmps66
  by_cases q0 : left < ((x.name.size : Nat) : Int)
  · have H : Hid (leftN x.wt left = -1) := by unfold Hid leftN; rw [if_pos (by have := HW.out; omega)]
    have d0 : decide (left - ((x.name.size : Nat) : Int) < 0) = true := by simp; omega
    go_wp2_with fail
    go_ret
    exact ⟨by rw [H.out]; rfl, (Below.refl _ _).alloc (Nat.le_refl _) _⟩
  · have d0 : decide (left - ((x.name.size : Nat) : Int) < 0) = false := by simp; omega
    have H : Hid (leftN x.wt left = left - ((x.name.size : Nat) : Int)) := by unfold Hid leftN; rw [if_neg (by have := HW.out; omega)]; have := HW.out; omega
    go_wp2_with fail
    go_ret
    exact ⟨by rw [H.out]; rfl, (Below.refl _ _).alloc (Nat.le_refl _) _⟩

set_option maxHeartbeats 2000000 in
theorem szSqS (a : Option Addr) (c : Nat) (xs : List Sq) (left : Int) (w : World) (hx : Sl 2 RSq 0 w a c xs) (h0 : 0 ≤ left) (h1 : left ≤ 1048576) :
    Calls Tryz.prog 20 #[.slice a xs.length c, .int .i64 left] w fun e w' => e = .returned (.int .i64 (leftN (xs.length + wtS Sq.wt xs) left)) ∧ Below w.heap.size w w' := by
  have hl := hx.len
  by_cases hs : left < xs.length
  · have H : Hid (leftN (xs.length + wtS Sq.wt xs) left = -1) := by unfold Hid leftN; rw [if_pos (by omega)]
    go_enter Tryz.func20, Tryz.ntmps20
    go_wp2
    go_ret
    exact ⟨by rw [H.out]; rfl, Below.refl _ _⟩
  · have hs' : (xs.length : Int) ≤ left := by omega
    have HX := Lib.hid (fun w' (hb : Below w.heap.size w w') => hx.kept goodSq (Kept.below hb))
    clear hx
    go_enter Tryz.func20, Tryz.ntmps20
    go_wp2
    go_loopw [1, 5] (fun l i wr => ∃ k : Nat, k ≤ xs.length ∧ i = .int .i64 k ∧ wtS Sq.wt (xs.take k) ≤ left - xs.length ∧ l = .int .i64 (left - xs.length - wtS Sq.wt (xs.take k)) ∧ Below w.heap.size w wr) (fun _ i _ => xs.length - (intOf i).toNat)
    case atStart => exact ⟨0, Nat.zero_le _, rfl, by simp [wtS]; omega, by simp [wtS], Below.refl _ _⟩
    case round =>
      obtain ⟨k, hk, rfl, hsm, rfl, hb⟩ := hrel
      by_cases hlt : k < xs.length
      · obtain ⟨b, off, vs, rfl, hbl, hcs, hR⟩ := (HX.out _ hb).spot hlt
        have HR := hR
        obtain ⟨rfl, _⟩ := hR
        have hc0 : wr.cell? ⟨b, off + k * 2, none⟩ = some (.string xs[k].name) := hcs 0 (by simp)
        have hc1 : wr.cell? ⟨b, off + k * 2 + 1, none⟩ = some (.int .i64 xs[k].start) := hcs 1 (by simp)
        have HT := Lib.hid (wtS_take Sq.wt xs k hlt)
        have HL := Lib.hid (wtS_le Sq.wt xs (k + 1))
        have HK := Lib.hid HR
        clear HR hcs
        go_wp2_with fail
        refine (szSq _ xs[k] (left - xs.length - wtS Sq.wt (xs.take k)) _ HK.out (by omega) (by omega)).mono ?_
        by_cases hle : left - xs.length - wtS Sq.wt (xs.take k) < xs[k].wt
        · rw [show leftN xs[k].wt (left - xs.length - wtS Sq.wt (xs.take k)) = -1 from if_pos hle]
          rintro e w2 ⟨rfl, hb2⟩
          have H : Hid (leftN (xs.length + wtS Sq.wt xs) left = -1) := by unfold Hid leftN; rw [if_pos (by have := HT.out; have := HL.out; omega)]
          go_wp2_with fail
          go_ret
          exact ⟨by rw [H.out]; rfl, hb.trans (hb2.mono hb.size)⟩
        · rw [show leftN xs[k].wt (left - xs.length - wtS Sq.wt (xs.take k)) = left - xs.length - wtS Sq.wt (xs.take k) - xs[k].wt from if_neg hle]
          rintro e w2 ⟨rfl, hb2⟩
          go_wp2_with fail
          go_roundw
          case rel => exact ⟨k + 1, by omega, by go_num, by have := HT.out; omega, by rw [HT.out]; go_num, hb.trans (hb2.mono hb.size)⟩
          case measure => simp [intOf]; omega
      · obtain rfl : k = xs.length := by omega
        have H : Hid (leftN (xs.length + wtS Sq.wt xs) left = left - xs.length - wtS Sq.wt xs) := by
          unfold Hid leftN; rw [List.take_length] at hsm; rw [if_neg (by omega)]; omega
        go_wp2_with fail
        go_ret
        exact ⟨by rw [H.out, List.take_length]; rfl, hb⟩

end Go.Proofs.YtjjdcdnaonfnmaaGreat

namespace Go.Proofs.YtjjdcdnaonfnmaaGreat
open Go.RowKit

set_option maxHeartbeats 2000000 in
theorem szCo (vs : List Value) (x : Co) (left : Int) (w : World) (hR : RCo 0 w vs x) (h0 : 0 ≤ left) (h1 : left ≤ 1048576) :
    Calls Tryz.prog 108 #[.agg vs.toArray, .int .i64 left] w fun e w' => e = .returned (.int .i64 (leftN x.wt left)) ∧ Below w.heap.size w w' := by
  obtain ⟨a0, c0, rfl, hfit, k0⟩ := hR
  have t_name : x.name.size ≤ 9223372036854775807 := by have : x.name.size ≤ maxLen := hfit.1; unfold maxLen at this; omega
  have t_ty : x.ty.name.size ≤ 9223372036854775807 := by have : x.ty.name.size ≤ maxLen := hfit.2.1; unfold maxLen at this; omega
  have K0 := Lib.hid (fun w' (hb : Below w.heap.size w w') => k0.kept (Kept.below hb))
  clear k0
  have HW := Lib.hid (show x.wt = x.name.size + x.ty.name.size + (x.dflt.length + wtL x.dflt) from rfl)
  go_enter Tryz.func108, Tryz.ntmps108
  by_cases q0 : left < ((x.name.size : Nat) : Int)
  · have H : Hid (leftN x.wt left = -1) := by unfold Hid leftN; rw [if_pos (by have := HW.out; omega)]
    have d0 : decide (left - ((x.name.size : Nat) : Int) < 0) = true := by simp; omega
    go_wp2_with fail
    go_ret
    exact ⟨by rw [H.out]; rfl, (Below.refl _ _).alloc (Nat.le_refl _) _⟩
  · have d0 : decide (left - ((x.name.size : Nat) : Int) < 0) = false := by simp; omega
    go_wp2_with fail
    refine (szTy0 x.ty.kind x.ty.len x.ty.name (left - ((x.name.size : Nat) : Int)) _ hfit.2.1 (by omega) (by omega)).mono ?_
    by_cases q1 : left - ((x.name.size : Nat) : Int) < ((x.ty.name.size : Nat) : Int)
    · have H : Hid (leftN x.wt left = -1) := by unfold Hid leftN; rw [if_pos (by have := HW.out; omega)]
      rw [show leftN x.ty.name.size (left - ((x.name.size : Nat) : Int)) = -1 from if_pos q1]
      rintro e w1 ⟨rfl, b1⟩
      have B1 := Lib.hid (Below.call b1 ((Below.refl _ _).alloc (Nat.le_refl _) _))
      clear b1
      go_wp2_with fail
      go_ret
      exact ⟨by rw [H.out]; rfl, B1.out⟩
    · have d1 : decide (left - ((x.name.size : Nat) : Int) - ((x.ty.name.size : Nat) : Int) < 0) = false := by simp; omega
      rw [show leftN x.ty.name.size (left - ((x.name.size : Nat) : Int)) = left - ((x.name.size : Nat) : Int) - ((x.ty.name.size : Nat) : Int) from if_neg q1]
      rintro e w1 ⟨rfl, b1⟩
      have B1 := Lib.hid (Below.call b1 ((Below.refl _ _).alloc (Nat.le_refl _) _))
      have A1 := Lib.hid (Blk.call b1 (blk_new w _ [.string x.name, .int .i64 x.ty.kind, .int .i64 x.ty.len, .string x.ty.name, .bool x.notNull, .slice a0 x.dflt.length c0]))
      clear b1
      have g1_0 : w1.cell? ⟨w.heap.size, 0, none⟩ = some (.string x.name) := (A1.out.2 0 (by simp)).1
      have g1_1 : w1.cell? ⟨w.heap.size, 1, none⟩ = some (.int .i64 x.ty.kind) := (A1.out.2 1 (by simp)).1
      have g1_2 : w1.cell? ⟨w.heap.size, 2, none⟩ = some (.int .i64 x.ty.len) := (A1.out.2 2 (by simp)).1
      have g1_3 : w1.cell? ⟨w.heap.size, 3, none⟩ = some (.string x.ty.name) := (A1.out.2 3 (by simp)).1
      have g1_4 : w1.cell? ⟨w.heap.size, 4, none⟩ = some (.bool x.notNull) := (A1.out.2 4 (by simp)).1
      have g1_5 : w1.cell? ⟨w.heap.size, 5, none⟩ = some (.slice a0 x.dflt.length c0) := (A1.out.2 5 (by simp)).1
      go_wp2_with fail
      refine (szKs a0 c0 x.dflt (left - ((x.name.size : Nat) : Int) - ((x.ty.name.size : Nat) : Int)) _ (K0.out _ ?_) (by omega) (by omega)).mono ?_
      · exact B1.out
      by_cases q2 : left - ((x.name.size : Nat) : Int) - ((x.ty.name.size : Nat) : Int) < (((x.dflt.length + wtL x.dflt) : Nat) : Int)
      · have H : Hid (leftN x.wt left = -1) := by unfold Hid leftN; rw [if_pos (by have := HW.out; omega)]
        rw [show leftN (x.dflt.length + wtL x.dflt) (left - ((x.name.size : Nat) : Int) - ((x.ty.name.size : Nat) : Int)) = -1 from if_pos q2]
        rintro e w2 ⟨rfl, b2⟩
        have B2 := Lib.hid (Below.call b2 B1.out)
        clear b2
        go_wp2_with fail
        go_ret
        exact ⟨by rw [H.out]; rfl, B2.out⟩
      · have d2 : decide (left - ((x.name.size : Nat) : Int) - ((x.ty.name.size : Nat) : Int) - (((x.dflt.length + wtL x.dflt) : Nat) : Int) < 0) = false := by simp; omega
        rw [show leftN (x.dflt.length + wtL x.dflt) (left - ((x.name.size : Nat) : Int) - ((x.ty.name.size : Nat) : Int)) = left - ((x.name.size : Nat) : Int) - ((x.ty.name.size : Nat) : Int) - (((x.dflt.length + wtL x.dflt) : Nat) : Int) from if_neg q2]
        rintro e w2 ⟨rfl, b2⟩
        have B2 := Lib.hid (Below.call b2 B1.out)
        have A2 := Lib.hid (Blk.call b2 A1.out)
        clear b2
        clear g1_0 g1_1 g1_2 g1_3 g1_4 g1_5
        have g2_0 : w2.cell? ⟨w.heap.size, 0, none⟩ = some (.string x.name) := (A2.out.2 0 (by simp)).1
        have g2_1 : w2.cell? ⟨w.heap.size, 1, none⟩ = some (.int .i64 x.ty.kind) := (A2.out.2 1 (by simp)).1
        have g2_2 : w2.cell? ⟨w.heap.size, 2, none⟩ = some (.int .i64 x.ty.len) := (A2.out.2 2 (by simp)).1
        have g2_3 : w2.cell? ⟨w.heap.size, 3, none⟩ = some (.string x.ty.name) := (A2.out.2 3 (by simp)).1
        have g2_4 : w2.cell? ⟨w.heap.size, 4, none⟩ = some (.bool x.notNull) := (A2.out.2 4 (by simp)).1
        have g2_5 : w2.cell? ⟨w.heap.size, 5, none⟩ = some (.slice a0 x.dflt.length c0) := (A2.out.2 5 (by simp)).1
        have H : Hid (leftN x.wt left = left - ((x.name.size : Nat) : Int) - ((x.ty.name.size : Nat) : Int) - (((x.dflt.length + wtL x.dflt) : Nat) : Int)) := by unfold Hid leftN; rw [if_neg (by have := HW.out; omega)]; have := HW.out; omega
        go_wp2_with fail
        go_ret
        exact ⟨by rw [H.out]; rfl, B2.out⟩

set_option maxHeartbeats 2000000 in
theorem szCoS (a : Option Addr) (c : Nat) (xs : List Co) (left : Int) (w : World) (hx : Sl 6 RCo 0 w a c xs) (h0 : 0 ≤ left) (h1 : left ≤ 1048576) :
    Calls Tryz.prog 93 #[.slice a xs.length c, .int .i64 left] w fun e w' => e = .returned (.int .i64 (leftN (xs.length + wtS Co.wt xs) left)) ∧ Below w.heap.size w w' := by
  have hl := hx.len
  by_cases hs : left < xs.length
  · have H : Hid (leftN (xs.length + wtS Co.wt xs) left = -1) := by unfold Hid leftN; rw [if_pos (by omega)]
    go_enter Tryz.func93, Tryz.ntmps93
    go_wp2
    go_ret
    exact ⟨by rw [H.out]; rfl, Below.refl _ _⟩
  · have hs' : (xs.length : Int) ≤ left := by omega
    have HX := Lib.hid (fun w' (hb : Below w.heap.size w w') => hx.kept goodCo (Kept.below hb))
    clear hx
    go_enter Tryz.func93, Tryz.ntmps93
    go_wp2
    go_loopw [1, 5] (fun l i wr => ∃ k : Nat, k ≤ xs.length ∧ i = .int .i64 k ∧ wtS Co.wt (xs.take k) ≤ left - xs.length ∧ l = .int .i64 (left - xs.length - wtS Co.wt (xs.take k)) ∧ Below w.heap.size w wr) (fun _ i _ => xs.length - (intOf i).toNat)
    case atStart => exact ⟨0, Nat.zero_le _, rfl, by simp [wtS]; omega, by simp [wtS], Below.refl _ _⟩
    case round =>
      obtain ⟨k, hk, rfl, hsm, rfl, hb⟩ := hrel
      by_cases hlt : k < xs.length
      · obtain ⟨b, off, vs, rfl, hbl, hcs, hR⟩ := (HX.out _ hb).spot hlt
        have HR := hR
        obtain ⟨a0, c0, rfl, _⟩ := hR
        have hc0 : wr.cell? ⟨b, off + k * 6, none⟩ = some (.string xs[k].name) := hcs 0 (by simp)
        have hc1 : wr.cell? ⟨b, off + k * 6 + 1, none⟩ = some (.int .i64 xs[k].ty.kind) := hcs 1 (by simp)
        have hc2 : wr.cell? ⟨b, off + k * 6 + 2, none⟩ = some (.int .i64 xs[k].ty.len) := hcs 2 (by simp)
        have hc3 : wr.cell? ⟨b, off + k * 6 + 3, none⟩ = some (.string xs[k].ty.name) := hcs 3 (by simp)
        have hc4 : wr.cell? ⟨b, off + k * 6 + 4, none⟩ = some (.bool xs[k].notNull) := hcs 4 (by simp)
        have hc5 : wr.cell? ⟨b, off + k * 6 + 5, none⟩ = some (.slice a0 xs[k].dflt.length c0) := hcs 5 (by simp)
        have HT := Lib.hid (wtS_take Co.wt xs k hlt)
        have HL := Lib.hid (wtS_le Co.wt xs (k + 1))
        have HK := Lib.hid HR
        clear HR hcs
        go_wp2_with fail
        refine (szCo _ xs[k] (left - xs.length - wtS Co.wt (xs.take k)) _ HK.out (by omega) (by omega)).mono ?_
        by_cases hle : left - xs.length - wtS Co.wt (xs.take k) < xs[k].wt
        · rw [show leftN xs[k].wt (left - xs.length - wtS Co.wt (xs.take k)) = -1 from if_pos hle]
          rintro e w2 ⟨rfl, hb2⟩
          have H : Hid (leftN (xs.length + wtS Co.wt xs) left = -1) := by unfold Hid leftN; rw [if_pos (by have := HT.out; have := HL.out; omega)]
          go_wp2_with fail
          go_ret
          exact ⟨by rw [H.out]; rfl, hb.trans (hb2.mono hb.size)⟩
        · rw [show leftN xs[k].wt (left - xs.length - wtS Co.wt (xs.take k)) = left - xs.length - wtS Co.wt (xs.take k) - xs[k].wt from if_neg hle]
          rintro e w2 ⟨rfl, hb2⟩
          go_wp2_with fail
          go_roundw
          case rel => exact ⟨k + 1, by omega, by go_num, by have := HT.out; omega, by rw [HT.out]; go_num, hb.trans (hb2.mono hb.size)⟩
          case measure => simp [intOf]; omega
      · obtain rfl : k = xs.length := by omega
        have H : Hid (leftN (xs.length + wtS Co.wt xs) left = left - xs.length - wtS Co.wt xs) := by
          unfold Hid leftN; rw [List.take_length] at hsm; rw [if_neg (by omega)]; omega
        go_wp2_with fail
        go_ret
        exact ⟨by rw [H.out, List.take_length]; rfl, hb⟩

end Go.Proofs.YtjjdcdnaonfnmaaGreat

namespace Go.Proofs.YtjjdcdnaonfnmaaGreat
open Go.RowKit

set_option maxHeartbeats 2000000 in
theorem szRu (vs : List Value) (x : Ru) (left : Int) (w : World) (hR : RRu 0 w vs x) (h0 : 0 ≤ left) (h1 : left ≤ 1048576) :
    Calls Tryz.prog 109 #[.agg vs.toArray, .int .i64 left] w fun e w' => e = .returned (.int .i64 (leftN x.wt left)) ∧ Below w.heap.size w w' := by
  obtain ⟨a0, c0, a1, c1, a2, c2, rfl, hfit, k0, k1, k2⟩ := hR
  have t_name : x.name.size ≤ 9223372036854775807 := by have : x.name.size ≤ maxLen := hfit.1; unfold maxLen at this; omega
  have t_table : x.table.size ≤ 9223372036854775807 := by have : x.table.size ≤ maxLen := hfit.2.2; unfold maxLen at this; omega
  have K0 := Lib.hid (fun w' (hb : Below w.heap.size w w') => k0.kept (Kept.below hb))
  clear k0
  have K1 := Lib.hid (fun w' (hb : Below w.heap.size w w') => k1.kept (Kept.below hb))
  clear k1
  have K2 := Lib.hid (fun w' (hb : Below w.heap.size w w') => k2.kept (Kept.below hb))
  clear k2
  have HW := Lib.hid (show x.wt = x.name.size + (x.cols.length + lets x.cols) + (x.expr.length + wtL x.expr) + x.table.size + (x.to.length + lets x.to) from rfl)
  go_enter Tryz.func109, Tryz.ntmps109
  by_cases q0 : left < ((x.name.size : Nat) : Int)
  · have H : Hid (leftN x.wt left = -1) := by unfold Hid leftN; rw [if_pos (by have := HW.out; omega)]
    have d0 : decide (left - ((x.name.size : Nat) : Int) < 0) = true := by simp; omega
    go_wp2_with fail
    go_ret
    exact ⟨by rw [H.out]; rfl, (Below.refl _ _).alloc (Nat.le_refl _) _⟩
  · have d0 : decide (left - ((x.name.size : Nat) : Int) < 0) = false := by simp; omega
    go_wp2_with fail
    refine (szSs a0 c0 x.cols (left - ((x.name.size : Nat) : Int)) _ (K0.out _ ?_) (by omega) (by omega)).mono ?_
    · exact (Below.refl _ _).alloc (Nat.le_refl _) _
    by_cases q1 : left - ((x.name.size : Nat) : Int) < (((x.cols.length + lets x.cols) : Nat) : Int)
    · have H : Hid (leftN x.wt left = -1) := by unfold Hid leftN; rw [if_pos (by have := HW.out; omega)]
      rw [show leftN (x.cols.length + lets x.cols) (left - ((x.name.size : Nat) : Int)) = -1 from if_pos q1]
      rintro e w1 ⟨rfl, b1⟩
      have B1 := Lib.hid (Below.call b1 ((Below.refl _ _).alloc (Nat.le_refl _) _))
      clear b1
      go_wp2_with fail
      go_ret
      exact ⟨by rw [H.out]; rfl, B1.out⟩
    · have d1 : decide (left - ((x.name.size : Nat) : Int) - (((x.cols.length + lets x.cols) : Nat) : Int) < 0) = false := by simp; omega
      rw [show leftN (x.cols.length + lets x.cols) (left - ((x.name.size : Nat) : Int)) = left - ((x.name.size : Nat) : Int) - (((x.cols.length + lets x.cols) : Nat) : Int) from if_neg q1]
      rintro e w1 ⟨rfl, b1⟩
      have B1 := Lib.hid (Below.call b1 ((Below.refl _ _).alloc (Nat.le_refl _) _))
      have A1 := Lib.hid (Blk.call b1 (blk_new w _ [.string x.name, .int .i64 x.kind, .slice a0 x.cols.length c0, .slice a1 x.expr.length c1, .string x.table, .slice a2 x.to.length c2]))
      clear b1
      have g1_0 : w1.cell? ⟨w.heap.size, 0, none⟩ = some (.string x.name) := (A1.out.2 0 (by simp)).1
      have g1_1 : w1.cell? ⟨w.heap.size, 1, none⟩ = some (.int .i64 x.kind) := (A1.out.2 1 (by simp)).1
      have g1_2 : w1.cell? ⟨w.heap.size, 2, none⟩ = some (.slice a0 x.cols.length c0) := (A1.out.2 2 (by simp)).1
      have g1_3 : w1.cell? ⟨w.heap.size, 3, none⟩ = some (.slice a1 x.expr.length c1) := (A1.out.2 3 (by simp)).1
      have g1_4 : w1.cell? ⟨w.heap.size, 4, none⟩ = some (.string x.table) := (A1.out.2 4 (by simp)).1
      have g1_5 : w1.cell? ⟨w.heap.size, 5, none⟩ = some (.slice a2 x.to.length c2) := (A1.out.2 5 (by simp)).1
      go_wp2_with fail
      refine (szKs a1 c1 x.expr (left - ((x.name.size : Nat) : Int) - (((x.cols.length + lets x.cols) : Nat) : Int)) _ (K1.out _ ?_) (by omega) (by omega)).mono ?_
      · exact B1.out
      by_cases q2 : left - ((x.name.size : Nat) : Int) - (((x.cols.length + lets x.cols) : Nat) : Int) < (((x.expr.length + wtL x.expr) : Nat) : Int)
      · have H : Hid (leftN x.wt left = -1) := by unfold Hid leftN; rw [if_pos (by have := HW.out; omega)]
        rw [show leftN (x.expr.length + wtL x.expr) (left - ((x.name.size : Nat) : Int) - (((x.cols.length + lets x.cols) : Nat) : Int)) = -1 from if_pos q2]
        rintro e w2 ⟨rfl, b2⟩
        have B2 := Lib.hid (Below.call b2 B1.out)
        clear b2
        go_wp2_with fail
        go_ret
        exact ⟨by rw [H.out]; rfl, B2.out⟩
      · have d2 : decide (left - ((x.name.size : Nat) : Int) - (((x.cols.length + lets x.cols) : Nat) : Int) - (((x.expr.length + wtL x.expr) : Nat) : Int) < 0) = false := by simp; omega
        rw [show leftN (x.expr.length + wtL x.expr) (left - ((x.name.size : Nat) : Int) - (((x.cols.length + lets x.cols) : Nat) : Int)) = left - ((x.name.size : Nat) : Int) - (((x.cols.length + lets x.cols) : Nat) : Int) - (((x.expr.length + wtL x.expr) : Nat) : Int) from if_neg q2]
        rintro e w2 ⟨rfl, b2⟩
        have B2 := Lib.hid (Below.call b2 B1.out)
        have A2 := Lib.hid (Blk.call b2 A1.out)
        clear b2
        clear g1_0 g1_1 g1_2 g1_3 g1_4 g1_5
        have g2_0 : w2.cell? ⟨w.heap.size, 0, none⟩ = some (.string x.name) := (A2.out.2 0 (by simp)).1
        have g2_1 : w2.cell? ⟨w.heap.size, 1, none⟩ = some (.int .i64 x.kind) := (A2.out.2 1 (by simp)).1
        have g2_2 : w2.cell? ⟨w.heap.size, 2, none⟩ = some (.slice a0 x.cols.length c0) := (A2.out.2 2 (by simp)).1
        have g2_3 : w2.cell? ⟨w.heap.size, 3, none⟩ = some (.slice a1 x.expr.length c1) := (A2.out.2 3 (by simp)).1
        have g2_4 : w2.cell? ⟨w.heap.size, 4, none⟩ = some (.string x.table) := (A2.out.2 4 (by simp)).1
        have g2_5 : w2.cell? ⟨w.heap.size, 5, none⟩ = some (.slice a2 x.to.length c2) := (A2.out.2 5 (by simp)).1
        by_cases q3 : left - ((x.name.size : Nat) : Int) - (((x.cols.length + lets x.cols) : Nat) : Int) - (((x.expr.length + wtL x.expr) : Nat) : Int) < ((x.table.size : Nat) : Int)
        · have H : Hid (leftN x.wt left = -1) := by unfold Hid leftN; rw [if_pos (by have := HW.out; omega)]
          have d3 : decide (left - ((x.name.size : Nat) : Int) - (((x.cols.length + lets x.cols) : Nat) : Int) - (((x.expr.length + wtL x.expr) : Nat) : Int) - ((x.table.size : Nat) : Int) < 0) = true := by simp; omega
          go_wp2_with fail
          go_ret
          exact ⟨by rw [H.out]; rfl, B2.out⟩
        · have d3 : decide (left - ((x.name.size : Nat) : Int) - (((x.cols.length + lets x.cols) : Nat) : Int) - (((x.expr.length + wtL x.expr) : Nat) : Int) - ((x.table.size : Nat) : Int) < 0) = false := by simp; omega
          go_wp2_with fail
          refine (szSs a2 c2 x.to (left - ((x.name.size : Nat) : Int) - (((x.cols.length + lets x.cols) : Nat) : Int) - (((x.expr.length + wtL x.expr) : Nat) : Int) - ((x.table.size : Nat) : Int)) _ (K2.out _ ?_) (by omega) (by omega)).mono ?_
          · exact B2.out
          by_cases q4 : left - ((x.name.size : Nat) : Int) - (((x.cols.length + lets x.cols) : Nat) : Int) - (((x.expr.length + wtL x.expr) : Nat) : Int) - ((x.table.size : Nat) : Int) < (((x.to.length + lets x.to) : Nat) : Int)
          · have H : Hid (leftN x.wt left = -1) := by unfold Hid leftN; rw [if_pos (by have := HW.out; omega)]
            rw [show leftN (x.to.length + lets x.to) (left - ((x.name.size : Nat) : Int) - (((x.cols.length + lets x.cols) : Nat) : Int) - (((x.expr.length + wtL x.expr) : Nat) : Int) - ((x.table.size : Nat) : Int)) = -1 from if_pos q4]
            rintro e w4 ⟨rfl, b4⟩
            have B4 := Lib.hid (Below.call b4 B2.out)
            clear b4
            go_wp2_with fail
            go_ret
            exact ⟨by rw [H.out]; rfl, B4.out⟩
          · have d4 : decide (left - ((x.name.size : Nat) : Int) - (((x.cols.length + lets x.cols) : Nat) : Int) - (((x.expr.length + wtL x.expr) : Nat) : Int) - ((x.table.size : Nat) : Int) - (((x.to.length + lets x.to) : Nat) : Int) < 0) = false := by simp; omega
            rw [show leftN (x.to.length + lets x.to) (left - ((x.name.size : Nat) : Int) - (((x.cols.length + lets x.cols) : Nat) : Int) - (((x.expr.length + wtL x.expr) : Nat) : Int) - ((x.table.size : Nat) : Int)) = left - ((x.name.size : Nat) : Int) - (((x.cols.length + lets x.cols) : Nat) : Int) - (((x.expr.length + wtL x.expr) : Nat) : Int) - ((x.table.size : Nat) : Int) - (((x.to.length + lets x.to) : Nat) : Int) from if_neg q4]
            rintro e w4 ⟨rfl, b4⟩
            have B4 := Lib.hid (Below.call b4 B2.out)
            have A4 := Lib.hid (Blk.call b4 A2.out)
            clear b4
            clear g2_0 g2_1 g2_2 g2_3 g2_4 g2_5
            have g4_0 : w4.cell? ⟨w.heap.size, 0, none⟩ = some (.string x.name) := (A4.out.2 0 (by simp)).1
            have g4_1 : w4.cell? ⟨w.heap.size, 1, none⟩ = some (.int .i64 x.kind) := (A4.out.2 1 (by simp)).1
            have g4_2 : w4.cell? ⟨w.heap.size, 2, none⟩ = some (.slice a0 x.cols.length c0) := (A4.out.2 2 (by simp)).1
            have g4_3 : w4.cell? ⟨w.heap.size, 3, none⟩ = some (.slice a1 x.expr.length c1) := (A4.out.2 3 (by simp)).1
            have g4_4 : w4.cell? ⟨w.heap.size, 4, none⟩ = some (.string x.table) := (A4.out.2 4 (by simp)).1
            have g4_5 : w4.cell? ⟨w.heap.size, 5, none⟩ = some (.slice a2 x.to.length c2) := (A4.out.2 5 (by simp)).1
            have H : Hid (leftN x.wt left = left - ((x.name.size : Nat) : Int) - (((x.cols.length + lets x.cols) : Nat) : Int) - (((x.expr.length + wtL x.expr) : Nat) : Int) - ((x.table.size : Nat) : Int) - (((x.to.length + lets x.to) : Nat) : Int)) := by unfold Hid leftN; rw [if_neg (by have := HW.out; omega)]; have := HW.out; omega
            go_wp2_with fail
            go_ret
            exact ⟨by rw [H.out]; rfl, B4.out⟩

set_option maxHeartbeats 2000000 in
theorem szRuS (a : Option Addr) (c : Nat) (xs : List Ru) (left : Int) (w : World) (hx : Sl 6 RRu 0 w a c xs) (h0 : 0 ≤ left) (h1 : left ≤ 1048576) :
    Calls Tryz.prog 94 #[.slice a xs.length c, .int .i64 left] w fun e w' => e = .returned (.int .i64 (leftN (xs.length + wtS Ru.wt xs) left)) ∧ Below w.heap.size w w' := by
  have hl := hx.len
  by_cases hs : left < xs.length
  · have H : Hid (leftN (xs.length + wtS Ru.wt xs) left = -1) := by unfold Hid leftN; rw [if_pos (by omega)]
    go_enter Tryz.func94, Tryz.ntmps94
    go_wp2
    go_ret
    exact ⟨by rw [H.out]; rfl, Below.refl _ _⟩
  · have hs' : (xs.length : Int) ≤ left := by omega
    have HX := Lib.hid (fun w' (hb : Below w.heap.size w w') => hx.kept goodRu (Kept.below hb))
    clear hx
    go_enter Tryz.func94, Tryz.ntmps94
    go_wp2
    go_loopw [1, 5] (fun l i wr => ∃ k : Nat, k ≤ xs.length ∧ i = .int .i64 k ∧ wtS Ru.wt (xs.take k) ≤ left - xs.length ∧ l = .int .i64 (left - xs.length - wtS Ru.wt (xs.take k)) ∧ Below w.heap.size w wr) (fun _ i _ => xs.length - (intOf i).toNat)
    case atStart => exact ⟨0, Nat.zero_le _, rfl, by simp [wtS]; omega, by simp [wtS], Below.refl _ _⟩
    case round =>
      obtain ⟨k, hk, rfl, hsm, rfl, hb⟩ := hrel
      by_cases hlt : k < xs.length
      · obtain ⟨b, off, vs, rfl, hbl, hcs, hR⟩ := (HX.out _ hb).spot hlt
        have HR := hR
        obtain ⟨a0, c0, a1, c1, a2, c2, rfl, _⟩ := hR
        have hc0 : wr.cell? ⟨b, off + k * 6, none⟩ = some (.string xs[k].name) := hcs 0 (by simp)
        have hc1 : wr.cell? ⟨b, off + k * 6 + 1, none⟩ = some (.int .i64 xs[k].kind) := hcs 1 (by simp)
        have hc2 : wr.cell? ⟨b, off + k * 6 + 2, none⟩ = some (.slice a0 xs[k].cols.length c0) := hcs 2 (by simp)
        have hc3 : wr.cell? ⟨b, off + k * 6 + 3, none⟩ = some (.slice a1 xs[k].expr.length c1) := hcs 3 (by simp)
        have hc4 : wr.cell? ⟨b, off + k * 6 + 4, none⟩ = some (.string xs[k].table) := hcs 4 (by simp)
        have hc5 : wr.cell? ⟨b, off + k * 6 + 5, none⟩ = some (.slice a2 xs[k].to.length c2) := hcs 5 (by simp)
        have HT := Lib.hid (wtS_take Ru.wt xs k hlt)
        have HL := Lib.hid (wtS_le Ru.wt xs (k + 1))
        have HK := Lib.hid HR
        clear HR hcs
        go_wp2_with fail
        refine (szRu _ xs[k] (left - xs.length - wtS Ru.wt (xs.take k)) _ HK.out (by omega) (by omega)).mono ?_
        by_cases hle : left - xs.length - wtS Ru.wt (xs.take k) < xs[k].wt
        · rw [show leftN xs[k].wt (left - xs.length - wtS Ru.wt (xs.take k)) = -1 from if_pos hle]
          rintro e w2 ⟨rfl, hb2⟩
          have H : Hid (leftN (xs.length + wtS Ru.wt xs) left = -1) := by unfold Hid leftN; rw [if_pos (by have := HT.out; have := HL.out; omega)]
          go_wp2_with fail
          go_ret
          exact ⟨by rw [H.out]; rfl, hb.trans (hb2.mono hb.size)⟩
        · rw [show leftN xs[k].wt (left - xs.length - wtS Ru.wt (xs.take k)) = left - xs.length - wtS Ru.wt (xs.take k) - xs[k].wt from if_neg hle]
          rintro e w2 ⟨rfl, hb2⟩
          go_wp2_with fail
          go_roundw
          case rel => exact ⟨k + 1, by omega, by go_num, by have := HT.out; omega, by rw [HT.out]; go_num, hb.trans (hb2.mono hb.size)⟩
          case measure => simp [intOf]; omega
      · obtain rfl : k = xs.length := by omega
        have H : Hid (leftN (xs.length + wtS Ru.wt xs) left = left - xs.length - wtS Ru.wt xs) := by
          unfold Hid leftN; rw [List.take_length] at hsm; rw [if_neg (by omega)]; omega
        go_wp2_with fail
        go_ret
        exact ⟨by rw [H.out, List.take_length]; rfl, hb⟩

end Go.Proofs.YtjjdcdnaonfnmaaGreat

namespace Go.Proofs.YtjjdcdnaonfnmaaGreat
open Go.RowKit

set_option maxHeartbeats 2000000 in
theorem szTb (vs : List Value) (x : Tb) (left : Int) (w : World) (hR : RTb 0 w vs x) (h0 : 0 ≤ left) (h1 : left ≤ 1048576) :
    Calls Tryz.prog 67 #[.agg vs.toArray, .int .i64 left] w fun e w' => e = .returned (.int .i64 (leftN x.wt left)) ∧ Below w.heap.size w w' := by
  obtain ⟨a0, c0, a1, c1, rfl, hfit, k0, k1⟩ := hR
  have t_name : x.name.size ≤ 9223372036854775807 := by have : x.name.size ≤ maxLen := hfit.1; unfold maxLen at this; omega
  have K0 := Lib.hid (fun w' (hb : Below w.heap.size w w') => k0.kept goodCo (Kept.below hb))
  clear k0
  have K1 := Lib.hid (fun w' (hb : Below w.heap.size w w') => k1.kept goodRu (Kept.below hb))
  clear k1
  have HW := Lib.hid (show x.wt = x.name.size + (x.cols.length + wtS Co.wt x.cols) + (x.rules.length + wtS Ru.wt x.rules) from rfl)
  go_enter Tryz.func67, Tryz.ntmps67
  by_cases q0 : left < ((x.name.size : Nat) : Int)
  · have H : Hid (leftN x.wt left = -1) := by unfold Hid leftN; rw [if_pos (by have := HW.out; omega)]
    have d0 : decide (left - ((x.name.size : Nat) : Int) < 0) = true := by simp; omega
    go_wp2_with fail
    go_ret
    exact ⟨by rw [H.out]; rfl, (Below.refl _ _).alloc (Nat.le_refl _) _⟩
  · have d0 : decide (left - ((x.name.size : Nat) : Int) < 0) = false := by simp; omega
    go_wp2_with fail
    refine (szCoS a0 c0 x.cols (left - ((x.name.size : Nat) : Int)) _ (K0.out _ ?_) (by omega) (by omega)).mono ?_
    · exact (Below.refl _ _).alloc (Nat.le_refl _) _
    by_cases q1 : left - ((x.name.size : Nat) : Int) < (((x.cols.length + wtS Co.wt x.cols) : Nat) : Int)
    · have H : Hid (leftN x.wt left = -1) := by unfold Hid leftN; rw [if_pos (by have := HW.out; omega)]
      rw [show leftN (x.cols.length + wtS Co.wt x.cols) (left - ((x.name.size : Nat) : Int)) = -1 from if_pos q1]
      rintro e w1 ⟨rfl, b1⟩
      have B1 := Lib.hid (Below.call b1 ((Below.refl _ _).alloc (Nat.le_refl _) _))
      clear b1
      go_wp2_with fail
      go_ret
      exact ⟨by rw [H.out]; rfl, B1.out⟩
    · have d1 : decide (left - ((x.name.size : Nat) : Int) - (((x.cols.length + wtS Co.wt x.cols) : Nat) : Int) < 0) = false := by simp; omega
      rw [show leftN (x.cols.length + wtS Co.wt x.cols) (left - ((x.name.size : Nat) : Int)) = left - ((x.name.size : Nat) : Int) - (((x.cols.length + wtS Co.wt x.cols) : Nat) : Int) from if_neg q1]
      rintro e w1 ⟨rfl, b1⟩
      have B1 := Lib.hid (Below.call b1 ((Below.refl _ _).alloc (Nat.le_refl _) _))
      have A1 := Lib.hid (Blk.call b1 (blk_new w _ [.string x.name, .slice a0 x.cols.length c0, .slice a1 x.rules.length c1, .int .i64 x.token]))
      clear b1
      have g1_0 : w1.cell? ⟨w.heap.size, 0, none⟩ = some (.string x.name) := (A1.out.2 0 (by simp)).1
      have g1_1 : w1.cell? ⟨w.heap.size, 1, none⟩ = some (.slice a0 x.cols.length c0) := (A1.out.2 1 (by simp)).1
      have g1_2 : w1.cell? ⟨w.heap.size, 2, none⟩ = some (.slice a1 x.rules.length c1) := (A1.out.2 2 (by simp)).1
      have g1_3 : w1.cell? ⟨w.heap.size, 3, none⟩ = some (.int .i64 x.token) := (A1.out.2 3 (by simp)).1
      go_wp2_with fail
      refine (szRuS a1 c1 x.rules (left - ((x.name.size : Nat) : Int) - (((x.cols.length + wtS Co.wt x.cols) : Nat) : Int)) _ (K1.out _ ?_) (by omega) (by omega)).mono ?_
      · exact B1.out
      by_cases q2 : left - ((x.name.size : Nat) : Int) - (((x.cols.length + wtS Co.wt x.cols) : Nat) : Int) < (((x.rules.length + wtS Ru.wt x.rules) : Nat) : Int)
      · have H : Hid (leftN x.wt left = -1) := by unfold Hid leftN; rw [if_pos (by have := HW.out; omega)]
        rw [show leftN (x.rules.length + wtS Ru.wt x.rules) (left - ((x.name.size : Nat) : Int) - (((x.cols.length + wtS Co.wt x.cols) : Nat) : Int)) = -1 from if_pos q2]
        rintro e w2 ⟨rfl, b2⟩
        have B2 := Lib.hid (Below.call b2 B1.out)
        clear b2
        go_wp2_with fail
        go_ret
        exact ⟨by rw [H.out]; rfl, B2.out⟩
      · have d2 : decide (left - ((x.name.size : Nat) : Int) - (((x.cols.length + wtS Co.wt x.cols) : Nat) : Int) - (((x.rules.length + wtS Ru.wt x.rules) : Nat) : Int) < 0) = false := by simp; omega
        rw [show leftN (x.rules.length + wtS Ru.wt x.rules) (left - ((x.name.size : Nat) : Int) - (((x.cols.length + wtS Co.wt x.cols) : Nat) : Int)) = left - ((x.name.size : Nat) : Int) - (((x.cols.length + wtS Co.wt x.cols) : Nat) : Int) - (((x.rules.length + wtS Ru.wt x.rules) : Nat) : Int) from if_neg q2]
        rintro e w2 ⟨rfl, b2⟩
        have B2 := Lib.hid (Below.call b2 B1.out)
        have A2 := Lib.hid (Blk.call b2 A1.out)
        clear b2
        clear g1_0 g1_1 g1_2 g1_3
        have g2_0 : w2.cell? ⟨w.heap.size, 0, none⟩ = some (.string x.name) := (A2.out.2 0 (by simp)).1
        have g2_1 : w2.cell? ⟨w.heap.size, 1, none⟩ = some (.slice a0 x.cols.length c0) := (A2.out.2 1 (by simp)).1
        have g2_2 : w2.cell? ⟨w.heap.size, 2, none⟩ = some (.slice a1 x.rules.length c1) := (A2.out.2 2 (by simp)).1
        have g2_3 : w2.cell? ⟨w.heap.size, 3, none⟩ = some (.int .i64 x.token) := (A2.out.2 3 (by simp)).1
        have H : Hid (leftN x.wt left = left - ((x.name.size : Nat) : Int) - (((x.cols.length + wtS Co.wt x.cols) : Nat) : Int) - (((x.rules.length + wtS Ru.wt x.rules) : Nat) : Int)) := by unfold Hid leftN; rw [if_neg (by have := HW.out; omega)]; have := HW.out; omega
        go_wp2_with fail
        go_ret
        exact ⟨by rw [H.out]; rfl, B2.out⟩

set_option maxHeartbeats 2000000 in
theorem szTbS (a : Option Addr) (c : Nat) (xs : List Tb) (left : Int) (w : World) (hx : Sl 4 RTb 0 w a c xs) (h0 : 0 ≤ left) (h1 : left ≤ 1048576) :
    Calls Tryz.prog 21 #[.slice a xs.length c, .int .i64 left] w fun e w' => e = .returned (.int .i64 (leftN (xs.length + wtS Tb.wt xs) left)) ∧ Below w.heap.size w w' := by
  have hl := hx.len
  by_cases hs : left < xs.length
  · have H : Hid (leftN (xs.length + wtS Tb.wt xs) left = -1) := by unfold Hid leftN; rw [if_pos (by omega)]
    go_enter Tryz.func21, Tryz.ntmps21
    go_wp2
    go_ret
    exact ⟨by rw [H.out]; rfl, Below.refl _ _⟩
  · have hs' : (xs.length : Int) ≤ left := by omega
    have HX := Lib.hid (fun w' (hb : Below w.heap.size w w') => hx.kept goodTb (Kept.below hb))
    clear hx
    go_enter Tryz.func21, Tryz.ntmps21
    go_wp2
    go_loopw [1, 5] (fun l i wr => ∃ k : Nat, k ≤ xs.length ∧ i = .int .i64 k ∧ wtS Tb.wt (xs.take k) ≤ left - xs.length ∧ l = .int .i64 (left - xs.length - wtS Tb.wt (xs.take k)) ∧ Below w.heap.size w wr) (fun _ i _ => xs.length - (intOf i).toNat)
    case atStart => exact ⟨0, Nat.zero_le _, rfl, by simp [wtS]; omega, by simp [wtS], Below.refl _ _⟩
    case round =>
      obtain ⟨k, hk, rfl, hsm, rfl, hb⟩ := hrel
      by_cases hlt : k < xs.length
      · obtain ⟨b, off, vs, rfl, hbl, hcs, hR⟩ := (HX.out _ hb).spot hlt
        have HR := hR
        obtain ⟨a0, c0, a1, c1, rfl, _⟩ := hR
        have hc0 : wr.cell? ⟨b, off + k * 4, none⟩ = some (.string xs[k].name) := hcs 0 (by simp)
        have hc1 : wr.cell? ⟨b, off + k * 4 + 1, none⟩ = some (.slice a0 xs[k].cols.length c0) := hcs 1 (by simp)
        have hc2 : wr.cell? ⟨b, off + k * 4 + 2, none⟩ = some (.slice a1 xs[k].rules.length c1) := hcs 2 (by simp)
        have hc3 : wr.cell? ⟨b, off + k * 4 + 3, none⟩ = some (.int .i64 xs[k].token) := hcs 3 (by simp)
        have HT := Lib.hid (wtS_take Tb.wt xs k hlt)
        have HL := Lib.hid (wtS_le Tb.wt xs (k + 1))
        have HK := Lib.hid HR
        clear HR hcs
        go_wp2_with fail
        refine (szTb _ xs[k] (left - xs.length - wtS Tb.wt (xs.take k)) _ HK.out (by omega) (by omega)).mono ?_
        by_cases hle : left - xs.length - wtS Tb.wt (xs.take k) < xs[k].wt
        · rw [show leftN xs[k].wt (left - xs.length - wtS Tb.wt (xs.take k)) = -1 from if_pos hle]
          rintro e w2 ⟨rfl, hb2⟩
          have H : Hid (leftN (xs.length + wtS Tb.wt xs) left = -1) := by unfold Hid leftN; rw [if_pos (by have := HT.out; have := HL.out; omega)]
          go_wp2_with fail
          go_ret
          exact ⟨by rw [H.out]; rfl, hb.trans (hb2.mono hb.size)⟩
        · rw [show leftN xs[k].wt (left - xs.length - wtS Tb.wt (xs.take k)) = left - xs.length - wtS Tb.wt (xs.take k) - xs[k].wt from if_neg hle]
          rintro e w2 ⟨rfl, hb2⟩
          go_wp2_with fail
          go_roundw
          case rel => exact ⟨k + 1, by omega, by go_num, by have := HT.out; omega, by rw [HT.out]; go_num, hb.trans (hb2.mono hb.size)⟩
          case measure => simp [intOf]; omega
      · obtain rfl : k = xs.length := by omega
        have H : Hid (leftN (xs.length + wtS Tb.wt xs) left = left - xs.length - wtS Tb.wt xs) := by
          unfold Hid leftN; rw [List.take_length] at hsm; rw [if_neg (by omega)]; omega
        go_wp2_with fail
        go_ret
        exact ⟨by rw [H.out, List.take_length]; rfl, hb⟩

end Go.Proofs.YtjjdcdnaonfnmaaGreat
