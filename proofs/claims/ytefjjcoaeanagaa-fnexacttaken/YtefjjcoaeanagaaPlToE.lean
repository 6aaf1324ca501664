/- The laws' own helpers over schemas (the copy): Index, View. Written by tools/gen_plan.py. -/
import Derived.Test.YtefjjcoaeanagaaDat2
import Derived.Test.YtefjjcoaeanagaaPl
namespace Go.Proofs.Ytefjjcoaeanagaa
open Go.RowKit

set_option maxHeartbeats 2000000 in
theorem toIx (vs : List Value) (x : Ix) (w : World) (hR : RIx 0 w vs x) (hn : x.wt ≤ 1048576) :
    Calls Try.prog 87 #[.agg vs.toArray] w fun e w' => ∃ vs' : List Value, vs'.length = 4 ∧ e = .returned (.agg vs'.toArray) ∧ RIx w.heap.size w' vs' x ∧ Below w.heap.size w w' := by
  obtain ⟨a0, c0, rfl, hfit, k0⟩ := hR
  have K0 := Lib.hid (fun w' (hb : Below w.heap.size w w') => k0.kept (Kept.below hb))
  clear k0
  have HW : x.wt = x.name.size + x.table.size + (x.cols.length + lets x.cols) := rfl
  go_enter Try.func87, Try.ntmps87
  go_wp2_with fail
  refine (toSs a0 c0 x.cols _ (K0.out _ ?_) (by omega)).mono ?_
  · ((repeat (first | refine Below.alloc ?_ (by first | omega | (simp; done) | (simp; omega)) _ | refine Below.setCell ?_ (by first | omega | (simp; done) | (simp; omega)) _)); first | exact Below.refl _ _ | exact Below.refl _ _)
  rintro e w0 ⟨p0, q0, rfl, s0, b0⟩
  have B0 := Lib.hid (show Below w.heap.size w w0 from Below.call b0 (by ((repeat (first | refine Below.alloc ?_ (by first | omega | (simp; done) | (simp; omega)) _ | refine Below.setCell ?_ (by first | omega | (simp; done) | (simp; omega)) _)); first | exact Below.refl _ _ | exact Below.refl _ _)))
  have A0 := Lib.hid (show Blk w0 w.heap.size [.string x.name, .string x.table, .slice a0 x.cols.length c0, .bool x.uniq] from Blk.call b0 (((blk_new w _ [.string x.name, .string x.table, .slice a0 x.cols.length c0, .bool x.uniq]).alloc _).alloc _))
  have Y0 := Lib.hid (show Blk w0 (w.heap.size + 1) [.string ByteArray.empty, .string ByteArray.empty, .slice none 0 0, .bool false] from Blk.call b0 ((blk_new' (w := w.alloc _) (b := w.heap.size + 1) (by simp) _ [.string ByteArray.empty, .string ByteArray.empty, .slice none 0 0, .bool false]).alloc _))
  have G0 := Lib.hid (show Blk w0 (w.heap.size + 1 + 1) [.string x.name, .string x.table, .slice none 0 0, .bool false] from Blk.call b0 (blk_new' (w := (w.alloc _).alloc _) (b := w.heap.size + 1 + 1) (by simp) _ [.string x.name, .string x.table, .slice none 0 0, .bool false]))
  have S0 := Lib.hid (s0.lower (show w.heap.size + 3 ≤ _ by (first | omega | (simp; done) | (simp; omega) | (simp [World.setCell]; done) | (simp [World.setCell]; omega))))
  clear s0 b0
  have g0_3 : w0.cell? ⟨w.heap.size, 3, none⟩ = some (.bool x.uniq) := (A0.out.2 3 (by simp)).1
  have h0_0 : w0.cell? ⟨w.heap.size + 1 + 1, 0, none⟩ = some (.string x.name) := (G0.out.2 0 (by simp)).1
  have y0_0 : w0.cell? ⟨w.heap.size + 1, 0, none⟩ = some (.string ByteArray.empty) := (Y0.out.2 0 (by simp)).1
  have r0_0 : w0.frozen? ⟨w.heap.size + 1, 0, none⟩ = false := (Y0.out.2 0 (by simp)).2
  have h0_1 : w0.cell? ⟨w.heap.size + 1 + 1, 1, none⟩ = some (.string x.table) := (G0.out.2 1 (by simp)).1
  have y0_1 : w0.cell? ⟨w.heap.size + 1, 1, none⟩ = some (.string ByteArray.empty) := (Y0.out.2 1 (by simp)).1
  have r0_1 : w0.frozen? ⟨w.heap.size + 1, 1, none⟩ = false := (Y0.out.2 1 (by simp)).2
  have h0_2 : w0.cell? ⟨w.heap.size + 1 + 1, 2, none⟩ = some (.slice none 0 0) := (G0.out.2 2 (by simp)).1
  have z0_2 : w0.frozen? ⟨w.heap.size + 1 + 1, 2, none⟩ = false := (G0.out.2 2 (by simp)).2
  have y0_2 : w0.cell? ⟨w.heap.size + 1, 2, none⟩ = some (.slice none 0 0) := (Y0.out.2 2 (by simp)).1
  have r0_2 : w0.frozen? ⟨w.heap.size + 1, 2, none⟩ = false := (Y0.out.2 2 (by simp)).2
  have h0_3 : w0.cell? ⟨w.heap.size + 1 + 1, 3, none⟩ = some (.bool false) := (G0.out.2 3 (by simp)).1
  have z0_3 : w0.frozen? ⟨w.heap.size + 1 + 1, 3, none⟩ = false := (G0.out.2 3 (by simp)).2
  have y0_3 : w0.cell? ⟨w.heap.size + 1, 3, none⟩ = some (.bool false) := (Y0.out.2 3 (by simp)).1
  have r0_3 : w0.frozen? ⟨w.heap.size + 1, 3, none⟩ = false := (Y0.out.2 3 (by simp)).2
  go_wp2_with fail
  refine bodyPost_ret (v := .agg #[.string x.name, .string x.table, .slice p0 x.cols.length q0, .bool x.uniq]) (by simp [results, Try.results87, go_sem, *]) rfl ⟨[.string x.name, .string x.table, .slice p0 x.cols.length q0, .bool x.uniq], rfl, rfl, ⟨p0, q0, rfl, hfit, ?_⟩, ?_⟩
  · exact (S0.out.kept (by (refine Kept.set ?_ (by first | omega | (simp; done) | (simp; omega)) _; refine Kept.set ?_ (by first | omega | (simp; done) | (simp; omega)) _; refine Kept.set ?_ (by first | omega | (simp; done) | (simp; omega)) _; refine Kept.set ?_ (by first | omega | (simp; done) | (simp; omega)) _; refine Kept.set ?_ (by first | omega | (simp; done) | (simp; omega)) _; refine Kept.set ?_ (by first | omega | (simp; done) | (simp; omega)) _; exact Kept.refl _ _))).lower (by omega)
  · (refine Below.setCell ?_ (by first | omega | (simp; done) | (simp; omega)) _; refine Below.setCell ?_ (by first | omega | (simp; done) | (simp; omega)) _; refine Below.setCell ?_ (by first | omega | (simp; done) | (simp; omega)) _; refine Below.setCell ?_ (by first | omega | (simp; done) | (simp; omega)) _; refine Below.setCell ?_ (by first | omega | (simp; done) | (simp; omega)) _; refine Below.setCell ?_ (by first | omega | (simp; done) | (simp; omega)) _; exact B0.out)

theorem Try.infoIndex : (Try.prog.info? 73).map (fun i => (i.zero, i.size, i.bytes)) = some (some (.agg #[.string ByteArray.empty, .string ByteArray.empty, .slice none 0 0, .bool false]), 4, 64) := by kernel_rfl

set_option maxHeartbeats 2000000 in
theorem toIxS (a : Option Addr) (c : Nat) (xs : List Ix) (w : World) (hx : Sl 4 RIx 0 w a c xs) (hn : xs.length + wtS Ix.wt xs ≤ 1048576) :
    Calls Try.prog 48 #[.slice a xs.length c] w fun e w' => ∃ a' c', e = .returned (.slice a' xs.length c') ∧ Sl 4 RIx w.heap.size w' a' c' xs ∧ Below w.heap.size w w' := by
  obtain ⟨i0, hi0, hz0, hz1, hz2⟩ := info_parts Try.infoIndex
  have hb16 : i0.bytes * xs.length ≤ 281474976710656 := by rw [hz2]; omega
  have hl := hx.len
  have HX := Lib.hid (fun w' (hb : Below w.heap.size w w') => hx.kept goodIx (Kept.below hb))
  clear hx
  go_enter Try.func48, Try.ntmps48
  go_wp2_with (at_make; refine wpList_make_full _ rfl _ _ 27 rfl w.heap.size 73 i0 (.agg #[.string ByteArray.empty, .string ByteArray.empty, .slice none 0 0, .bool false]) 4 Try.underlying27 hi0 hz0 hz1 .i64 .i64 _ _ xs.length rfl rfl rfl rfl hb16 (by unfold maxLen; omega) (Nat.le_refl _) ?_; intro w1 hown hg)
  have HD0 : DoneR 73 4 RIx [.string ByteArray.empty, .string ByteArray.empty, .slice none 0 0, .bool false] w xs 0 w1 := DoneR.new (z := [.string ByteArray.empty, .string ByteArray.empty, .slice none 0 0, .bool false]) (by simp) hown hg
  clear hown hg
  go_loopw [4] (fun i wr => ∃ k : Nat, i = .int .i64 k ∧ DoneR 73 4 RIx [.string ByteArray.empty, .string ByteArray.empty, .slice none 0 0, .bool false] w xs k wr) (fun i _ => xs.length - (intOf i).toNat)
  case atStart => exact ⟨0, rfl, HD0⟩
  case round =>
    obtain ⟨k, rfl, hd⟩ := hrel
    by_cases hlt : k < xs.length
    · obtain ⟨b, off, vs, rfl, hbl, hcs, hR⟩ := (HX.out _ hd.2.2.2).spot hlt
      have HR := hR
      obtain ⟨a0, c0, rfl, _⟩ := hR
      have hc0 : wr.cell? ⟨b, off + k * 4, none⟩ = some (.string xs[k].name) := hcs 0 (by simp)
      have hc1 : wr.cell? ⟨b, off + k * 4 + 1, none⟩ = some (.string xs[k].table) := hcs 1 (by simp)
      have hc2 : wr.cell? ⟨b, off + k * 4 + 2, none⟩ = some (.slice a0 xs[k].cols.length c0) := hcs 2 (by simp)
      have hc3 : wr.cell? ⟨b, off + k * 4 + 3, none⟩ = some (.bool xs[k].uniq) := hcs 3 (by simp)
      have HK := Lib.hid HR
      have HD := Lib.hid hd
      have HWt := wtS_get Ix.wt hlt
      clear HR hd hcs HD0
      go_wp2_with fail
      refine (toIx _ xs[k] _ HK.out (by omega)).mono ?_
      rintro e w2 ⟨vs2, hvl, rfl, hk2, hb2⟩
      have HR2 := hk2
      obtain ⟨p0, q0, rfl, _⟩ := hk2
      have DC := HD.out.cells rfl hlt hb2
      have hd0 : w2.cell? ⟨w.heap.size, k * 4, none⟩ = some (.string ByteArray.empty) := DC.1 0 (by simp)
      have hf0 : w2.frozen? ⟨w.heap.size, k * 4, none⟩ = false := DC.2 _
      have hd1 : w2.cell? ⟨w.heap.size, k * 4 + 1, none⟩ = some (.string ByteArray.empty) := DC.1 1 (by simp)
      have hf1 : w2.frozen? ⟨w.heap.size, k * 4 + 1, none⟩ = false := DC.2 _
      have hd2 : w2.cell? ⟨w.heap.size, k * 4 + 2, none⟩ = some (.slice none 0 0) := DC.1 2 (by simp)
      have hf2 : w2.frozen? ⟨w.heap.size, k * 4 + 2, none⟩ = false := DC.2 _
      have hd3 : w2.cell? ⟨w.heap.size, k * 4 + 3, none⟩ = some (.bool false) := DC.1 3 (by simp)
      have hf3 : w2.frozen? ⟨w.heap.size, k * 4 + 3, none⟩ = false := DC.2 _
      have HS := Lib.hid (HD.out.step goodIx rfl hlt hvl HR2 hb2 rfl)
      clear DC HR2 hb2 HD HK hc0 hc1 hc2 hc3 hbl hvl
      go_wp2_with fail
      go_roundw
      case rel => exact ⟨k + 1, by go_num, HS.out⟩
      case measure => simp [intOf]; omega
    · have hle := hd.1
      obtain rfl : k = xs.length := by omega
      have HE := Lib.hid (hd.end goodIx (by unfold maxLen; omega))
      have hbl := hd.2.2.2
      clear hd
      go_wp2_with fail
      go_ret
      exact ⟨_, _, rfl, HE.out, hbl⟩

set_option maxHeartbeats 2000000 in
theorem toVw (vs : List Value) (x : Vw) (w : World) (hR : RVw 0 w vs x) (hn : x.wt ≤ 1048576) :
    Calls Try.prog 88 #[.agg vs.toArray] w fun e w' => ∃ vs' : List Value, vs'.length = 4 ∧ e = .returned (.agg vs'.toArray) ∧ RVw w.heap.size w' vs' x ∧ Below w.heap.size w w' := by
  obtain ⟨a0, c0, a1, c1, rfl, hfit, k0, k1⟩ := hR
  have K0 := Lib.hid (fun w' (hb : Below w.heap.size w w') => k0.kept (Kept.below hb))
  clear k0
  have K1 := Lib.hid (fun w' (hb : Below w.heap.size w w') => k1.kept (Kept.below hb))
  clear k1
  have HW : x.wt = x.name.size + x.table.size + (x.cols.length + lets x.cols) + (x.whr.length + wtL x.whr) := rfl
  go_enter Try.func88, Try.ntmps88
  go_wp2_with fail
  refine (toSs a0 c0 x.cols _ (K0.out _ ?_) (by omega)).mono ?_
  · ((repeat (first | refine Below.alloc ?_ (by first | omega | (simp; done) | (simp; omega)) _ | refine Below.setCell ?_ (by first | omega | (simp; done) | (simp; omega)) _)); first | exact Below.refl _ _ | exact Below.refl _ _)
  rintro e w0 ⟨p0, q0, rfl, s0, b0⟩
  have B0 := Lib.hid (show Below w.heap.size w w0 from Below.call b0 (by ((repeat (first | refine Below.alloc ?_ (by first | omega | (simp; done) | (simp; omega)) _ | refine Below.setCell ?_ (by first | omega | (simp; done) | (simp; omega)) _)); first | exact Below.refl _ _ | exact Below.refl _ _)))
  have A0 := Lib.hid (show Blk w0 w.heap.size [.string x.name, .string x.table, .slice a0 x.cols.length c0, .slice a1 x.whr.length c1] from Blk.call b0 (((blk_new w _ [.string x.name, .string x.table, .slice a0 x.cols.length c0, .slice a1 x.whr.length c1]).alloc _).alloc _))
  have Y0 := Lib.hid (show Blk w0 (w.heap.size + 1) [.string ByteArray.empty, .string ByteArray.empty, .slice none 0 0, .slice none 0 0] from Blk.call b0 ((blk_new' (w := w.alloc _) (b := w.heap.size + 1) (by simp) _ [.string ByteArray.empty, .string ByteArray.empty, .slice none 0 0, .slice none 0 0]).alloc _))
  have G0 := Lib.hid (show Blk w0 (w.heap.size + 1 + 1) [.string x.name, .string x.table, .slice none 0 0, .slice none 0 0] from Blk.call b0 (blk_new' (w := (w.alloc _).alloc _) (b := w.heap.size + 1 + 1) (by simp) _ [.string x.name, .string x.table, .slice none 0 0, .slice none 0 0]))
  have S0 := Lib.hid (s0.lower (show w.heap.size + 3 ≤ _ by (first | omega | (simp; done) | (simp; omega) | (simp [World.setCell]; done) | (simp [World.setCell]; omega))))
  clear s0 b0
  have g0_3 : w0.cell? ⟨w.heap.size, 3, none⟩ = some (.slice a1 x.whr.length c1) := (A0.out.2 3 (by simp)).1
  have h0_2 : w0.cell? ⟨w.heap.size + 1 + 1, 2, none⟩ = some (.slice none 0 0) := (G0.out.2 2 (by simp)).1
  have z0_2 : w0.frozen? ⟨w.heap.size + 1 + 1, 2, none⟩ = false := (G0.out.2 2 (by simp)).2
  go_wp2_with fail
  refine (toKs a1 c1 x.whr _ (K1.out _ ?_) (by omega)).mono ?_
  · (refine Below.setCell ?_ (by first | omega | (simp; done) | (simp; omega)) _; exact B0.out)
  rintro e w1 ⟨p1, q1, rfl, s1, b1⟩
  have B1 := Lib.hid (show Below w.heap.size w w1 from Below.call b1 (by (refine Below.setCell ?_ (by first | omega | (simp; done) | (simp; omega)) _; exact B0.out)))
  have A1 := Lib.hid (show Blk w1 w.heap.size [.string x.name, .string x.table, .slice a0 x.cols.length c0, .slice a1 x.whr.length c1] from Blk.call b1 ((A0.out).other (b' := w.heap.size + 1 + 1) (by omega) 2 (.slice p0 x.cols.length q0)))
  have Y1 := Lib.hid (show Blk w1 (w.heap.size + 1) [.string ByteArray.empty, .string ByteArray.empty, .slice none 0 0, .slice none 0 0] from Blk.call b1 ((Y0.out).other (b' := w.heap.size + 1 + 1) (by omega) 2 (.slice p0 x.cols.length q0)))
  have G1 := Lib.hid (show Blk w1 (w.heap.size + 1 + 1) [.string x.name, .string x.table, .slice p0 x.cols.length q0, .slice none 0 0] from Blk.call b1 ((G0.out).set 2 (.slice p0 x.cols.length q0)))
  have S0 := Lib.hid (S0.out.kept (Kept.call b1 (by (refine Kept.set ?_ (by first | omega | (simp; done) | (simp; omega)) _; exact Kept.refl _ _))))
  have S1 := Lib.hid (s1.lower (show w.heap.size + 3 ≤ _ by (have h3 := G0.out.1; first | omega | (simp; done) | (simp; omega) | (simp [World.setCell]; done) | (simp [World.setCell]; omega))))
  clear s1 b1
  clear g0_3 h0_2 z0_2
  have h1_0 : w1.cell? ⟨w.heap.size + 1 + 1, 0, none⟩ = some (.string x.name) := (G1.out.2 0 (by simp)).1
  have y1_0 : w1.cell? ⟨w.heap.size + 1, 0, none⟩ = some (.string ByteArray.empty) := (Y1.out.2 0 (by simp)).1
  have r1_0 : w1.frozen? ⟨w.heap.size + 1, 0, none⟩ = false := (Y1.out.2 0 (by simp)).2
  have h1_1 : w1.cell? ⟨w.heap.size + 1 + 1, 1, none⟩ = some (.string x.table) := (G1.out.2 1 (by simp)).1
  have y1_1 : w1.cell? ⟨w.heap.size + 1, 1, none⟩ = some (.string ByteArray.empty) := (Y1.out.2 1 (by simp)).1
  have r1_1 : w1.frozen? ⟨w.heap.size + 1, 1, none⟩ = false := (Y1.out.2 1 (by simp)).2
  have h1_2 : w1.cell? ⟨w.heap.size + 1 + 1, 2, none⟩ = some (.slice p0 x.cols.length q0) := (G1.out.2 2 (by simp)).1
  have y1_2 : w1.cell? ⟨w.heap.size + 1, 2, none⟩ = some (.slice none 0 0) := (Y1.out.2 2 (by simp)).1
  have r1_2 : w1.frozen? ⟨w.heap.size + 1, 2, none⟩ = false := (Y1.out.2 2 (by simp)).2
  have h1_3 : w1.cell? ⟨w.heap.size + 1 + 1, 3, none⟩ = some (.slice none 0 0) := (G1.out.2 3 (by simp)).1
  have z1_3 : w1.frozen? ⟨w.heap.size + 1 + 1, 3, none⟩ = false := (G1.out.2 3 (by simp)).2
  have y1_3 : w1.cell? ⟨w.heap.size + 1, 3, none⟩ = some (.slice none 0 0) := (Y1.out.2 3 (by simp)).1
  have r1_3 : w1.frozen? ⟨w.heap.size + 1, 3, none⟩ = false := (Y1.out.2 3 (by simp)).2
  go_wp2_with fail
  refine bodyPost_ret (v := .agg #[.string x.name, .string x.table, .slice p0 x.cols.length q0, .slice p1 x.whr.length q1]) (by simp [results, Try.results88, go_sem, *]) rfl ⟨[.string x.name, .string x.table, .slice p0 x.cols.length q0, .slice p1 x.whr.length q1], rfl, rfl, ⟨p0, q0, p1, q1, rfl, hfit, ?_, ?_⟩, ?_⟩
  · exact (S0.out.kept (by (refine Kept.set ?_ (by first | omega | (simp; done) | (simp; omega)) _; refine Kept.set ?_ (by first | omega | (simp; done) | (simp; omega)) _; refine Kept.set ?_ (by first | omega | (simp; done) | (simp; omega)) _; refine Kept.set ?_ (by first | omega | (simp; done) | (simp; omega)) _; refine Kept.set ?_ (by first | omega | (simp; done) | (simp; omega)) _; exact Kept.refl _ _))).lower (by omega)
  · exact (S1.out.kept (by (refine Kept.set ?_ (by first | omega | (simp; done) | (simp; omega)) _; refine Kept.set ?_ (by first | omega | (simp; done) | (simp; omega)) _; refine Kept.set ?_ (by first | omega | (simp; done) | (simp; omega)) _; refine Kept.set ?_ (by first | omega | (simp; done) | (simp; omega)) _; refine Kept.set ?_ (by first | omega | (simp; done) | (simp; omega)) _; exact Kept.refl _ _))).lower (by omega)
  · (refine Below.setCell ?_ (by first | omega | (simp; done) | (simp; omega)) _; refine Below.setCell ?_ (by first | omega | (simp; done) | (simp; omega)) _; refine Below.setCell ?_ (by first | omega | (simp; done) | (simp; omega)) _; refine Below.setCell ?_ (by first | omega | (simp; done) | (simp; omega)) _; refine Below.setCell ?_ (by first | omega | (simp; done) | (simp; omega)) _; exact B1.out)

theorem Try.infoView : (Try.prog.info? 77).map (fun i => (i.zero, i.size, i.bytes)) = some (some (.agg #[.string ByteArray.empty, .string ByteArray.empty, .slice none 0 0, .slice none 0 0]), 4, 80) := by kernel_rfl

set_option maxHeartbeats 2000000 in
theorem toVwS (a : Option Addr) (c : Nat) (xs : List Vw) (w : World) (hx : Sl 4 RVw 0 w a c xs) (hn : xs.length + wtS Vw.wt xs ≤ 1048576) :
    Calls Try.prog 49 #[.slice a xs.length c] w fun e w' => ∃ a' c', e = .returned (.slice a' xs.length c') ∧ Sl 4 RVw w.heap.size w' a' c' xs ∧ Below w.heap.size w w' := by
  obtain ⟨i0, hi0, hz0, hz1, hz2⟩ := info_parts Try.infoView
  have hb16 : i0.bytes * xs.length ≤ 281474976710656 := by rw [hz2]; omega
  have hl := hx.len
  have HX := Lib.hid (fun w' (hb : Below w.heap.size w w') => hx.kept goodVw (Kept.below hb))
  clear hx
  go_enter Try.func49, Try.ntmps49
  go_wp2_with (at_make; refine wpList_make_full _ rfl _ _ 28 rfl w.heap.size 77 i0 (.agg #[.string ByteArray.empty, .string ByteArray.empty, .slice none 0 0, .slice none 0 0]) 4 Try.underlying28 hi0 hz0 hz1 .i64 .i64 _ _ xs.length rfl rfl rfl rfl hb16 (by unfold maxLen; omega) (Nat.le_refl _) ?_; intro w1 hown hg)
  have HD0 : DoneR 77 4 RVw [.string ByteArray.empty, .string ByteArray.empty, .slice none 0 0, .slice none 0 0] w xs 0 w1 := DoneR.new (z := [.string ByteArray.empty, .string ByteArray.empty, .slice none 0 0, .slice none 0 0]) (by simp) hown hg
  clear hown hg
  go_loopw [4] (fun i wr => ∃ k : Nat, i = .int .i64 k ∧ DoneR 77 4 RVw [.string ByteArray.empty, .string ByteArray.empty, .slice none 0 0, .slice none 0 0] w xs k wr) (fun i _ => xs.length - (intOf i).toNat)
  case atStart => exact ⟨0, rfl, HD0⟩
  case round =>
    obtain ⟨k, rfl, hd⟩ := hrel
    by_cases hlt : k < xs.length
    · obtain ⟨b, off, vs, rfl, hbl, hcs, hR⟩ := (HX.out _ hd.2.2.2).spot hlt
      have HR := hR
      obtain ⟨a0, c0, a1, c1, rfl, _⟩ := hR
      have hc0 : wr.cell? ⟨b, off + k * 4, none⟩ = some (.string xs[k].name) := hcs 0 (by simp)
      have hc1 : wr.cell? ⟨b, off + k * 4 + 1, none⟩ = some (.string xs[k].table) := hcs 1 (by simp)
      have hc2 : wr.cell? ⟨b, off + k * 4 + 2, none⟩ = some (.slice a0 xs[k].cols.length c0) := hcs 2 (by simp)
      have hc3 : wr.cell? ⟨b, off + k * 4 + 3, none⟩ = some (.slice a1 xs[k].whr.length c1) := hcs 3 (by simp)
      have HK := Lib.hid HR
      have HD := Lib.hid hd
      have HWt := wtS_get Vw.wt hlt
      clear HR hd hcs HD0
      go_wp2_with fail
      refine (toVw _ xs[k] _ HK.out (by omega)).mono ?_
      rintro e w2 ⟨vs2, hvl, rfl, hk2, hb2⟩
      have HR2 := hk2
      obtain ⟨p0, q0, p1, q1, rfl, _⟩ := hk2
      have DC := HD.out.cells rfl hlt hb2
      have hd0 : w2.cell? ⟨w.heap.size, k * 4, none⟩ = some (.string ByteArray.empty) := DC.1 0 (by simp)
      have hf0 : w2.frozen? ⟨w.heap.size, k * 4, none⟩ = false := DC.2 _
      have hd1 : w2.cell? ⟨w.heap.size, k * 4 + 1, none⟩ = some (.string ByteArray.empty) := DC.1 1 (by simp)
      have hf1 : w2.frozen? ⟨w.heap.size, k * 4 + 1, none⟩ = false := DC.2 _
      have hd2 : w2.cell? ⟨w.heap.size, k * 4 + 2, none⟩ = some (.slice none 0 0) := DC.1 2 (by simp)
      have hf2 : w2.frozen? ⟨w.heap.size, k * 4 + 2, none⟩ = false := DC.2 _
      have hd3 : w2.cell? ⟨w.heap.size, k * 4 + 3, none⟩ = some (.slice none 0 0) := DC.1 3 (by simp)
      have hf3 : w2.frozen? ⟨w.heap.size, k * 4 + 3, none⟩ = false := DC.2 _
      have HS := Lib.hid (HD.out.step goodVw rfl hlt hvl HR2 hb2 rfl)
      clear DC HR2 hb2 HD HK hc0 hc1 hc2 hc3 hbl hvl
      go_wp2_with fail
      go_roundw
      case rel => exact ⟨k + 1, by go_num, HS.out⟩
      case measure => simp [intOf]; omega
    · have hle := hd.1
      obtain rfl : k = xs.length := by omega
      have HE := Lib.hid (hd.end goodVw (by unfold maxLen; omega))
      have hbl := hd.2.2.2
      clear hd
      go_wp2_with fail
      go_ret
      exact ⟨_, _, rfl, HE.out, hbl⟩

end Go.Proofs.Ytefjjcoaeanagaa
