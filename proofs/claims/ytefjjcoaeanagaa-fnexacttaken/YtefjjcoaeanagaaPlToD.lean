/- The laws' own helpers over schemas (the copy): Table. Written by tools/gen_plan.py. -/
import Derived.Test.YtefjjcoaeanagaaDat2
import Derived.Test.YtefjjcoaeanagaaPl
import Derived.Test.YtefjjcoaeanagaaPlToB
import Derived.Test.YtefjjcoaeanagaaPlToC
namespace Go.Proofs.Ytefjjcoaeanagaa
open Go.RowKit

set_option maxHeartbeats 2000000 in
theorem toTb (vs : List Value) (x : Tb) (w : World) (hR : RTb 0 w vs x) (hn : x.wt ≤ 1048576) :
    Calls Try.prog 25 #[.agg vs.toArray] w fun e w' => ∃ vs' : List Value, vs'.length = 4 ∧ e = .returned (.agg vs'.toArray) ∧ RTb w.heap.size w' vs' x ∧ Below w.heap.size w w' := by
  obtain ⟨a0, c0, a1, c1, rfl, hfit, k0, k1⟩ := hR
  have K0 := Lib.hid (fun w' (hb : Below w.heap.size w w') => k0.kept goodCo (Kept.below hb))
  clear k0
  have K1 := Lib.hid (fun w' (hb : Below w.heap.size w w') => k1.kept goodRu (Kept.below hb))
  clear k1
  have HW : x.wt = x.name.size + (x.cols.length + wtS Co.wt x.cols) + (x.rules.length + wtS Ru.wt x.rules) := rfl
  go_enter Try.func25, Try.ntmps25
  go_wp2_with fail
  refine (toCoS a0 c0 x.cols _ (K0.out _ ?_) (by omega)).mono ?_
  · ((repeat (first | refine Below.alloc ?_ (by first | omega | (simp; done) | (simp; omega)) _ | refine Below.setCell ?_ (by first | omega | (simp; done) | (simp; omega)) _)); first | exact Below.refl _ _ | exact Below.refl _ _)
  rintro e w0 ⟨p0, q0, rfl, s0, b0⟩
  have B0 := Lib.hid (show Below w.heap.size w w0 from Below.call b0 (by ((repeat (first | refine Below.alloc ?_ (by first | omega | (simp; done) | (simp; omega)) _ | refine Below.setCell ?_ (by first | omega | (simp; done) | (simp; omega)) _)); first | exact Below.refl _ _ | exact Below.refl _ _)))
  have A0 := Lib.hid (show Blk w0 w.heap.size [.string x.name, .slice a0 x.cols.length c0, .slice a1 x.rules.length c1, .int .i64 x.token] from Blk.call b0 (((blk_new w _ [.string x.name, .slice a0 x.cols.length c0, .slice a1 x.rules.length c1, .int .i64 x.token]).alloc _).alloc _))
  have Y0 := Lib.hid (show Blk w0 (w.heap.size + 1) [.string ByteArray.empty, .slice none 0 0, .slice none 0 0, .int .i64 0] from Blk.call b0 ((blk_new' (w := w.alloc _) (b := w.heap.size + 1) (by simp) _ [.string ByteArray.empty, .slice none 0 0, .slice none 0 0, .int .i64 0]).alloc _))
  have G0 := Lib.hid (show Blk w0 (w.heap.size + 1 + 1) [.string x.name, .slice none 0 0, .slice none 0 0, .int .i64 0] from Blk.call b0 (blk_new' (w := (w.alloc _).alloc _) (b := w.heap.size + 1 + 1) (by simp) _ [.string x.name, .slice none 0 0, .slice none 0 0, .int .i64 0]))
  have S0 := Lib.hid (s0.lower goodCo (show w.heap.size + 3 ≤ _ by (first | omega | (simp; done) | (simp; omega) | (simp [World.setCell]; done) | (simp [World.setCell]; omega))))
  clear s0 b0
  have g0_2 : w0.cell? ⟨w.heap.size, 2, none⟩ = some (.slice a1 x.rules.length c1) := (A0.out.2 2 (by simp)).1
  have h0_1 : w0.cell? ⟨w.heap.size + 1 + 1, 1, none⟩ = some (.slice none 0 0) := (G0.out.2 1 (by simp)).1
  have z0_1 : w0.frozen? ⟨w.heap.size + 1 + 1, 1, none⟩ = false := (G0.out.2 1 (by simp)).2
  go_wp2_with fail
  refine (toRuS a1 c1 x.rules _ (K1.out _ ?_) (by omega)).mono ?_
  · (refine Below.setCell ?_ (by first | omega | (simp; done) | (simp; omega)) _; exact B0.out)
  rintro e w1 ⟨p1, q1, rfl, s1, b1⟩
  have B1 := Lib.hid (show Below w.heap.size w w1 from Below.call b1 (by (refine Below.setCell ?_ (by first | omega | (simp; done) | (simp; omega)) _; exact B0.out)))
  have A1 := Lib.hid (show Blk w1 w.heap.size [.string x.name, .slice a0 x.cols.length c0, .slice a1 x.rules.length c1, .int .i64 x.token] from Blk.call b1 ((A0.out).other (b' := w.heap.size + 1 + 1) (by omega) 1 (.slice p0 x.cols.length q0)))
  have Y1 := Lib.hid (show Blk w1 (w.heap.size + 1) [.string ByteArray.empty, .slice none 0 0, .slice none 0 0, .int .i64 0] from Blk.call b1 ((Y0.out).other (b' := w.heap.size + 1 + 1) (by omega) 1 (.slice p0 x.cols.length q0)))
  have G1 := Lib.hid (show Blk w1 (w.heap.size + 1 + 1) [.string x.name, .slice p0 x.cols.length q0, .slice none 0 0, .int .i64 0] from Blk.call b1 ((G0.out).set 1 (.slice p0 x.cols.length q0)))
  have S0 := Lib.hid (S0.out.kept goodCo (Kept.call b1 (by (refine Kept.set ?_ (by first | omega | (simp; done) | (simp; omega)) _; exact Kept.refl _ _))))
  have S1 := Lib.hid (s1.lower goodRu (show w.heap.size + 3 ≤ _ by (have h3 := G0.out.1; first | omega | (simp; done) | (simp; omega) | (simp [World.setCell]; done) | (simp [World.setCell]; omega))))
  clear s1 b1
  clear g0_2 h0_1 z0_1
  have g1_3 : w1.cell? ⟨w.heap.size, 3, none⟩ = some (.int .i64 x.token) := (A1.out.2 3 (by simp)).1
  have h1_0 : w1.cell? ⟨w.heap.size + 1 + 1, 0, none⟩ = some (.string x.name) := (G1.out.2 0 (by simp)).1
  have y1_0 : w1.cell? ⟨w.heap.size + 1, 0, none⟩ = some (.string ByteArray.empty) := (Y1.out.2 0 (by simp)).1
  have r1_0 : w1.frozen? ⟨w.heap.size + 1, 0, none⟩ = false := (Y1.out.2 0 (by simp)).2
  have h1_1 : w1.cell? ⟨w.heap.size + 1 + 1, 1, none⟩ = some (.slice p0 x.cols.length q0) := (G1.out.2 1 (by simp)).1
  have y1_1 : w1.cell? ⟨w.heap.size + 1, 1, none⟩ = some (.slice none 0 0) := (Y1.out.2 1 (by simp)).1
  have r1_1 : w1.frozen? ⟨w.heap.size + 1, 1, none⟩ = false := (Y1.out.2 1 (by simp)).2
  have h1_2 : w1.cell? ⟨w.heap.size + 1 + 1, 2, none⟩ = some (.slice none 0 0) := (G1.out.2 2 (by simp)).1
  have z1_2 : w1.frozen? ⟨w.heap.size + 1 + 1, 2, none⟩ = false := (G1.out.2 2 (by simp)).2
  have y1_2 : w1.cell? ⟨w.heap.size + 1, 2, none⟩ = some (.slice none 0 0) := (Y1.out.2 2 (by simp)).1
  have r1_2 : w1.frozen? ⟨w.heap.size + 1, 2, none⟩ = false := (Y1.out.2 2 (by simp)).2
  have h1_3 : w1.cell? ⟨w.heap.size + 1 + 1, 3, none⟩ = some (.int .i64 0) := (G1.out.2 3 (by simp)).1
  have z1_3 : w1.frozen? ⟨w.heap.size + 1 + 1, 3, none⟩ = false := (G1.out.2 3 (by simp)).2
  have y1_3 : w1.cell? ⟨w.heap.size + 1, 3, none⟩ = some (.int .i64 0) := (Y1.out.2 3 (by simp)).1
  have r1_3 : w1.frozen? ⟨w.heap.size + 1, 3, none⟩ = false := (Y1.out.2 3 (by simp)).2
  go_wp2_with fail
  refine bodyPost_ret (v := .agg #[.string x.name, .slice p0 x.cols.length q0, .slice p1 x.rules.length q1, .int .i64 x.token]) (by simp [results, Try.results25, go_sem, *]) rfl ⟨[.string x.name, .slice p0 x.cols.length q0, .slice p1 x.rules.length q1, .int .i64 x.token], rfl, rfl, ⟨p0, q0, p1, q1, rfl, hfit, ?_, ?_⟩, ?_⟩
  · exact (S0.out.kept goodCo (by (refine Kept.set ?_ (by first | omega | (simp; done) | (simp; omega)) _; refine Kept.set ?_ (by first | omega | (simp; done) | (simp; omega)) _; refine Kept.set ?_ (by first | omega | (simp; done) | (simp; omega)) _; refine Kept.set ?_ (by first | omega | (simp; done) | (simp; omega)) _; refine Kept.set ?_ (by first | omega | (simp; done) | (simp; omega)) _; refine Kept.set ?_ (by first | omega | (simp; done) | (simp; omega)) _; exact Kept.refl _ _))).lower goodCo (by omega)
  · exact (S1.out.kept goodRu (by (refine Kept.set ?_ (by first | omega | (simp; done) | (simp; omega)) _; refine Kept.set ?_ (by first | omega | (simp; done) | (simp; omega)) _; refine Kept.set ?_ (by first | omega | (simp; done) | (simp; omega)) _; refine Kept.set ?_ (by first | omega | (simp; done) | (simp; omega)) _; refine Kept.set ?_ (by first | omega | (simp; done) | (simp; omega)) _; refine Kept.set ?_ (by first | omega | (simp; done) | (simp; omega)) _; exact Kept.refl _ _))).lower goodRu (by omega)
  · (refine Below.setCell ?_ (by first | omega | (simp; done) | (simp; omega)) _; refine Below.setCell ?_ (by first | omega | (simp; done) | (simp; omega)) _; refine Below.setCell ?_ (by first | omega | (simp; done) | (simp; omega)) _; refine Below.setCell ?_ (by first | omega | (simp; done) | (simp; omega)) _; refine Below.setCell ?_ (by first | omega | (simp; done) | (simp; omega)) _; refine Below.setCell ?_ (by first | omega | (simp; done) | (simp; omega)) _; exact B1.out)

theorem Try.infoTable : (Try.prog.info? 37).map (fun i => (i.zero, i.size, i.bytes)) = some (some (.agg #[.string ByteArray.empty, .slice none 0 0, .slice none 0 0, .int .i64 0]), 4, 72) := by kernel_rfl

set_option maxHeartbeats 2000000 in
theorem toTbS (a : Option Addr) (c : Nat) (xs : List Tb) (w : World) (hx : Sl 4 RTb 0 w a c xs) (hn : xs.length + wtS Tb.wt xs ≤ 1048576) :
    Calls Try.prog 47 #[.slice a xs.length c] w fun e w' => ∃ a' c', e = .returned (.slice a' xs.length c') ∧ Sl 4 RTb w.heap.size w' a' c' xs ∧ Below w.heap.size w w' := by
  obtain ⟨i0, hi0, hz0, hz1, hz2⟩ := info_parts Try.infoTable
  have hb16 : i0.bytes * xs.length ≤ 281474976710656 := by rw [hz2]; omega
  have hl := hx.len
  have HX := Lib.hid (fun w' (hb : Below w.heap.size w w') => hx.kept goodTb (Kept.below hb))
  clear hx
  go_enter Try.func47, Try.ntmps47
  go_wp2_with (at_make; refine wpList_make_full _ rfl _ _ 26 rfl w.heap.size 37 i0 (.agg #[.string ByteArray.empty, .slice none 0 0, .slice none 0 0, .int .i64 0]) 4 Try.underlying26 hi0 hz0 hz1 .i64 .i64 _ _ xs.length rfl rfl rfl rfl hb16 (by unfold maxLen; omega) (Nat.le_refl _) ?_; intro w1 hown hg)
  have HD0 : DoneR 37 4 RTb [.string ByteArray.empty, .slice none 0 0, .slice none 0 0, .int .i64 0] w xs 0 w1 := DoneR.new (z := [.string ByteArray.empty, .slice none 0 0, .slice none 0 0, .int .i64 0]) (by simp) hown hg
  clear hown hg
  go_loopw [4] (fun i wr => ∃ k : Nat, i = .int .i64 k ∧ DoneR 37 4 RTb [.string ByteArray.empty, .slice none 0 0, .slice none 0 0, .int .i64 0] w xs k wr) (fun i _ => xs.length - (intOf i).toNat)
  case atStart => exact ⟨0, rfl, HD0⟩
  case round =>
    obtain ⟨k, rfl, hd⟩ := hrel
    by_cases hlt : k < xs.length
    · obtain ⟨b, off, vs, rfl, hbl, hcs, hR⟩ := (HX.out _ hd.2.2.2).spot hlt
      have HR := hR
      obtain ⟨a0, c0, a1, c1, rfl, _⟩ := hR
      have hc0 : wr.cell? ⟨b, off + k * 4, none⟩ = some (.string xs[k].name) := hcs 0 (by simp)
      have hc1 : wr.cell? ⟨b, off + k * 4 + 1, none⟩ = some (.slice a0 xs[k].cols.length c0) := hcs 1 (by simp)
      have hc2 : wr.cell? ⟨b, off + k * 4 + 2, none⟩ = some (.slice a1 xs[k].rules.length c1) := hcs 2 (by simp)
      have hc3 : wr.cell? ⟨b, off + k * 4 + 3, none⟩ = some (.int .i64 xs[k].token) := hcs 3 (by simp)
      have HK := Lib.hid HR
      have HD := Lib.hid hd
      have HWt := wtS_get Tb.wt hlt
      clear HR hd hcs HD0
      go_wp2_with fail
      refine (toTb _ xs[k] _ HK.out (by omega)).mono ?_
      rintro e w2 ⟨vs2, hvl, rfl, hk2, hb2⟩
      have HR2 := hk2
      obtain ⟨p0, q0, p1, q1, rfl, _⟩ := hk2
      have DC := HD.out.cells rfl hlt hb2
      have hd0 : w2.cell? ⟨w.heap.size, k * 4, none⟩ = some (.string ByteArray.empty) := DC.1 0 (by simp)
      have hf0 : w2.frozen? ⟨w.heap.size, k * 4, none⟩ = false := DC.2 _
      have hd1 : w2.cell? ⟨w.heap.size, k * 4 + 1, none⟩ = some (.slice none 0 0) := DC.1 1 (by simp)
      have hf1 : w2.frozen? ⟨w.heap.size, k * 4 + 1, none⟩ = false := DC.2 _
      have hd2 : w2.cell? ⟨w.heap.size, k * 4 + 2, none⟩ = some (.slice none 0 0) := DC.1 2 (by simp)
      have hf2 : w2.frozen? ⟨w.heap.size, k * 4 + 2, none⟩ = false := DC.2 _
      have hd3 : w2.cell? ⟨w.heap.size, k * 4 + 3, none⟩ = some (.int .i64 0) := DC.1 3 (by simp)
      have hf3 : w2.frozen? ⟨w.heap.size, k * 4 + 3, none⟩ = false := DC.2 _
      have HS := Lib.hid (HD.out.step goodTb rfl hlt hvl HR2 hb2 rfl)
      clear DC HR2 hb2 HD HK hc0 hc1 hc2 hc3 hbl hvl
      go_wp2_with fail
      go_roundw
      case rel => exact ⟨k + 1, by go_num, HS.out⟩
      case measure => simp [intOf]; omega
    · have hle := hd.1
      obtain rfl : k = xs.length := by omega
      have HE := Lib.hid (hd.end goodTb (by unfold maxLen; omega))
      have hbl := hd.2.2.2
      clear hd
      go_wp2_with fail
      go_ret
      exact ⟨_, _, rfl, HE.out, hbl⟩

end Go.Proofs.Ytefjjcoaeanagaa
