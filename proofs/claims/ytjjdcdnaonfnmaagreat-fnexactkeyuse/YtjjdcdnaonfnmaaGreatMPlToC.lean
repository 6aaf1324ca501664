/- The laws' own helpers over schemas (the copy): Rule. Written by tools/gen_plan.py. -/
/- The laws' own helpers over schemas (the copy): Table. Written by tools/gen_plan.py. -/
/- The laws' own helpers over schemas (the copy): Index, View. Written by tools/gen_plan.py. -/
import Derived.Test.YtjjdcdnaonfnmaaGreatMTyp2
import Derived.Test.YtjjdcdnaonfnmaaGreatMDatU
import Derived.Test.YtjjdcdnaonfnmaaGreatMPlSzE
namespace Go.Proofs.YtjjdcdnaonfnmaaGreat
open Go.RowKit

set_option maxHeartbeats 2000000 in
theorem toRuU (vs : List Value) (x : Ru) (w : World) (hR : RRu 0 w vs x) (hn : x.wt ≤ 1048576) :
    Calls Tryz.prog 112 #[.agg vs.toArray] w fun e w' => ∃ vs' : List Value, vs'.length = 6 ∧ e = .returned (.agg vs'.toArray) ∧ RRuU w.heap.size w' vs' x ∧ Below w.heap.size w w' := by
  obtain ⟨a0, c0, a1, c1, a2, c2, rfl, hfit, k0, k1, k2⟩ := hR
  have K0 := Lib.hid (fun w' (hb : Below w.heap.size w w') => k0.kept (Kept.below hb))
  clear k0
  have K1 := Lib.hid (fun w' (hb : Below w.heap.size w w') => k1.kept (Kept.below hb))
  clear k1
  have K2 := Lib.hid (fun w' (hb : Below w.heap.size w w') => k2.kept (Kept.below hb))
  clear k2
  have HW : x.wt = x.name.size + (x.cols.length + lets x.cols) + (x.expr.length + wtL x.expr) + x.table.size + (x.to.length + lets x.to) := rfl
  go_enter Tryz.func112, Tryz.ntmps112
  go_wp2_with fail
  refine (toSsU a0 c0 x.cols _ (K0.out _ ?_) (by omega)).mono ?_
  · ((repeat (first | refine Below.alloc ?_ (by first | omega | (simp; done) | (simp; omega)) _ | refine Below.setCell ?_ (by first | omega | (simp; done) | (simp; omega)) _)); first | exact Below.refl _ _ | exact Below.refl _ _)
  rintro e w0 ⟨p0, q0, rfl, s0, b0⟩
  have B0 := Lib.hid (show Below w.heap.size w w0 from Below.call b0 (by ((repeat (first | refine Below.alloc ?_ (by first | omega | (simp; done) | (simp; omega)) _ | refine Below.setCell ?_ (by first | omega | (simp; done) | (simp; omega)) _)); first | exact Below.refl _ _ | exact Below.refl _ _)))
  have A0 := Lib.hid (show Blk w0 w.heap.size [.string x.name, .int .i64 x.kind, .slice a0 x.cols.length c0, .slice a1 x.expr.length c1, .string x.table, .slice a2 x.to.length c2] from Blk.call b0 (((blk_new w _ [.string x.name, .int .i64 x.kind, .slice a0 x.cols.length c0, .slice a1 x.expr.length c1, .string x.table, .slice a2 x.to.length c2]).alloc _).alloc _))
  have Y0 := Lib.hid (show Blk w0 (w.heap.size + 1) [.string ByteArray.empty, .int .i64 0, .slice none 0 0, .slice none 0 0, .string ByteArray.empty, .slice none 0 0] from Blk.call b0 ((blk_new' (w := w.alloc _) (b := w.heap.size + 1) (by simp) _ [.string ByteArray.empty, .int .i64 0, .slice none 0 0, .slice none 0 0, .string ByteArray.empty, .slice none 0 0]).alloc _))
  have G0 := Lib.hid (show Blk w0 (w.heap.size + 1 + 1) [.string x.name, .int .i64 x.kind, .slice none 0 0, .slice none 0 0, .string ByteArray.empty, .slice none 0 0] from Blk.call b0 (blk_new' (w := (w.alloc _).alloc _) (b := w.heap.size + 1 + 1) (by simp) _ [.string x.name, .int .i64 x.kind, .slice none 0 0, .slice none 0 0, .string ByteArray.empty, .slice none 0 0]))
  have S0 := Lib.hid (s0.lower (show w.heap.size + 3 ≤ _ by (first | omega | (simp; done) | (simp; omega) | (simp [World.setCell]; done) | (simp [World.setCell]; omega))))
  clear s0 b0
  have g0_3 : w0.cell? ⟨w.heap.size, 3, none⟩ = some (.slice a1 x.expr.length c1) := (A0.out.2 3 (by simp)).1
  have h0_2 : w0.cell? ⟨w.heap.size + 1 + 1, 2, none⟩ = some (.slice none 0 0) := (G0.out.2 2 (by simp)).1
  have z0_2 : w0.frozen? ⟨w.heap.size + 1 + 1, 2, none⟩ = false := (G0.out.2 2 (by simp)).2
  go_wp2_with fail
  refine (toKsU a1 c1 x.expr _ (K1.out _ ?_) (by omega)).mono ?_
  · (refine Below.setCell ?_ (by first | omega | (simp; done) | (simp; omega)) _; exact B0.out)
  rintro e w1 ⟨p1, q1, rfl, s1, b1⟩
  have B1 := Lib.hid (show Below w.heap.size w w1 from Below.call b1 (by (refine Below.setCell ?_ (by first | omega | (simp; done) | (simp; omega)) _; exact B0.out)))
  have A1 := Lib.hid (show Blk w1 w.heap.size [.string x.name, .int .i64 x.kind, .slice a0 x.cols.length c0, .slice a1 x.expr.length c1, .string x.table, .slice a2 x.to.length c2] from Blk.call b1 ((A0.out).other (b' := w.heap.size + 1 + 1) (by omega) 2 (.slice p0 x.cols.length q0)))
  have Y1 := Lib.hid (show Blk w1 (w.heap.size + 1) [.string ByteArray.empty, .int .i64 0, .slice none 0 0, .slice none 0 0, .string ByteArray.empty, .slice none 0 0] from Blk.call b1 ((Y0.out).other (b' := w.heap.size + 1 + 1) (by omega) 2 (.slice p0 x.cols.length q0)))
  have G1 := Lib.hid (show Blk w1 (w.heap.size + 1 + 1) [.string x.name, .int .i64 x.kind, .slice p0 x.cols.length q0, .slice none 0 0, .string ByteArray.empty, .slice none 0 0] from Blk.call b1 ((G0.out).set 2 (.slice p0 x.cols.length q0)))
  have S0 := Lib.hid (S0.out.kept (Kept.call b1 (by (refine Kept.set ?_ (by first | omega | (simp; done) | (simp; omega)) _; exact Kept.refl _ _))))
  have S1 := Lib.hid (s1.lower (show w.heap.size + 3 ≤ _ by (have h3 := G0.out.1; first | omega | (simp; done) | (simp; omega) | (simp [World.setCell]; done) | (simp [World.setCell]; omega))))
  clear s1 b1
  clear g0_3 h0_2 z0_2
  have g1_4 : w1.cell? ⟨w.heap.size, 4, none⟩ = some (.string x.table) := (A1.out.2 4 (by simp)).1
  have g1_5 : w1.cell? ⟨w.heap.size, 5, none⟩ = some (.slice a2 x.to.length c2) := (A1.out.2 5 (by simp)).1
  have h1_3 : w1.cell? ⟨w.heap.size + 1 + 1, 3, none⟩ = some (.slice none 0 0) := (G1.out.2 3 (by simp)).1
  have z1_3 : w1.frozen? ⟨w.heap.size + 1 + 1, 3, none⟩ = false := (G1.out.2 3 (by simp)).2
  have h1_4 : w1.cell? ⟨w.heap.size + 1 + 1, 4, none⟩ = some (.string ByteArray.empty) := (G1.out.2 4 (by simp)).1
  have z1_4 : w1.frozen? ⟨w.heap.size + 1 + 1, 4, none⟩ = false := (G1.out.2 4 (by simp)).2
  go_wp2_with fail
  refine (toSsU a2 c2 x.to _ (K2.out _ ?_) (by omega)).mono ?_
  · (refine Below.setCell ?_ (by first | omega | (simp; done) | (simp; omega)) _; refine Below.setCell ?_ (by first | omega | (simp; done) | (simp; omega)) _; exact B1.out)
  rintro e w2 ⟨p2, q2, rfl, s2, b2⟩
  have B2 := Lib.hid (show Below w.heap.size w w2 from Below.call b2 (by (refine Below.setCell ?_ (by first | omega | (simp; done) | (simp; omega)) _; refine Below.setCell ?_ (by first | omega | (simp; done) | (simp; omega)) _; exact B1.out)))
  have A2 := Lib.hid (show Blk w2 w.heap.size [.string x.name, .int .i64 x.kind, .slice a0 x.cols.length c0, .slice a1 x.expr.length c1, .string x.table, .slice a2 x.to.length c2] from Blk.call b2 (((A1.out).other (b' := w.heap.size + 1 + 1) (by omega) 3 (.slice p1 x.expr.length q1)).other (b' := w.heap.size + 1 + 1) (by omega) 4 (.string x.table)))
  have Y2 := Lib.hid (show Blk w2 (w.heap.size + 1) [.string ByteArray.empty, .int .i64 0, .slice none 0 0, .slice none 0 0, .string ByteArray.empty, .slice none 0 0] from Blk.call b2 (((Y1.out).other (b' := w.heap.size + 1 + 1) (by omega) 3 (.slice p1 x.expr.length q1)).other (b' := w.heap.size + 1 + 1) (by omega) 4 (.string x.table)))
  have G2 := Lib.hid (show Blk w2 (w.heap.size + 1 + 1) [.string x.name, .int .i64 x.kind, .slice p0 x.cols.length q0, .slice p1 x.expr.length q1, .string x.table, .slice none 0 0] from Blk.call b2 (((G1.out).set 3 (.slice p1 x.expr.length q1)).set 4 (.string x.table)))
  have S0 := Lib.hid (S0.out.kept (Kept.call b2 (by (refine Kept.set ?_ (by first | omega | (simp; done) | (simp; omega)) _; refine Kept.set ?_ (by first | omega | (simp; done) | (simp; omega)) _; exact Kept.refl _ _))))
  have S1 := Lib.hid (S1.out.kept (Kept.call b2 (by (refine Kept.set ?_ (by first | omega | (simp; done) | (simp; omega)) _; refine Kept.set ?_ (by first | omega | (simp; done) | (simp; omega)) _; exact Kept.refl _ _))))
  have S2 := Lib.hid (s2.lower (show w.heap.size + 3 ≤ _ by (have h3 := G1.out.1; first | omega | (simp; done) | (simp; omega) | (simp [World.setCell]; done) | (simp [World.setCell]; omega))))
  clear s2 b2
  clear g1_4 g1_5 h1_3 z1_3 h1_4 z1_4
  have h2_0 : w2.cell? ⟨w.heap.size + 1 + 1, 0, none⟩ = some (.string x.name) := (G2.out.2 0 (by simp)).1
  have y2_0 : w2.cell? ⟨w.heap.size + 1, 0, none⟩ = some (.string ByteArray.empty) := (Y2.out.2 0 (by simp)).1
  have r2_0 : w2.frozen? ⟨w.heap.size + 1, 0, none⟩ = false := (Y2.out.2 0 (by simp)).2
  have h2_1 : w2.cell? ⟨w.heap.size + 1 + 1, 1, none⟩ = some (.int .i64 x.kind) := (G2.out.2 1 (by simp)).1
  have y2_1 : w2.cell? ⟨w.heap.size + 1, 1, none⟩ = some (.int .i64 0) := (Y2.out.2 1 (by simp)).1
  have r2_1 : w2.frozen? ⟨w.heap.size + 1, 1, none⟩ = false := (Y2.out.2 1 (by simp)).2
  have h2_2 : w2.cell? ⟨w.heap.size + 1 + 1, 2, none⟩ = some (.slice p0 x.cols.length q0) := (G2.out.2 2 (by simp)).1
  have y2_2 : w2.cell? ⟨w.heap.size + 1, 2, none⟩ = some (.slice none 0 0) := (Y2.out.2 2 (by simp)).1
  have r2_2 : w2.frozen? ⟨w.heap.size + 1, 2, none⟩ = false := (Y2.out.2 2 (by simp)).2
  have h2_3 : w2.cell? ⟨w.heap.size + 1 + 1, 3, none⟩ = some (.slice p1 x.expr.length q1) := (G2.out.2 3 (by simp)).1
  have y2_3 : w2.cell? ⟨w.heap.size + 1, 3, none⟩ = some (.slice none 0 0) := (Y2.out.2 3 (by simp)).1
  have r2_3 : w2.frozen? ⟨w.heap.size + 1, 3, none⟩ = false := (Y2.out.2 3 (by simp)).2
  have h2_4 : w2.cell? ⟨w.heap.size + 1 + 1, 4, none⟩ = some (.string x.table) := (G2.out.2 4 (by simp)).1
  have y2_4 : w2.cell? ⟨w.heap.size + 1, 4, none⟩ = some (.string ByteArray.empty) := (Y2.out.2 4 (by simp)).1
  have r2_4 : w2.frozen? ⟨w.heap.size + 1, 4, none⟩ = false := (Y2.out.2 4 (by simp)).2
  have h2_5 : w2.cell? ⟨w.heap.size + 1 + 1, 5, none⟩ = some (.slice none 0 0) := (G2.out.2 5 (by simp)).1
  have z2_5 : w2.frozen? ⟨w.heap.size + 1 + 1, 5, none⟩ = false := (G2.out.2 5 (by simp)).2
  have y2_5 : w2.cell? ⟨w.heap.size + 1, 5, none⟩ = some (.slice none 0 0) := (Y2.out.2 5 (by simp)).1
  have r2_5 : w2.frozen? ⟨w.heap.size + 1, 5, none⟩ = false := (Y2.out.2 5 (by simp)).2
  go_wp2_with fail
  refine bodyPost_ret (v := .agg #[.string x.name, .int .i64 x.kind, .slice p0 x.cols.length q0, .slice p1 x.expr.length q1, .string x.table, .slice p2 x.to.length q2]) (by simp [results, Tryz.results112, go_sem, *]) rfl ⟨[.string x.name, .int .i64 x.kind, .slice p0 x.cols.length q0, .slice p1 x.expr.length q1, .string x.table, .slice p2 x.to.length q2], rfl, rfl, ⟨p0, q0, p1, q1, p2, q2, rfl, hfit, ?_, ?_, ?_⟩, ?_⟩
  · exact (S0.out.kept (by (refine Kept.set ?_ (by first | omega | (simp; done) | (simp; omega)) _; refine Kept.set ?_ (by first | omega | (simp; done) | (simp; omega)) _; refine Kept.set ?_ (by first | omega | (simp; done) | (simp; omega)) _; refine Kept.set ?_ (by first | omega | (simp; done) | (simp; omega)) _; refine Kept.set ?_ (by first | omega | (simp; done) | (simp; omega)) _; refine Kept.set ?_ (by first | omega | (simp; done) | (simp; omega)) _; refine Kept.set ?_ (by first | omega | (simp; done) | (simp; omega)) _; exact Kept.refl _ _))).lower (by omega)
  · exact (S1.out.kept (by (refine Kept.set ?_ (by first | omega | (simp; done) | (simp; omega)) _; refine Kept.set ?_ (by first | omega | (simp; done) | (simp; omega)) _; refine Kept.set ?_ (by first | omega | (simp; done) | (simp; omega)) _; refine Kept.set ?_ (by first | omega | (simp; done) | (simp; omega)) _; refine Kept.set ?_ (by first | omega | (simp; done) | (simp; omega)) _; refine Kept.set ?_ (by first | omega | (simp; done) | (simp; omega)) _; refine Kept.set ?_ (by first | omega | (simp; done) | (simp; omega)) _; exact Kept.refl _ _))).lower (by omega)
  · exact (S2.out.kept (by (refine Kept.set ?_ (by first | omega | (simp; done) | (simp; omega)) _; refine Kept.set ?_ (by first | omega | (simp; done) | (simp; omega)) _; refine Kept.set ?_ (by first | omega | (simp; done) | (simp; omega)) _; refine Kept.set ?_ (by first | omega | (simp; done) | (simp; omega)) _; refine Kept.set ?_ (by first | omega | (simp; done) | (simp; omega)) _; refine Kept.set ?_ (by first | omega | (simp; done) | (simp; omega)) _; refine Kept.set ?_ (by first | omega | (simp; done) | (simp; omega)) _; exact Kept.refl _ _))).lower (by omega)
  · (refine Below.setCell ?_ (by first | omega | (simp; done) | (simp; omega)) _; refine Below.setCell ?_ (by first | omega | (simp; done) | (simp; omega)) _; refine Below.setCell ?_ (by first | omega | (simp; done) | (simp; omega)) _; refine Below.setCell ?_ (by first | omega | (simp; done) | (simp; omega)) _; refine Below.setCell ?_ (by first | omega | (simp; done) | (simp; omega)) _; refine Below.setCell ?_ (by first | omega | (simp; done) | (simp; omega)) _; refine Below.setCell ?_ (by first | omega | (simp; done) | (simp; omega)) _; exact B2.out)

theorem toRu (vs : List Value) (x : Ru) (w : World) (hR : RRu 0 w vs x) (hn : x.wt ≤ 1048576) :
    Calls Tryz.prog 112 #[.agg vs.toArray] w fun e w' => ∃ vs' : List Value, vs'.length = 6 ∧ e = .returned (.agg vs'.toArray) ∧ RRu w.heap.size w' vs' x ∧ Below w.heap.size w w' :=
  (toRuU vs x w hR hn).mono fun _ _ ⟨vs', h1, h2, h3, h4⟩ => ⟨vs', h1, h2, weakRu h3, h4⟩

theorem Tryz.infoRule : (Tryz.prog.info? 85).map (fun i => (i.zero, i.size, i.bytes)) = some (some (.agg #[.string ByteArray.empty, .int .i64 0, .slice none 0 0, .slice none 0 0, .string ByteArray.empty, .slice none 0 0]), 6, 112) := by kernel_rfl

set_option maxHeartbeats 2000000 in
theorem toRuSU (a : Option Addr) (c : Nat) (xs : List Ru) (w : World) (hx : Sl 6 RRu 0 w a c xs) (hn : xs.length + wtS Ru.wt xs ≤ 1048576) :
    Calls Tryz.prog 98 #[.slice a xs.length c] w fun e w' => ∃ a' c', e = .returned (.slice a' xs.length c') ∧ SlU 85 6 RRuU w.heap.size w' a' c' xs ∧ Below w.heap.size w w' := by
  obtain ⟨i0, hi0, hz0, hz1, hz2⟩ := info_parts Tryz.infoRule
  have hb16 : i0.bytes * xs.length ≤ 281474976710656 := by rw [hz2]; omega
  have hl := hx.len
  have HX := Lib.hid (fun w' (hb : Below w.heap.size w w') => hx.kept goodRu (Kept.below hb))
  clear hx
  go_enter Tryz.func98, Tryz.ntmps98
  go_wp2_with (at_make; refine wpList_make_full _ rfl _ _ 53 rfl w.heap.size 85 i0 (.agg #[.string ByteArray.empty, .int .i64 0, .slice none 0 0, .slice none 0 0, .string ByteArray.empty, .slice none 0 0]) 6 Tryz.underlying53 hi0 hz0 hz1 .i64 .i64 _ _ xs.length rfl rfl rfl rfl hb16 (by unfold maxLen; omega) (Nat.le_refl _) ?_; intro w1 hown hg)
  have HD0 : DoneR 85 6 RRuU [.string ByteArray.empty, .int .i64 0, .slice none 0 0, .slice none 0 0, .string ByteArray.empty, .slice none 0 0] w xs 0 w1 := DoneR.new (z := [.string ByteArray.empty, .int .i64 0, .slice none 0 0, .slice none 0 0, .string ByteArray.empty, .slice none 0 0]) (by simp) hown hg
  clear hown hg
  go_loopw [4] (fun i wr => ∃ k : Nat, i = .int .i64 k ∧ DoneR 85 6 RRuU [.string ByteArray.empty, .int .i64 0, .slice none 0 0, .slice none 0 0, .string ByteArray.empty, .slice none 0 0] w xs k wr) (fun i _ => xs.length - (intOf i).toNat)
  case atStart => exact ⟨0, rfl, HD0⟩
  case round =>
    obtain ⟨k, rfl, hd⟩ := hrel
    by_cases hlt : k < xs.length
    · obtain ⟨b, off, vs, rfl, hbl, hcs, hR⟩ := (HX.out _ hd.2.2.2).spot hlt
      have HR := hR
      obtain ⟨a0, c0, a1, c1, a2, c2, rfl, _⟩ := hR
      have hc0 : wr.cell? ⟨b, off + k * 6, none⟩ = some (.string xs[k].name) := hcs 0 (by simp)
      have hc1 : wr.cell? ⟨b, off + k * 6 + 1, none⟩ = some (.int .i64 xs[k].kind) := hcs 1 (by simp)
      have hc2 : wr.cell? ⟨b, off + k * 6 + 2, none⟩ = some (.slice a0 xs[k].cols.length c0) := hcs 2 (by simp)
      have hc3 : wr.cell? ⟨b, off + k * 6 + 3, none⟩ = some (.slice a1 xs[k].expr.length c1) := hcs 3 (by simp)
      have hc4 : wr.cell? ⟨b, off + k * 6 + 4, none⟩ = some (.string xs[k].table) := hcs 4 (by simp)
      have hc5 : wr.cell? ⟨b, off + k * 6 + 5, none⟩ = some (.slice a2 xs[k].to.length c2) := hcs 5 (by simp)
      have HK := Lib.hid HR
      have HD := Lib.hid hd
      have HWt := wtS_get Ru.wt hlt
      clear HR hd hcs HD0
      go_wp2_with fail
      refine (toRuU _ xs[k] _ HK.out (by omega)).mono ?_
      rintro e w2 ⟨vs2, hvl, rfl, hk2, hb2⟩
      have HR2 := hk2
      obtain ⟨p0, q0, p1, q1, p2, q2, rfl, _⟩ := hk2
      have DC := HD.out.cells rfl hlt hb2
      have hd0 : w2.cell? ⟨w.heap.size, k * 6, none⟩ = some (.string ByteArray.empty) := DC.1 0 (by simp)
      have hf0 : w2.frozen? ⟨w.heap.size, k * 6, none⟩ = false := DC.2 _
      have hd1 : w2.cell? ⟨w.heap.size, k * 6 + 1, none⟩ = some (.int .i64 0) := DC.1 1 (by simp)
      have hf1 : w2.frozen? ⟨w.heap.size, k * 6 + 1, none⟩ = false := DC.2 _
      have hd2 : w2.cell? ⟨w.heap.size, k * 6 + 2, none⟩ = some (.slice none 0 0) := DC.1 2 (by simp)
      have hf2 : w2.frozen? ⟨w.heap.size, k * 6 + 2, none⟩ = false := DC.2 _
      have hd3 : w2.cell? ⟨w.heap.size, k * 6 + 3, none⟩ = some (.slice none 0 0) := DC.1 3 (by simp)
      have hf3 : w2.frozen? ⟨w.heap.size, k * 6 + 3, none⟩ = false := DC.2 _
      have hd4 : w2.cell? ⟨w.heap.size, k * 6 + 4, none⟩ = some (.string ByteArray.empty) := DC.1 4 (by simp)
      have hf4 : w2.frozen? ⟨w.heap.size, k * 6 + 4, none⟩ = false := DC.2 _
      have hd5 : w2.cell? ⟨w.heap.size, k * 6 + 5, none⟩ = some (.slice none 0 0) := DC.1 5 (by simp)
      have hf5 : w2.frozen? ⟨w.heap.size, k * 6 + 5, none⟩ = false := DC.2 _
      have HS := Lib.hid (HD.out.step goodRuU rfl hlt hvl HR2 hb2 rfl)
      clear DC HR2 hb2 HD HK hc0 hc1 hc2 hc3 hc4 hc5 hbl hvl
      go_wp2_with fail
      go_roundw
      case rel => exact ⟨k + 1, by go_num, HS.out⟩
      case measure => simp [intOf]; omega
    · have hle := hd.1
      obtain rfl : k = xs.length := by omega
      have HE := Lib.hid (hd.endU goodRuU)
      have hbl := hd.2.2.2
      clear hd
      go_wp2_with fail
      go_ret
      exact ⟨_, _, rfl, HE.out, hbl⟩

theorem toRuS (a : Option Addr) (c : Nat) (xs : List Ru) (w : World) (hx : Sl 6 RRu 0 w a c xs) (hn : xs.length + wtS Ru.wt xs ≤ 1048576) :
    Calls Tryz.prog 98 #[.slice a xs.length c] w fun e w' => ∃ a' c', e = .returned (.slice a' xs.length c') ∧ Sl 6 RRu w.heap.size w' a' c' xs ∧ Below w.heap.size w w' :=
  (toRuSU a c xs w hx hn).mono fun _ _ ⟨a', c', h1, h2, h3⟩ => ⟨a', c', h1, h2.weak weakRu, h3⟩

end Go.Proofs.YtjjdcdnaonfnmaaGreat

namespace Go.Proofs.YtjjdcdnaonfnmaaGreat
open Go.RowKit

set_option maxHeartbeats 2000000 in
theorem toTbU (vs : List Value) (x : Tb) (w : World) (hR : RTb 0 w vs x) (hn : x.wt ≤ 1048576) :
    Calls Tryz.prog 73 #[.agg vs.toArray] w fun e w' => ∃ vs' : List Value, vs'.length = 4 ∧ e = .returned (.agg vs'.toArray) ∧ RTbU w.heap.size w' vs' x ∧ Below w.heap.size w w' := by
  obtain ⟨a0, c0, a1, c1, rfl, hfit, k0, k1⟩ := hR
  have K0 := Lib.hid (fun w' (hb : Below w.heap.size w w') => k0.kept goodCo (Kept.below hb))
  clear k0
  have K1 := Lib.hid (fun w' (hb : Below w.heap.size w w') => k1.kept goodRu (Kept.below hb))
  clear k1
  have HW : x.wt = x.name.size + (x.cols.length + wtS Co.wt x.cols) + (x.rules.length + wtS Ru.wt x.rules) := rfl
  go_enter Tryz.func73, Tryz.ntmps73
  go_wp2_with fail
  refine (toCoSU a0 c0 x.cols _ (K0.out _ ?_) (by omega)).mono ?_
  · ((repeat (first | refine Below.alloc ?_ (by first | omega | (simp; done) | (simp; omega)) _ | refine Below.setCell ?_ (by first | omega | (simp; done) | (simp; omega)) _)); first | exact Below.refl _ _ | exact Below.refl _ _)
  rintro e w0 ⟨p0, q0, rfl, s0, b0⟩
  have B0 := Lib.hid (show Below w.heap.size w w0 from Below.call b0 (by ((repeat (first | refine Below.alloc ?_ (by first | omega | (simp; done) | (simp; omega)) _ | refine Below.setCell ?_ (by first | omega | (simp; done) | (simp; omega)) _)); first | exact Below.refl _ _ | exact Below.refl _ _)))
  have A0 := Lib.hid (show Blk w0 w.heap.size [.string x.name, .slice a0 x.cols.length c0, .slice a1 x.rules.length c1, .int .i64 x.token] from Blk.call b0 (((blk_new w _ [.string x.name, .slice a0 x.cols.length c0, .slice a1 x.rules.length c1, .int .i64 x.token]).alloc _).alloc _))
  have Y0 := Lib.hid (show Blk w0 (w.heap.size + 1) [.string ByteArray.empty, .slice none 0 0, .slice none 0 0, .int .i64 0] from Blk.call b0 ((blk_new' (w := w.alloc _) (b := w.heap.size + 1) (by simp) _ [.string ByteArray.empty, .slice none 0 0, .slice none 0 0, .int .i64 0]).alloc _))
  have G0 := Lib.hid (show Blk w0 (w.heap.size + 1 + 1) [.string x.name, .slice none 0 0, .slice none 0 0, .int .i64 0] from Blk.call b0 (blk_new' (w := (w.alloc _).alloc _) (b := w.heap.size + 1 + 1) (by simp) _ [.string x.name, .slice none 0 0, .slice none 0 0, .int .i64 0]))
  have S0 := Lib.hid (s0.lower goodCoU (show w.heap.size + 3 ≤ _ by (first | omega | (simp; done) | (simp; omega) | (simp [World.setCell]; done) | (simp [World.setCell]; omega))))
  clear s0 b0
  have g0_2 : w0.cell? ⟨w.heap.size, 2, none⟩ = some (.slice a1 x.rules.length c1) := (A0.out.2 2 (by simp)).1
  have h0_1 : w0.cell? ⟨w.heap.size + 1 + 1, 1, none⟩ = some (.slice none 0 0) := (G0.out.2 1 (by simp)).1
  have z0_1 : w0.frozen? ⟨w.heap.size + 1 + 1, 1, none⟩ = false := (G0.out.2 1 (by simp)).2
  go_wp2_with fail
  refine (toRuSU a1 c1 x.rules _ (K1.out _ ?_) (by omega)).mono ?_
  · (refine Below.setCell ?_ (by first | omega | (simp; done) | (simp; omega)) _; exact B0.out)
  rintro e w1 ⟨p1, q1, rfl, s1, b1⟩
  have B1 := Lib.hid (show Below w.heap.size w w1 from Below.call b1 (by (refine Below.setCell ?_ (by first | omega | (simp; done) | (simp; omega)) _; exact B0.out)))
  have A1 := Lib.hid (show Blk w1 w.heap.size [.string x.name, .slice a0 x.cols.length c0, .slice a1 x.rules.length c1, .int .i64 x.token] from Blk.call b1 ((A0.out).other (b' := w.heap.size + 1 + 1) (by omega) 1 (.slice p0 x.cols.length q0)))
  have Y1 := Lib.hid (show Blk w1 (w.heap.size + 1) [.string ByteArray.empty, .slice none 0 0, .slice none 0 0, .int .i64 0] from Blk.call b1 ((Y0.out).other (b' := w.heap.size + 1 + 1) (by omega) 1 (.slice p0 x.cols.length q0)))
  have G1 := Lib.hid (show Blk w1 (w.heap.size + 1 + 1) [.string x.name, .slice p0 x.cols.length q0, .slice none 0 0, .int .i64 0] from Blk.call b1 ((G0.out).set 1 (.slice p0 x.cols.length q0)))
  have S0 := Lib.hid (S0.out.kept goodCoU (Kept.call b1 (by (refine Kept.set ?_ (by first | omega | (simp; done) | (simp; omega)) _; exact Kept.refl _ _))))
  have S1 := Lib.hid (s1.lower goodRuU (show w.heap.size + 3 ≤ _ by (have h3 := G0.out.1; first | omega | (simp; done) | (simp; omega) | (simp [World.setCell]; done) | (simp [World.setCell]; omega))))
  clear s1 b1
  clear g0_2 h0_1 z0_1
  have g1_3 : w1.cell? ⟨w.heap.size, 3, none⟩ = some (.int .i64 x.token) := (A1.out.2 3 (by simp)).1
  have h1_0 : w1.cell? ⟨w.heap.size + 1 + 1, 0, none⟩ = some (.string x.name) := (G1.out.2 0 (by simp)).1
  have y1_0 : w1.cell? ⟨w.heap.size + 1, 0, none⟩ = some (.string ByteArray.empty) := (Y1.out.2 0 (by simp)).1
  have r1_0 : w1.frozen? ⟨w.heap.size + 1, 0, none⟩ = false := (Y1.out.2 0 (by simp)).2
  have h1_1 : w1.cell? ⟨w.heap.size + 1 + 1, 1, none⟩ = some (.slice p0 x.cols.length q0) := (G1.out.2 1 (by simp)).1
  have y1_1 : w1.cell? ⟨w.heap.size + 1, 1, none⟩ = some (.slice none 0 0) := (Y1.out.2 1 (by simp)).1
  have r1_1 : w1.frozen? ⟨w.heap.size + 1, 1, none⟩ = false := (Y1.out.2 1 (by simp)).2
  have h1_2 : w1.cell? ⟨w.heap.size + 1 + 1, 2, none⟩ = some (.slice none 0 0) := (G1.out.2 2 (by simp)).1
  have z1_2 : w1.frozen? ⟨w.heap.size + 1 + 1, 2, none⟩ = false := (G1.out.2 2 (by simp)).2
  have y1_2 : w1.cell? ⟨w.heap.size + 1, 2, none⟩ = some (.slice none 0 0) := (Y1.out.2 2 (by simp)).1
  have r1_2 : w1.frozen? ⟨w.heap.size + 1, 2, none⟩ = false := (Y1.out.2 2 (by simp)).2
  have h1_3 : w1.cell? ⟨w.heap.size + 1 + 1, 3, none⟩ = some (.int .i64 0) := (G1.out.2 3 (by simp)).1
  have z1_3 : w1.frozen? ⟨w.heap.size + 1 + 1, 3, none⟩ = false := (G1.out.2 3 (by simp)).2
  have y1_3 : w1.cell? ⟨w.heap.size + 1, 3, none⟩ = some (.int .i64 0) := (Y1.out.2 3 (by simp)).1
  have r1_3 : w1.frozen? ⟨w.heap.size + 1, 3, none⟩ = false := (Y1.out.2 3 (by simp)).2
  go_wp2_with fail
  refine bodyPost_ret (v := .agg #[.string x.name, .slice p0 x.cols.length q0, .slice p1 x.rules.length q1, .int .i64 x.token]) (by simp [results, Tryz.results73, go_sem, *]) rfl ⟨[.string x.name, .slice p0 x.cols.length q0, .slice p1 x.rules.length q1, .int .i64 x.token], rfl, rfl, ⟨p0, q0, p1, q1, rfl, hfit, ?_, ?_⟩, ?_⟩
  · exact (S0.out.kept goodCoU (by (refine Kept.set ?_ (by first | omega | (simp; done) | (simp; omega)) _; refine Kept.set ?_ (by first | omega | (simp; done) | (simp; omega)) _; refine Kept.set ?_ (by first | omega | (simp; done) | (simp; omega)) _; refine Kept.set ?_ (by first | omega | (simp; done) | (simp; omega)) _; refine Kept.set ?_ (by first | omega | (simp; done) | (simp; omega)) _; refine Kept.set ?_ (by first | omega | (simp; done) | (simp; omega)) _; exact Kept.refl _ _))).lower goodCoU (by omega)
  · exact (S1.out.kept goodRuU (by (refine Kept.set ?_ (by first | omega | (simp; done) | (simp; omega)) _; refine Kept.set ?_ (by first | omega | (simp; done) | (simp; omega)) _; refine Kept.set ?_ (by first | omega | (simp; done) | (simp; omega)) _; refine Kept.set ?_ (by first | omega | (simp; done) | (simp; omega)) _; refine Kept.set ?_ (by first | omega | (simp; done) | (simp; omega)) _; refine Kept.set ?_ (by first | omega | (simp; done) | (simp; omega)) _; exact Kept.refl _ _))).lower goodRuU (by omega)
  · (refine Below.setCell ?_ (by first | omega | (simp; done) | (simp; omega)) _; refine Below.setCell ?_ (by first | omega | (simp; done) | (simp; omega)) _; refine Below.setCell ?_ (by first | omega | (simp; done) | (simp; omega)) _; refine Below.setCell ?_ (by first | omega | (simp; done) | (simp; omega)) _; refine Below.setCell ?_ (by first | omega | (simp; done) | (simp; omega)) _; refine Below.setCell ?_ (by first | omega | (simp; done) | (simp; omega)) _; exact B1.out)

theorem toTb (vs : List Value) (x : Tb) (w : World) (hR : RTb 0 w vs x) (hn : x.wt ≤ 1048576) :
    Calls Tryz.prog 73 #[.agg vs.toArray] w fun e w' => ∃ vs' : List Value, vs'.length = 4 ∧ e = .returned (.agg vs'.toArray) ∧ RTb w.heap.size w' vs' x ∧ Below w.heap.size w w' :=
  (toTbU vs x w hR hn).mono fun _ _ ⟨vs', h1, h2, h3, h4⟩ => ⟨vs', h1, h2, weakTb h3, h4⟩

theorem Tryz.infoTable : (Tryz.prog.info? 55).map (fun i => (i.zero, i.size, i.bytes)) = some (some (.agg #[.string ByteArray.empty, .slice none 0 0, .slice none 0 0, .int .i64 0]), 4, 72) := by kernel_rfl

set_option maxHeartbeats 2000000 in
theorem toTbSU (a : Option Addr) (c : Nat) (xs : List Tb) (w : World) (hx : Sl 4 RTb 0 w a c xs) (hn : xs.length + wtS Tb.wt xs ≤ 1048576) :
    Calls Tryz.prog 27 #[.slice a xs.length c] w fun e w' => ∃ a' c', e = .returned (.slice a' xs.length c') ∧ SlU 55 4 RTbU w.heap.size w' a' c' xs ∧ Below w.heap.size w w' := by
  obtain ⟨i0, hi0, hz0, hz1, hz2⟩ := info_parts Tryz.infoTable
  have hb16 : i0.bytes * xs.length ≤ 281474976710656 := by rw [hz2]; omega
  have hl := hx.len
  have HX := Lib.hid (fun w' (hb : Below w.heap.size w w') => hx.kept goodTb (Kept.below hb))
  clear hx
  go_enter Tryz.func27, Tryz.ntmps27
  go_wp2_with (at_make; refine wpList_make_full _ rfl _ _ 34 rfl w.heap.size 55 i0 (.agg #[.string ByteArray.empty, .slice none 0 0, .slice none 0 0, .int .i64 0]) 4 Tryz.underlying34 hi0 hz0 hz1 .i64 .i64 _ _ xs.length rfl rfl rfl rfl hb16 (by unfold maxLen; omega) (Nat.le_refl _) ?_; intro w1 hown hg)
  have HD0 : DoneR 55 4 RTbU [.string ByteArray.empty, .slice none 0 0, .slice none 0 0, .int .i64 0] w xs 0 w1 := DoneR.new (z := [.string ByteArray.empty, .slice none 0 0, .slice none 0 0, .int .i64 0]) (by simp) hown hg
  clear hown hg
  go_loopw [4] (fun i wr => ∃ k : Nat, i = .int .i64 k ∧ DoneR 55 4 RTbU [.string ByteArray.empty, .slice none 0 0, .slice none 0 0, .int .i64 0] w xs k wr) (fun i _ => xs.length - (intOf i).toNat)
  case atStart => exact ⟨0, rfl, HD0⟩
  case round =>
    obtain ⟨k, rfl, hd⟩ := hrel
    by_cases hlt : k < xs.length
    · obtain ⟨b, off, vs, rfl, hbl, hcs, hR⟩ := (HX.out _ hd.2.2.2).spot hlt
      have HR := hR
      obtain ⟨a0, c0, a1, c1, rfl, _⟩ := hR
      have hc0 : wr.cell? ⟨b, off + k * 4, none⟩ = some (.string xs[k].name) := hcs 0 (by simp)
      have hc1 : wr.cell? ⟨b, off + k * 4 + 1, none⟩ = some (.slice a0 xs[k].cols.length c0) := hcs 1 (by simp)
      have hc2 : wr.cell? ⟨b, off + k * 4 + 2, none⟩ = some (.slice a1 xs[k].rules.length c1) := hcs 2 (by simp)
      have hc3 : wr.cell? ⟨b, off + k * 4 + 3, none⟩ = some (.int .i64 xs[k].token) := hcs 3 (by simp)
      have HK := Lib.hid HR
      have HD := Lib.hid hd
      have HWt := wtS_get Tb.wt hlt
      clear HR hd hcs HD0
      go_wp2_with fail
      refine (toTbU _ xs[k] _ HK.out (by omega)).mono ?_
      rintro e w2 ⟨vs2, hvl, rfl, hk2, hb2⟩
      have HR2 := hk2
      obtain ⟨p0, q0, p1, q1, rfl, _⟩ := hk2
      have DC := HD.out.cells rfl hlt hb2
      have hd0 : w2.cell? ⟨w.heap.size, k * 4, none⟩ = some (.string ByteArray.empty) := DC.1 0 (by simp)
      have hf0 : w2.frozen? ⟨w.heap.size, k * 4, none⟩ = false := DC.2 _
      have hd1 : w2.cell? ⟨w.heap.size, k * 4 + 1, none⟩ = some (.slice none 0 0) := DC.1 1 (by simp)
      have hf1 : w2.frozen? ⟨w.heap.size, k * 4 + 1, none⟩ = false := DC.2 _
      have hd2 : w2.cell? ⟨w.heap.size, k * 4 + 2, none⟩ = some (.slice none 0 0) := DC.1 2 (by simp)
      have hf2 : w2.frozen? ⟨w.heap.size, k * 4 + 2, none⟩ = false := DC.2 _
      have hd3 : w2.cell? ⟨w.heap.size, k * 4 + 3, none⟩ = some (.int .i64 0) := DC.1 3 (by simp)
      have hf3 : w2.frozen? ⟨w.heap.size, k * 4 + 3, none⟩ = false := DC.2 _
      have HS := Lib.hid (HD.out.step goodTbU rfl hlt hvl HR2 hb2 rfl)
      clear DC HR2 hb2 HD HK hc0 hc1 hc2 hc3 hbl hvl
      go_wp2_with fail
      go_roundw
      case rel => exact ⟨k + 1, by go_num, HS.out⟩
      case measure => simp [intOf]; omega
    · have hle := hd.1
      obtain rfl : k = xs.length := by omega
      have HE := Lib.hid (hd.endU goodTbU)
      have hbl := hd.2.2.2
      clear hd
      go_wp2_with fail
      go_ret
      exact ⟨_, _, rfl, HE.out, hbl⟩

theorem toTbS (a : Option Addr) (c : Nat) (xs : List Tb) (w : World) (hx : Sl 4 RTb 0 w a c xs) (hn : xs.length + wtS Tb.wt xs ≤ 1048576) :
    Calls Tryz.prog 27 #[.slice a xs.length c] w fun e w' => ∃ a' c', e = .returned (.slice a' xs.length c') ∧ Sl 4 RTb w.heap.size w' a' c' xs ∧ Below w.heap.size w w' :=
  (toTbSU a c xs w hx hn).mono fun _ _ ⟨a', c', h1, h2, h3⟩ => ⟨a', c', h1, h2.weak weakTb, h3⟩

end Go.Proofs.YtjjdcdnaonfnmaaGreat

namespace Go.Proofs.YtjjdcdnaonfnmaaGreat
open Go.RowKit

set_option maxHeartbeats 2000000 in
theorem toIxU (vs : List Value) (x : Ix) (w : World) (hR : RIx 0 w vs x) (hn : x.wt ≤ 1048576) :
    Calls Tryz.prog 74 #[.agg vs.toArray] w fun e w' => ∃ vs' : List Value, vs'.length = 4 ∧ e = .returned (.agg vs'.toArray) ∧ RIxU w.heap.size w' vs' x ∧ Below w.heap.size w w' := by
  obtain ⟨a0, c0, rfl, hfit, k0⟩ := hR
  have K0 := Lib.hid (fun w' (hb : Below w.heap.size w w') => k0.kept (Kept.below hb))
  clear k0
  have HW : x.wt = x.name.size + x.table.size + (x.cols.length + lets x.cols) := rfl
  go_enter Tryz.func74, Tryz.ntmps74
  go_wp2_with fail
  refine (toSsU a0 c0 x.cols _ (K0.out _ ?_) (by omega)).mono ?_
  · ((repeat (first | refine Below.alloc ?_ (by first | omega | (simp; done) | (simp; omega)) _ | refine Below.setCell ?_ (by first | omega | (simp; done) | (simp; omega)) _)); first | exact Below.refl _ _ | exact Below.refl _ _)
  rintro e w0 ⟨p0, q0, rfl, s0, b0⟩
  have B0 := Lib.hid (show Below w.heap.size w w0 from Below.call b0 (by ((repeat (first | refine Below.alloc ?_ (by first | omega | (simp; done) | (simp; omega)) _ | refine Below.setCell ?_ (by first | omega | (simp; done) | (simp; omega)) _)); first | exact Below.refl _ _ | exact Below.refl _ _)))
  have A0 := Lib.hid (show Blk w0 w.heap.size [.string x.name, .string x.table, .slice a0 x.cols.length c0, .bool x.uniq] from Blk.call b0 (((blk_new w _ [.string x.name, .string x.table, .slice a0 x.cols.length c0, .bool x.uniq]).alloc _).alloc _))
  have Y0 := Lib.hid (show Blk w0 (w.heap.size + 1) [.string ByteArray.empty, .string ByteArray.empty, .slice none 0 0, .bool false] from Blk.call b0 ((blk_new' (w := w.alloc _) (b := w.heap.size + 1) (by simp) _ [.string ByteArray.empty, .string ByteArray.empty, .slice none 0 0, .bool false]).alloc _))
  have G0 := Lib.hid (show Blk w0 (w.heap.size + 1 + 1) [.string x.name, .string x.table, .slice none 0 0, .bool false] from Blk.call b0 (blk_new' (w := (w.alloc _).alloc _) (b := w.heap.size + 1 + 1) (by simp) _ [.string x.name, .string x.table, .slice none 0 0, .bool false]))
  have S0 := Lib.hid (s0.lower (show w.heap.size + 3 ≤ _ by (first | omega | (simp; done) | (simp; omega) | (simp [World.setCell]; done) | (simp [World.setCell]; omega))))
  clear s0 b0
  have g0_3 : w0.cell? ⟨w.heap.size, 3, none⟩ = some (.bool x.uniq) := (A0.out.2 3 (by simp)).1
  have h0_0 : w0.cell? ⟨w.heap.size + 1 + 1, 0, none⟩ = some (.string x.name) := (G0.out.2 0 (by simp)).1
  have y0_0 : w0.cell? ⟨w.heap.size + 1, 0, none⟩ = some (.string ByteArray.empty) := (Y0.out.2 0 (by simp)).1
  have r0_0 : w0.frozen? ⟨w.heap.size + 1, 0, none⟩ = false := (Y0.out.2 0 (by simp)).2
  have h0_1 : w0.cell? ⟨w.heap.size + 1 + 1, 1, none⟩ = some (.string x.table) := (G0.out.2 1 (by simp)).1
  have y0_1 : w0.cell? ⟨w.heap.size + 1, 1, none⟩ = some (.string ByteArray.empty) := (Y0.out.2 1 (by simp)).1
  have r0_1 : w0.frozen? ⟨w.heap.size + 1, 1, none⟩ = false := (Y0.out.2 1 (by simp)).2
  have h0_2 : w0.cell? ⟨w.heap.size + 1 + 1, 2, none⟩ = some (.slice none 0 0) := (G0.out.2 2 (by simp)).1
  have z0_2 : w0.frozen? ⟨w.heap.size + 1 + 1, 2, none⟩ = false := (G0.out.2 2 (by simp)).2
  have y0_2 : w0.cell? ⟨w.heap.size + 1, 2, none⟩ = some (.slice none 0 0) := (Y0.out.2 2 (by simp)).1
  have r0_2 : w0.frozen? ⟨w.heap.size + 1, 2, none⟩ = false := (Y0.out.2 2 (by simp)).2
  have h0_3 : w0.cell? ⟨w.heap.size + 1 + 1, 3, none⟩ = some (.bool false) := (G0.out.2 3 (by simp)).1
  have z0_3 : w0.frozen? ⟨w.heap.size + 1 + 1, 3, none⟩ = false := (G0.out.2 3 (by simp)).2
  have y0_3 : w0.cell? ⟨w.heap.size + 1, 3, none⟩ = some (.bool false) := (Y0.out.2 3 (by simp)).1
  have r0_3 : w0.frozen? ⟨w.heap.size + 1, 3, none⟩ = false := (Y0.out.2 3 (by simp)).2
  go_wp2_with fail
  refine bodyPost_ret (v := .agg #[.string x.name, .string x.table, .slice p0 x.cols.length q0, .bool x.uniq]) (by simp [results, Tryz.results74, go_sem, *]) rfl ⟨[.string x.name, .string x.table, .slice p0 x.cols.length q0, .bool x.uniq], rfl, rfl, ⟨p0, q0, rfl, hfit, ?_⟩, ?_⟩
  · exact (S0.out.kept (by (refine Kept.set ?_ (by first | omega | (simp; done) | (simp; omega)) _; refine Kept.set ?_ (by first | omega | (simp; done) | (simp; omega)) _; refine Kept.set ?_ (by first | omega | (simp; done) | (simp; omega)) _; refine Kept.set ?_ (by first | omega | (simp; done) | (simp; omega)) _; refine Kept.set ?_ (by first | omega | (simp; done) | (simp; omega)) _; refine Kept.set ?_ (by first | omega | (simp; done) | (simp; omega)) _; exact Kept.refl _ _))).lower (by omega)
  · (refine Below.setCell ?_ (by first | omega | (simp; done) | (simp; omega)) _; refine Below.setCell ?_ (by first | omega | (simp; done) | (simp; omega)) _; refine Below.setCell ?_ (by first | omega | (simp; done) | (simp; omega)) _; refine Below.setCell ?_ (by first | omega | (simp; done) | (simp; omega)) _; refine Below.setCell ?_ (by first | omega | (simp; done) | (simp; omega)) _; refine Below.setCell ?_ (by first | omega | (simp; done) | (simp; omega)) _; exact B0.out)

theorem toIx (vs : List Value) (x : Ix) (w : World) (hR : RIx 0 w vs x) (hn : x.wt ≤ 1048576) :
    Calls Tryz.prog 74 #[.agg vs.toArray] w fun e w' => ∃ vs' : List Value, vs'.length = 4 ∧ e = .returned (.agg vs'.toArray) ∧ RIx w.heap.size w' vs' x ∧ Below w.heap.size w w' :=
  (toIxU vs x w hR hn).mono fun _ _ ⟨vs', h1, h2, h3, h4⟩ => ⟨vs', h1, h2, weakIx h3, h4⟩

theorem Tryz.infoIndex : (Tryz.prog.info? 87).map (fun i => (i.zero, i.size, i.bytes)) = some (some (.agg #[.string ByteArray.empty, .string ByteArray.empty, .slice none 0 0, .bool false]), 4, 64) := by kernel_rfl

set_option maxHeartbeats 2000000 in
theorem toIxSU (a : Option Addr) (c : Nat) (xs : List Ix) (w : World) (hx : Sl 4 RIx 0 w a c xs) (hn : xs.length + wtS Ix.wt xs ≤ 1048576) :
    Calls Tryz.prog 28 #[.slice a xs.length c] w fun e w' => ∃ a' c', e = .returned (.slice a' xs.length c') ∧ SlU 87 4 RIxU w.heap.size w' a' c' xs ∧ Below w.heap.size w w' := by
  obtain ⟨i0, hi0, hz0, hz1, hz2⟩ := info_parts Tryz.infoIndex
  have hb16 : i0.bytes * xs.length ≤ 281474976710656 := by rw [hz2]; omega
  have hl := hx.len
  have HX := Lib.hid (fun w' (hb : Below w.heap.size w w') => hx.kept goodIx (Kept.below hb))
  clear hx
  go_enter Tryz.func28, Tryz.ntmps28
  go_wp2_with (at_make; refine wpList_make_full _ rfl _ _ 35 rfl w.heap.size 87 i0 (.agg #[.string ByteArray.empty, .string ByteArray.empty, .slice none 0 0, .bool false]) 4 Tryz.underlying35 hi0 hz0 hz1 .i64 .i64 _ _ xs.length rfl rfl rfl rfl hb16 (by unfold maxLen; omega) (Nat.le_refl _) ?_; intro w1 hown hg)
  have HD0 : DoneR 87 4 RIxU [.string ByteArray.empty, .string ByteArray.empty, .slice none 0 0, .bool false] w xs 0 w1 := DoneR.new (z := [.string ByteArray.empty, .string ByteArray.empty, .slice none 0 0, .bool false]) (by simp) hown hg
  clear hown hg
  go_loopw [4] (fun i wr => ∃ k : Nat, i = .int .i64 k ∧ DoneR 87 4 RIxU [.string ByteArray.empty, .string ByteArray.empty, .slice none 0 0, .bool false] w xs k wr) (fun i _ => xs.length - (intOf i).toNat)
  case atStart => exact ⟨0, rfl, HD0⟩
  case round =>
    obtain ⟨k, rfl, hd⟩ := hrel
    by_cases hlt : k < xs.length
    · obtain ⟨b, off, vs, rfl, hbl, hcs, hR⟩ := (HX.out _ hd.2.2.2).spot hlt
      have HR := hR
      obtain ⟨a0, c0, rfl, _⟩ := hR
      have hc0 : wr.cell? ⟨b, off + k * 4, none⟩ = some (.string xs[k].name) := hcs 0 (by simp)
      have hc1 : wr.cell? ⟨b, off + k * 4 + 1, none⟩ = some (.string xs[k].table) := hcs 1 (by simp)
      have hc2 : wr.cell? ⟨b, off + k * 4 + 2, none⟩ = some (.slice a0 xs[k].cols.length c0) := hcs 2 (by simp)
      have hc3 : wr.cell? ⟨b, off + k * 4 + 3, none⟩ = some (.bool xs[k].uniq) := hcs 3 (by simp)
      have HK := Lib.hid HR
      have HD := Lib.hid hd
      have HWt := wtS_get Ix.wt hlt
      clear HR hd hcs HD0
      go_wp2_with fail
      refine (toIxU _ xs[k] _ HK.out (by omega)).mono ?_
      rintro e w2 ⟨vs2, hvl, rfl, hk2, hb2⟩
      have HR2 := hk2
      obtain ⟨p0, q0, rfl, _⟩ := hk2
      have DC := HD.out.cells rfl hlt hb2
      have hd0 : w2.cell? ⟨w.heap.size, k * 4, none⟩ = some (.string ByteArray.empty) := DC.1 0 (by simp)
      have hf0 : w2.frozen? ⟨w.heap.size, k * 4, none⟩ = false := DC.2 _
      have hd1 : w2.cell? ⟨w.heap.size, k * 4 + 1, none⟩ = some (.string ByteArray.empty) := DC.1 1 (by simp)
      have hf1 : w2.frozen? ⟨w.heap.size, k * 4 + 1, none⟩ = false := DC.2 _
      have hd2 : w2.cell? ⟨w.heap.size, k * 4 + 2, none⟩ = some (.slice none 0 0) := DC.1 2 (by simp)
      have hf2 : w2.frozen? ⟨w.heap.size, k * 4 + 2, none⟩ = false := DC.2 _
      have hd3 : w2.cell? ⟨w.heap.size, k * 4 + 3, none⟩ = some (.bool false) := DC.1 3 (by simp)
      have hf3 : w2.frozen? ⟨w.heap.size, k * 4 + 3, none⟩ = false := DC.2 _
      have HS := Lib.hid (HD.out.step goodIxU rfl hlt hvl HR2 hb2 rfl)
      clear DC HR2 hb2 HD HK hc0 hc1 hc2 hc3 hbl hvl
      go_wp2_with fail
      go_roundw
      case rel => exact ⟨k + 1, by go_num, HS.out⟩
      case measure => simp [intOf]; omega
    · have hle := hd.1
      obtain rfl : k = xs.length := by omega
      have HE := Lib.hid (hd.endU goodIxU)
      have hbl := hd.2.2.2
      clear hd
      go_wp2_with fail
      go_ret
      exact ⟨_, _, rfl, HE.out, hbl⟩

theorem toIxS (a : Option Addr) (c : Nat) (xs : List Ix) (w : World) (hx : Sl 4 RIx 0 w a c xs) (hn : xs.length + wtS Ix.wt xs ≤ 1048576) :
    Calls Tryz.prog 28 #[.slice a xs.length c] w fun e w' => ∃ a' c', e = .returned (.slice a' xs.length c') ∧ Sl 4 RIx w.heap.size w' a' c' xs ∧ Below w.heap.size w w' :=
  (toIxSU a c xs w hx hn).mono fun _ _ ⟨a', c', h1, h2, h3⟩ => ⟨a', c', h1, h2.weak weakIx, h3⟩

set_option maxHeartbeats 2000000 in
theorem toVwU (vs : List Value) (x : Vw) (w : World) (hR : RVw 0 w vs x) (hn : x.wt ≤ 1048576) :
    Calls Tryz.prog 75 #[.agg vs.toArray] w fun e w' => ∃ vs' : List Value, vs'.length = 4 ∧ e = .returned (.agg vs'.toArray) ∧ RVwU w.heap.size w' vs' x ∧ Below w.heap.size w w' := by
  obtain ⟨a0, c0, a1, c1, rfl, hfit, k0, k1⟩ := hR
  have K0 := Lib.hid (fun w' (hb : Below w.heap.size w w') => k0.kept (Kept.below hb))
  clear k0
  have K1 := Lib.hid (fun w' (hb : Below w.heap.size w w') => k1.kept (Kept.below hb))
  clear k1
  have HW : x.wt = x.name.size + x.table.size + (x.cols.length + lets x.cols) + (x.whr.length + wtL x.whr) := rfl
  go_enter Tryz.func75, Tryz.ntmps75
  go_wp2_with fail
  refine (toSsU a0 c0 x.cols _ (K0.out _ ?_) (by omega)).mono ?_
  · ((repeat (first | refine Below.alloc ?_ (by first | omega | (simp; done) | (simp; omega)) _ | refine Below.setCell ?_ (by first | omega | (simp; done) | (simp; omega)) _)); first | exact Below.refl _ _ | exact Below.refl _ _)
  rintro e w0 ⟨p0, q0, rfl, s0, b0⟩
  have B0 := Lib.hid (show Below w.heap.size w w0 from Below.call b0 (by ((repeat (first | refine Below.alloc ?_ (by first | omega | (simp; done) | (simp; omega)) _ | refine Below.setCell ?_ (by first | omega | (simp; done) | (simp; omega)) _)); first | exact Below.refl _ _ | exact Below.refl _ _)))
  have A0 := Lib.hid (show Blk w0 w.heap.size [.string x.name, .string x.table, .slice a0 x.cols.length c0, .slice a1 x.whr.length c1] from Blk.call b0 (((blk_new w _ [.string x.name, .string x.table, .slice a0 x.cols.length c0, .slice a1 x.whr.length c1]).alloc _).alloc _))
  have Y0 := Lib.hid (show Blk w0 (w.heap.size + 1) [.string ByteArray.empty, .string ByteArray.empty, .slice none 0 0, .slice none 0 0] from Blk.call b0 ((blk_new' (w := w.alloc _) (b := w.heap.size + 1) (by simp) _ [.string ByteArray.empty, .string ByteArray.empty, .slice none 0 0, .slice none 0 0]).alloc _))
  have G0 := Lib.hid (show Blk w0 (w.heap.size + 1 + 1) [.string x.name, .string x.table, .slice none 0 0, .slice none 0 0] from Blk.call b0 (blk_new' (w := (w.alloc _).alloc _) (b := w.heap.size + 1 + 1) (by simp) _ [.string x.name, .string x.table, .slice none 0 0, .slice none 0 0]))
  have S0 := Lib.hid (s0.lower (show w.heap.size + 3 ≤ _ by (first | omega | (simp; done) | (simp; omega) | (simp [World.setCell]; done) | (simp [World.setCell]; omega))))
  clear s0 b0
  have g0_3 : w0.cell? ⟨w.heap.size, 3, none⟩ = some (.slice a1 x.whr.length c1) := (A0.out.2 3 (by simp)).1
  have h0_2 : w0.cell? ⟨w.heap.size + 1 + 1, 2, none⟩ = some (.slice none 0 0) := (G0.out.2 2 (by simp)).1
  have z0_2 : w0.frozen? ⟨w.heap.size + 1 + 1, 2, none⟩ = false := (G0.out.2 2 (by simp)).2
  go_wp2_with fail
  refine (toKsU a1 c1 x.whr _ (K1.out _ ?_) (by omega)).mono ?_
  · (refine Below.setCell ?_ (by first | omega | (simp; done) | (simp; omega)) _; exact B0.out)
  rintro e w1 ⟨p1, q1, rfl, s1, b1⟩
  have B1 := Lib.hid (show Below w.heap.size w w1 from Below.call b1 (by (refine Below.setCell ?_ (by first | omega | (simp; done) | (simp; omega)) _; exact B0.out)))
  have A1 := Lib.hid (show Blk w1 w.heap.size [.string x.name, .string x.table, .slice a0 x.cols.length c0, .slice a1 x.whr.length c1] from Blk.call b1 ((A0.out).other (b' := w.heap.size + 1 + 1) (by omega) 2 (.slice p0 x.cols.length q0)))
  have Y1 := Lib.hid (show Blk w1 (w.heap.size + 1) [.string ByteArray.empty, .string ByteArray.empty, .slice none 0 0, .slice none 0 0] from Blk.call b1 ((Y0.out).other (b' := w.heap.size + 1 + 1) (by omega) 2 (.slice p0 x.cols.length q0)))
  have G1 := Lib.hid (show Blk w1 (w.heap.size + 1 + 1) [.string x.name, .string x.table, .slice p0 x.cols.length q0, .slice none 0 0] from Blk.call b1 ((G0.out).set 2 (.slice p0 x.cols.length q0)))
  have S0 := Lib.hid (S0.out.kept (Kept.call b1 (by (refine Kept.set ?_ (by first | omega | (simp; done) | (simp; omega)) _; exact Kept.refl _ _))))
  have S1 := Lib.hid (s1.lower (show w.heap.size + 3 ≤ _ by (have h3 := G0.out.1; first | omega | (simp; done) | (simp; omega) | (simp [World.setCell]; done) | (simp [World.setCell]; omega))))
  clear s1 b1
  clear g0_3 h0_2 z0_2
  have h1_0 : w1.cell? ⟨w.heap.size + 1 + 1, 0, none⟩ = some (.string x.name) := (G1.out.2 0 (by simp)).1
  have y1_0 : w1.cell? ⟨w.heap.size + 1, 0, none⟩ = some (.string ByteArray.empty) := (Y1.out.2 0 (by simp)).1
  have r1_0 : w1.frozen? ⟨w.heap.size + 1, 0, none⟩ = false := (Y1.out.2 0 (by simp)).2
  have h1_1 : w1.cell? ⟨w.heap.size + 1 + 1, 1, none⟩ = some (.string x.table) := (G1.out.2 1 (by simp)).1
  have y1_1 : w1.cell? ⟨w.heap.size + 1, 1, none⟩ = some (.string ByteArray.empty) := (Y1.out.2 1 (by simp)).1
  have r1_1 : w1.frozen? ⟨w.heap.size + 1, 1, none⟩ = false := (Y1.out.2 1 (by simp)).2
  have h1_2 : w1.cell? ⟨w.heap.size + 1 + 1, 2, none⟩ = some (.slice p0 x.cols.length q0) := (G1.out.2 2 (by simp)).1
  have y1_2 : w1.cell? ⟨w.heap.size + 1, 2, none⟩ = some (.slice none 0 0) := (Y1.out.2 2 (by simp)).1
  have r1_2 : w1.frozen? ⟨w.heap.size + 1, 2, none⟩ = false := (Y1.out.2 2 (by simp)).2
  have h1_3 : w1.cell? ⟨w.heap.size + 1 + 1, 3, none⟩ = some (.slice none 0 0) := (G1.out.2 3 (by simp)).1
  have z1_3 : w1.frozen? ⟨w.heap.size + 1 + 1, 3, none⟩ = false := (G1.out.2 3 (by simp)).2
  have y1_3 : w1.cell? ⟨w.heap.size + 1, 3, none⟩ = some (.slice none 0 0) := (Y1.out.2 3 (by simp)).1
  have r1_3 : w1.frozen? ⟨w.heap.size + 1, 3, none⟩ = false := (Y1.out.2 3 (by simp)).2
  go_wp2_with fail
  refine bodyPost_ret (v := .agg #[.string x.name, .string x.table, .slice p0 x.cols.length q0, .slice p1 x.whr.length q1]) (by simp [results, Tryz.results75, go_sem, *]) rfl ⟨[.string x.name, .string x.table, .slice p0 x.cols.length q0, .slice p1 x.whr.length q1], rfl, rfl, ⟨p0, q0, p1, q1, rfl, hfit, ?_, ?_⟩, ?_⟩
  · exact (S0.out.kept (by (refine Kept.set ?_ (by first | omega | (simp; done) | (simp; omega)) _; refine Kept.set ?_ (by first | omega | (simp; done) | (simp; omega)) _; refine Kept.set ?_ (by first | omega | (simp; done) | (simp; omega)) _; refine Kept.set ?_ (by first | omega | (simp; done) | (simp; omega)) _; refine Kept.set ?_ (by first | omega | (simp; done) | (simp; omega)) _; exact Kept.refl _ _))).lower (by omega)
  · exact (S1.out.kept (by (refine Kept.set ?_ (by first | omega | (simp; done) | (simp; omega)) _; refine Kept.set ?_ (by first | omega | (simp; done) | (simp; omega)) _; refine Kept.set ?_ (by first | omega | (simp; done) | (simp; omega)) _; refine Kept.set ?_ (by first | omega | (simp; done) | (simp; omega)) _; refine Kept.set ?_ (by first | omega | (simp; done) | (simp; omega)) _; exact Kept.refl _ _))).lower (by omega)
  · (refine Below.setCell ?_ (by first | omega | (simp; done) | (simp; omega)) _; refine Below.setCell ?_ (by first | omega | (simp; done) | (simp; omega)) _; refine Below.setCell ?_ (by first | omega | (simp; done) | (simp; omega)) _; refine Below.setCell ?_ (by first | omega | (simp; done) | (simp; omega)) _; refine Below.setCell ?_ (by first | omega | (simp; done) | (simp; omega)) _; exact B1.out)

theorem toVw (vs : List Value) (x : Vw) (w : World) (hR : RVw 0 w vs x) (hn : x.wt ≤ 1048576) :
    Calls Tryz.prog 75 #[.agg vs.toArray] w fun e w' => ∃ vs' : List Value, vs'.length = 4 ∧ e = .returned (.agg vs'.toArray) ∧ RVw w.heap.size w' vs' x ∧ Below w.heap.size w w' :=
  (toVwU vs x w hR hn).mono fun _ _ ⟨vs', h1, h2, h3, h4⟩ => ⟨vs', h1, h2, weakVw h3, h4⟩

theorem Tryz.infoView : (Tryz.prog.info? 89).map (fun i => (i.zero, i.size, i.bytes)) = some (some (.agg #[.string ByteArray.empty, .string ByteArray.empty, .slice none 0 0, .slice none 0 0]), 4, 80) := by kernel_rfl

set_option maxHeartbeats 2000000 in
theorem toVwSU (a : Option Addr) (c : Nat) (xs : List Vw) (w : World) (hx : Sl 4 RVw 0 w a c xs) (hn : xs.length + wtS Vw.wt xs ≤ 1048576) :
    Calls Tryz.prog 29 #[.slice a xs.length c] w fun e w' => ∃ a' c', e = .returned (.slice a' xs.length c') ∧ SlU 89 4 RVwU w.heap.size w' a' c' xs ∧ Below w.heap.size w w' := by
  obtain ⟨i0, hi0, hz0, hz1, hz2⟩ := info_parts Tryz.infoView
  have hb16 : i0.bytes * xs.length ≤ 281474976710656 := by rw [hz2]; omega
  have hl := hx.len
  have HX := Lib.hid (fun w' (hb : Below w.heap.size w w') => hx.kept goodVw (Kept.below hb))
  clear hx
  go_enter Tryz.func29, Tryz.ntmps29
  go_wp2_with (at_make; refine wpList_make_full _ rfl _ _ 36 rfl w.heap.size 89 i0 (.agg #[.string ByteArray.empty, .string ByteArray.empty, .slice none 0 0, .slice none 0 0]) 4 Tryz.underlying36 hi0 hz0 hz1 .i64 .i64 _ _ xs.length rfl rfl rfl rfl hb16 (by unfold maxLen; omega) (Nat.le_refl _) ?_; intro w1 hown hg)
  have HD0 : DoneR 89 4 RVwU [.string ByteArray.empty, .string ByteArray.empty, .slice none 0 0, .slice none 0 0] w xs 0 w1 := DoneR.new (z := [.string ByteArray.empty, .string ByteArray.empty, .slice none 0 0, .slice none 0 0]) (by simp) hown hg
  clear hown hg
  go_loopw [4] (fun i wr => ∃ k : Nat, i = .int .i64 k ∧ DoneR 89 4 RVwU [.string ByteArray.empty, .string ByteArray.empty, .slice none 0 0, .slice none 0 0] w xs k wr) (fun i _ => xs.length - (intOf i).toNat)
  case atStart => exact ⟨0, rfl, HD0⟩
  case round =>
    obtain ⟨k, rfl, hd⟩ := hrel
    by_cases hlt : k < xs.length
    · obtain ⟨b, off, vs, rfl, hbl, hcs, hR⟩ := (HX.out _ hd.2.2.2).spot hlt
      have HR := hR
      obtain ⟨a0, c0, a1, c1, rfl, _⟩ := hR
      have hc0 : wr.cell? ⟨b, off + k * 4, none⟩ = some (.string xs[k].name) := hcs 0 (by simp)
      have hc1 : wr.cell? ⟨b, off + k * 4 + 1, none⟩ = some (.string xs[k].table) := hcs 1 (by simp)
      have hc2 : wr.cell? ⟨b, off + k * 4 + 2, none⟩ = some (.slice a0 xs[k].cols.length c0) := hcs 2 (by simp)
      have hc3 : wr.cell? ⟨b, off + k * 4 + 3, none⟩ = some (.slice a1 xs[k].whr.length c1) := hcs 3 (by simp)
      have HK := Lib.hid HR
      have HD := Lib.hid hd
      have HWt := wtS_get Vw.wt hlt
      clear HR hd hcs HD0
      go_wp2_with fail
      refine (toVwU _ xs[k] _ HK.out (by omega)).mono ?_
      rintro e w2 ⟨vs2, hvl, rfl, hk2, hb2⟩
      have HR2 := hk2
      obtain ⟨p0, q0, p1, q1, rfl, _⟩ := hk2
      have DC := HD.out.cells rfl hlt hb2
      have hd0 : w2.cell? ⟨w.heap.size, k * 4, none⟩ = some (.string ByteArray.empty) := DC.1 0 (by simp)
      have hf0 : w2.frozen? ⟨w.heap.size, k * 4, none⟩ = false := DC.2 _
      have hd1 : w2.cell? ⟨w.heap.size, k * 4 + 1, none⟩ = some (.string ByteArray.empty) := DC.1 1 (by simp)
      have hf1 : w2.frozen? ⟨w.heap.size, k * 4 + 1, none⟩ = false := DC.2 _
      have hd2 : w2.cell? ⟨w.heap.size, k * 4 + 2, none⟩ = some (.slice none 0 0) := DC.1 2 (by simp)
      have hf2 : w2.frozen? ⟨w.heap.size, k * 4 + 2, none⟩ = false := DC.2 _
      have hd3 : w2.cell? ⟨w.heap.size, k * 4 + 3, none⟩ = some (.slice none 0 0) := DC.1 3 (by simp)
      have hf3 : w2.frozen? ⟨w.heap.size, k * 4 + 3, none⟩ = false := DC.2 _
      have HS := Lib.hid (HD.out.step goodVwU rfl hlt hvl HR2 hb2 rfl)
      clear DC HR2 hb2 HD HK hc0 hc1 hc2 hc3 hbl hvl
      go_wp2_with fail
      go_roundw
      case rel => exact ⟨k + 1, by go_num, HS.out⟩
      case measure => simp [intOf]; omega
    · have hle := hd.1
      obtain rfl : k = xs.length := by omega
      have HE := Lib.hid (hd.endU goodVwU)
      have hbl := hd.2.2.2
      clear hd
      go_wp2_with fail
      go_ret
      exact ⟨_, _, rfl, HE.out, hbl⟩

theorem toVwS (a : Option Addr) (c : Nat) (xs : List Vw) (w : World) (hx : Sl 4 RVw 0 w a c xs) (hn : xs.length + wtS Vw.wt xs ≤ 1048576) :
    Calls Tryz.prog 29 #[.slice a xs.length c] w fun e w' => ∃ a' c', e = .returned (.slice a' xs.length c') ∧ Sl 4 RVw w.heap.size w' a' c' xs ∧ Below w.heap.size w w' :=
  (toVwSU a c xs w hx hn).mono fun _ _ ⟨a', c', h1, h2, h3⟩ => ⟨a', c', h1, h2.weak weakVw, h3⟩

end Go.Proofs.YtjjdcdnaonfnmaaGreat
