/- The laws' own helpers over schemas (the copy): Col. Written by tools/gen_plan.py. -/
import Derived.Test.YtefjjcoaeanagaaDat2
import Derived.Test.YtefjjcoaeanagaaPl
namespace Go.Proofs.Ytefjjcoaeanagaa
open Go.RowKit

set_option maxHeartbeats 2000000 in
theorem toCo (vs : List Value) (x : Co) (w : World) (hR : RCo 0 w vs x) (hn : x.wt ≤ 1048576) :
    Calls Try.prog 95 #[.agg vs.toArray] w fun e w' => ∃ vs' : List Value, vs'.length = 6 ∧ e = .returned (.agg vs'.toArray) ∧ RCo w.heap.size w' vs' x ∧ Below w.heap.size w w' := by
  obtain ⟨a0, c0, rfl, hfit, k0⟩ := hR
  have K0 := Lib.hid (fun w' (hb : Below w.heap.size w w') => k0.kept (Kept.below hb))
  clear k0
  have HW : x.wt = x.name.size + x.ty.name.size + (x.dflt.length + wtL x.dflt) := rfl
  go_enter Try.func95, Try.ntmps95
  go_wp2_with fail
  refine (toTy x.ty.kind x.ty.len x.ty.name _).mono ?_
  rintro e wt ⟨rfl, bt⟩
  have Bt := Lib.hid (show Below w.heap.size w wt from Below.call bt (by ((repeat (first | refine Below.alloc ?_ (by first | omega | (simp; done) | (simp; omega)) _ | refine Below.setCell ?_ (by first | omega | (simp; done) | (simp; omega)) _)); first | exact Below.refl _ _ | exact Below.refl _ _)))
  have At := Lib.hid (show Blk wt w.heap.size [.string x.name, .int .i64 x.ty.kind, .int .i64 x.ty.len, .string x.ty.name, .bool x.notNull, .slice a0 x.dflt.length c0] from Blk.call bt (((blk_new w _ [.string x.name, .int .i64 x.ty.kind, .int .i64 x.ty.len, .string x.ty.name, .bool x.notNull, .slice a0 x.dflt.length c0]).alloc _).alloc _))
  have Yt := Lib.hid (show Blk wt (w.heap.size + 1) [.string ByteArray.empty, .int .i64 0, .int .i64 0, .string ByteArray.empty, .bool false, .slice none 0 0] from Blk.call bt ((blk_new' (w := w.alloc _) (b := w.heap.size + 1) (by simp) _ [.string ByteArray.empty, .int .i64 0, .int .i64 0, .string ByteArray.empty, .bool false, .slice none 0 0]).alloc _))
  have Gt := Lib.hid (show Blk wt (w.heap.size + 1 + 1) [.string x.name, .int .i64 0, .int .i64 0, .string ByteArray.empty, .bool false, .slice none 0 0] from Blk.call bt (blk_new' (w := (w.alloc _).alloc _) (b := w.heap.size + 1 + 1) (by simp) _ [.string x.name, .int .i64 0, .int .i64 0, .string ByteArray.empty, .bool false, .slice none 0 0]))
  clear bt
  have gt_4 : wt.cell? ⟨w.heap.size, 4, none⟩ = some (.bool x.notNull) := (At.out.2 4 (by simp)).1
  have gt_5 : wt.cell? ⟨w.heap.size, 5, none⟩ = some (.slice a0 x.dflt.length c0) := (At.out.2 5 (by simp)).1
  have ht_1 : wt.cell? ⟨w.heap.size + 1 + 1, 1, none⟩ = some (.int .i64 0) := (Gt.out.2 1 (by simp)).1
  have zt_1 : wt.frozen? ⟨w.heap.size + 1 + 1, 1, none⟩ = false := (Gt.out.2 1 (by simp)).2
  have ht_2 : wt.cell? ⟨w.heap.size + 1 + 1, 2, none⟩ = some (.int .i64 0) := (Gt.out.2 2 (by simp)).1
  have zt_2 : wt.frozen? ⟨w.heap.size + 1 + 1, 2, none⟩ = false := (Gt.out.2 2 (by simp)).2
  have ht_3 : wt.cell? ⟨w.heap.size + 1 + 1, 3, none⟩ = some (.string ByteArray.empty) := (Gt.out.2 3 (by simp)).1
  have zt_3 : wt.frozen? ⟨w.heap.size + 1 + 1, 3, none⟩ = false := (Gt.out.2 3 (by simp)).2
  have ht_4 : wt.cell? ⟨w.heap.size + 1 + 1, 4, none⟩ = some (.bool false) := (Gt.out.2 4 (by simp)).1
  have zt_4 : wt.frozen? ⟨w.heap.size + 1 + 1, 4, none⟩ = false := (Gt.out.2 4 (by simp)).2
  go_wp2_with fail
  refine (toKs a0 c0 x.dflt _ (K0.out _ ?_) (by omega)).mono ?_
  · (refine Below.setCell ?_ (by first | omega | (simp; done) | (simp; omega)) _; refine Below.setCell ?_ (by first | omega | (simp; done) | (simp; omega)) _; refine Below.setCell ?_ (by first | omega | (simp; done) | (simp; omega)) _; refine Below.setCell ?_ (by first | omega | (simp; done) | (simp; omega)) _; exact Bt.out)
  rintro e w0 ⟨p0, q0, rfl, s0, b0⟩
  have B0 := Lib.hid (show Below w.heap.size w w0 from Below.call b0 (by (refine Below.setCell ?_ (by first | omega | (simp; done) | (simp; omega)) _; refine Below.setCell ?_ (by first | omega | (simp; done) | (simp; omega)) _; refine Below.setCell ?_ (by first | omega | (simp; done) | (simp; omega)) _; refine Below.setCell ?_ (by first | omega | (simp; done) | (simp; omega)) _; exact Bt.out)))
  have A0 := Lib.hid (show Blk w0 w.heap.size [.string x.name, .int .i64 x.ty.kind, .int .i64 x.ty.len, .string x.ty.name, .bool x.notNull, .slice a0 x.dflt.length c0] from Blk.call b0 (((((At.out).other (b' := w.heap.size + 1 + 1) (by omega) 1 (.int .i64 x.ty.kind)).other (b' := w.heap.size + 1 + 1) (by omega) 2 (.int .i64 x.ty.len)).other (b' := w.heap.size + 1 + 1) (by omega) 3 (.string x.ty.name)).other (b' := w.heap.size + 1 + 1) (by omega) 4 (.bool x.notNull)))
  have Y0 := Lib.hid (show Blk w0 (w.heap.size + 1) [.string ByteArray.empty, .int .i64 0, .int .i64 0, .string ByteArray.empty, .bool false, .slice none 0 0] from Blk.call b0 (((((Yt.out).other (b' := w.heap.size + 1 + 1) (by omega) 1 (.int .i64 x.ty.kind)).other (b' := w.heap.size + 1 + 1) (by omega) 2 (.int .i64 x.ty.len)).other (b' := w.heap.size + 1 + 1) (by omega) 3 (.string x.ty.name)).other (b' := w.heap.size + 1 + 1) (by omega) 4 (.bool x.notNull)))
  have G0 := Lib.hid (show Blk w0 (w.heap.size + 1 + 1) [.string x.name, .int .i64 x.ty.kind, .int .i64 x.ty.len, .string x.ty.name, .bool x.notNull, .slice none 0 0] from Blk.call b0 (((((Gt.out).set 1 (.int .i64 x.ty.kind)).set 2 (.int .i64 x.ty.len)).set 3 (.string x.ty.name)).set 4 (.bool x.notNull)))
  have S0 := Lib.hid (s0.lower (show w.heap.size + 3 ≤ _ by (have h3 := Gt.out.1; first | omega | (simp; done) | (simp; omega) | (simp [World.setCell]; done) | (simp [World.setCell]; omega))))
  clear s0 b0
  clear gt_4 gt_5 ht_1 zt_1 ht_2 zt_2 ht_3 zt_3 ht_4 zt_4
  have h0_0 : w0.cell? ⟨w.heap.size + 1 + 1, 0, none⟩ = some (.string x.name) := (G0.out.2 0 (by simp)).1
  have y0_0 : w0.cell? ⟨w.heap.size + 1, 0, none⟩ = some (.string ByteArray.empty) := (Y0.out.2 0 (by simp)).1
  have r0_0 : w0.frozen? ⟨w.heap.size + 1, 0, none⟩ = false := (Y0.out.2 0 (by simp)).2
  have h0_1 : w0.cell? ⟨w.heap.size + 1 + 1, 1, none⟩ = some (.int .i64 x.ty.kind) := (G0.out.2 1 (by simp)).1
  have y0_1 : w0.cell? ⟨w.heap.size + 1, 1, none⟩ = some (.int .i64 0) := (Y0.out.2 1 (by simp)).1
  have r0_1 : w0.frozen? ⟨w.heap.size + 1, 1, none⟩ = false := (Y0.out.2 1 (by simp)).2
  have h0_2 : w0.cell? ⟨w.heap.size + 1 + 1, 2, none⟩ = some (.int .i64 x.ty.len) := (G0.out.2 2 (by simp)).1
  have y0_2 : w0.cell? ⟨w.heap.size + 1, 2, none⟩ = some (.int .i64 0) := (Y0.out.2 2 (by simp)).1
  have r0_2 : w0.frozen? ⟨w.heap.size + 1, 2, none⟩ = false := (Y0.out.2 2 (by simp)).2
  have h0_3 : w0.cell? ⟨w.heap.size + 1 + 1, 3, none⟩ = some (.string x.ty.name) := (G0.out.2 3 (by simp)).1
  have y0_3 : w0.cell? ⟨w.heap.size + 1, 3, none⟩ = some (.string ByteArray.empty) := (Y0.out.2 3 (by simp)).1
  have r0_3 : w0.frozen? ⟨w.heap.size + 1, 3, none⟩ = false := (Y0.out.2 3 (by simp)).2
  have h0_4 : w0.cell? ⟨w.heap.size + 1 + 1, 4, none⟩ = some (.bool x.notNull) := (G0.out.2 4 (by simp)).1
  have y0_4 : w0.cell? ⟨w.heap.size + 1, 4, none⟩ = some (.bool false) := (Y0.out.2 4 (by simp)).1
  have r0_4 : w0.frozen? ⟨w.heap.size + 1, 4, none⟩ = false := (Y0.out.2 4 (by simp)).2
  have h0_5 : w0.cell? ⟨w.heap.size + 1 + 1, 5, none⟩ = some (.slice none 0 0) := (G0.out.2 5 (by simp)).1
  have z0_5 : w0.frozen? ⟨w.heap.size + 1 + 1, 5, none⟩ = false := (G0.out.2 5 (by simp)).2
  have y0_5 : w0.cell? ⟨w.heap.size + 1, 5, none⟩ = some (.slice none 0 0) := (Y0.out.2 5 (by simp)).1
  have r0_5 : w0.frozen? ⟨w.heap.size + 1, 5, none⟩ = false := (Y0.out.2 5 (by simp)).2
  go_wp2_with fail
  refine bodyPost_ret (v := .agg #[.string x.name, .int .i64 x.ty.kind, .int .i64 x.ty.len, .string x.ty.name, .bool x.notNull, .slice p0 x.dflt.length q0]) (by simp [results, Try.results95, go_sem, *]) rfl ⟨[.string x.name, .int .i64 x.ty.kind, .int .i64 x.ty.len, .string x.ty.name, .bool x.notNull, .slice p0 x.dflt.length q0], rfl, rfl, ⟨p0, q0, rfl, hfit, ?_⟩, ?_⟩
  · exact (S0.out.kept (by (refine Kept.set ?_ (by first | omega | (simp; done) | (simp; omega)) _; refine Kept.set ?_ (by first | omega | (simp; done) | (simp; omega)) _; refine Kept.set ?_ (by first | omega | (simp; done) | (simp; omega)) _; refine Kept.set ?_ (by first | omega | (simp; done) | (simp; omega)) _; refine Kept.set ?_ (by first | omega | (simp; done) | (simp; omega)) _; refine Kept.set ?_ (by first | omega | (simp; done) | (simp; omega)) _; refine Kept.set ?_ (by first | omega | (simp; done) | (simp; omega)) _; exact Kept.refl _ _))).lower (by omega)
  · (refine Below.setCell ?_ (by first | omega | (simp; done) | (simp; omega)) _; refine Below.setCell ?_ (by first | omega | (simp; done) | (simp; omega)) _; refine Below.setCell ?_ (by first | omega | (simp; done) | (simp; omega)) _; refine Below.setCell ?_ (by first | omega | (simp; done) | (simp; omega)) _; refine Below.setCell ?_ (by first | omega | (simp; done) | (simp; omega)) _; refine Below.setCell ?_ (by first | omega | (simp; done) | (simp; omega)) _; refine Below.setCell ?_ (by first | omega | (simp; done) | (simp; omega)) _; exact B0.out)

theorem Try.infoCol : (Try.prog.info? 84).map (fun i => (i.zero, i.size, i.bytes)) = some (some (.agg #[.string ByteArray.empty, .int .i64 0, .int .i64 0, .string ByteArray.empty, .bool false, .slice none 0 0]), 6, 80) := by kernel_rfl

set_option maxHeartbeats 2000000 in
theorem toCoS (a : Option Addr) (c : Nat) (xs : List Co) (w : World) (hx : Sl 6 RCo 0 w a c xs) (hn : xs.length + wtS Co.wt xs ≤ 1048576) :
    Calls Try.prog 57 #[.slice a xs.length c] w fun e w' => ∃ a' c', e = .returned (.slice a' xs.length c') ∧ Sl 6 RCo w.heap.size w' a' c' xs ∧ Below w.heap.size w w' := by
  obtain ⟨i0, hi0, hz0, hz1, hz2⟩ := info_parts Try.infoCol
  have hb16 : i0.bytes * xs.length ≤ 281474976710656 := by rw [hz2]; omega
  have hl := hx.len
  have HX := Lib.hid (fun w' (hb : Below w.heap.size w w') => hx.kept goodCo (Kept.below hb))
  clear hx
  go_enter Try.func57, Try.ntmps57
  go_wp2_with (at_make; refine wpList_make_full _ rfl _ _ 34 rfl w.heap.size 84 i0 (.agg #[.string ByteArray.empty, .int .i64 0, .int .i64 0, .string ByteArray.empty, .bool false, .slice none 0 0]) 6 Try.underlying34 hi0 hz0 hz1 .i64 .i64 _ _ xs.length rfl rfl rfl rfl hb16 (by unfold maxLen; omega) (Nat.le_refl _) ?_; intro w1 hown hg)
  have HD0 : DoneR 84 6 RCo [.string ByteArray.empty, .int .i64 0, .int .i64 0, .string ByteArray.empty, .bool false, .slice none 0 0] w xs 0 w1 := DoneR.new (z := [.string ByteArray.empty, .int .i64 0, .int .i64 0, .string ByteArray.empty, .bool false, .slice none 0 0]) (by simp) hown hg
  clear hown hg
  go_loopw [4] (fun i wr => ∃ k : Nat, i = .int .i64 k ∧ DoneR 84 6 RCo [.string ByteArray.empty, .int .i64 0, .int .i64 0, .string ByteArray.empty, .bool false, .slice none 0 0] w xs k wr) (fun i _ => xs.length - (intOf i).toNat)
  case atStart => exact ⟨0, rfl, HD0⟩
  case round =>
    obtain ⟨k, rfl, hd⟩ := hrel
    by_cases hlt : k < xs.length
    · obtain ⟨b, off, vs, rfl, hbl, hcs, hR⟩ := (HX.out _ hd.2.2.2).spot hlt
      have HR := hR
      obtain ⟨a0, c0, rfl, _⟩ := hR
      have hc0 : wr.cell? ⟨b, off + k * 6, none⟩ = some (.string xs[k].name) := hcs 0 (by simp)
      have hc1 : wr.cell? ⟨b, off + k * 6 + 1, none⟩ = some (.int .i64 xs[k].ty.kind) := hcs 1 (by simp)
      have hc2 : wr.cell? ⟨b, off + k * 6 + 2, none⟩ = some (.int .i64 xs[k].ty.len) := hcs 2 (by simp)
      have hc3 : wr.cell? ⟨b, off + k * 6 + 3, none⟩ = some (.string xs[k].ty.name) := hcs 3 (by simp)
      have hc4 : wr.cell? ⟨b, off + k * 6 + 4, none⟩ = some (.bool xs[k].notNull) := hcs 4 (by simp)
      have hc5 : wr.cell? ⟨b, off + k * 6 + 5, none⟩ = some (.slice a0 xs[k].dflt.length c0) := hcs 5 (by simp)
      have HK := Lib.hid HR
      have HD := Lib.hid hd
      have HWt := wtS_get Co.wt hlt
      clear HR hd hcs HD0
      go_wp2_with fail
      refine (toCo _ xs[k] _ HK.out (by omega)).mono ?_
      rintro e w2 ⟨vs2, hvl, rfl, hk2, hb2⟩
      have HR2 := hk2
      obtain ⟨p0, q0, rfl, _⟩ := hk2
      have DC := HD.out.cells rfl hlt hb2
      have hd0 : w2.cell? ⟨w.heap.size, k * 6, none⟩ = some (.string ByteArray.empty) := DC.1 0 (by simp)
      have hf0 : w2.frozen? ⟨w.heap.size, k * 6, none⟩ = false := DC.2 _
      have hd1 : w2.cell? ⟨w.heap.size, k * 6 + 1, none⟩ = some (.int .i64 0) := DC.1 1 (by simp)
      have hf1 : w2.frozen? ⟨w.heap.size, k * 6 + 1, none⟩ = false := DC.2 _
      have hd2 : w2.cell? ⟨w.heap.size, k * 6 + 2, none⟩ = some (.int .i64 0) := DC.1 2 (by simp)
      have hf2 : w2.frozen? ⟨w.heap.size, k * 6 + 2, none⟩ = false := DC.2 _
      have hd3 : w2.cell? ⟨w.heap.size, k * 6 + 3, none⟩ = some (.string ByteArray.empty) := DC.1 3 (by simp)
      have hf3 : w2.frozen? ⟨w.heap.size, k * 6 + 3, none⟩ = false := DC.2 _
      have hd4 : w2.cell? ⟨w.heap.size, k * 6 + 4, none⟩ = some (.bool false) := DC.1 4 (by simp)
      have hf4 : w2.frozen? ⟨w.heap.size, k * 6 + 4, none⟩ = false := DC.2 _
      have hd5 : w2.cell? ⟨w.heap.size, k * 6 + 5, none⟩ = some (.slice none 0 0) := DC.1 5 (by simp)
      have hf5 : w2.frozen? ⟨w.heap.size, k * 6 + 5, none⟩ = false := DC.2 _
      have HS := Lib.hid (HD.out.step goodCo rfl hlt hvl HR2 hb2 rfl)
      clear DC HR2 hb2 HD HK hc0 hc1 hc2 hc3 hc4 hc5 hbl hvl
      go_wp2_with fail
      go_roundw
      case rel => exact ⟨k + 1, by go_num, HS.out⟩
      case measure => simp [intOf]; omega
    · have hle := hd.1
      obtain rfl : k = xs.length := by omega
      have HE := Lib.hid (hd.end goodCo (by unfold maxLen; omega))
      have hbl := hd.2.2.2
      clear hd
      go_wp2_with fail
      go_ret
      exact ⟨_, _, rfl, HE.out, hbl⟩

end Go.Proofs.Ytefjjcoaeanagaa
