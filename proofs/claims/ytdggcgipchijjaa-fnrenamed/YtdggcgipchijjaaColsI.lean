/- impl.Columns answers the rising list of the columns. -/
import Derived.Test.YtdggcgipchijjaaEachCols2
import Derived.Test.YtdggcgipchijjaaShelf
import Derived.Lib.OwnBridge
import Derived.Sort.OwnSorted
import Derived.Sort.Grow
import Derived.Deep.RegionHeld3
import Derived.Deep.RegionLaw
import Derived.Deep.RegionWith
import Derived.Deep.Upon
namespace Go.Proofs.Ytdggcgipchijjaa
open Go.RowKit

theorem stringsClone5 (s : ByteArray) (w : World) (hs : s.size ≤ 1048576) :
    Calls Try.prog 34 #[.string s] w fun e w' => e = .returned (.string s) ∧ Below w.heap.size w w' := by
  go_enter Try.func34, Try.ntmps34
  go_wp2_with fail
  refine (Try.stringslite_Clone s _ (by omega)).mono ?_
  rintro e w1 ⟨rfl, b1⟩
  go_wp2_with fail
  go_ret
  exact ⟨rfl, b1⟩

open Go.Sort in
theorem map_ba (S : List (List UInt8)) : (S.map ba).map Value.string = S.map encStr := by simp [ba]

theorem map_la (xs : List ByteArray) : (xs.map la).map encStr = xs.map Value.string := Lib.map_encStr xs

open Go.Sort in
/-- What slices.Sort leaves. -/
theorem own_sorted {w2 : World} {B g co nn : Nat} {os : Array Obj} {outs : List ByteArray} (hown : Own w2 B (some ⟨g, 0, none⟩) co outs) {w3 : World}
    (h3 : w3 = grow (putRow encStr (Sort.ahead w2 nn) g 0 ((outs.map la).mergeSort fun x y => decide (x ≤ y)).toArray) os) :
    Own w3 B (some ⟨g, 0, none⟩) co (((outs.map la).mergeSort fun x y => decide (x ≤ y)).map ba) ∧ w2.grownBy w3 (some g) := by
  subst h3
  have hl2 : ((outs.map la).mergeSort fun x y => decide (x ≤ y)).length = (outs.map la).length := List.length_mergeSort _
  have hl3 : (outs.map la).length = outs.length := List.length_map ..
  unfold Own at hown
  rw [← map_la, ← hl3] at hown
  rcases hown.2 with ⟨h0, _⟩ | ⟨g', cap', cur, hv, hbase, hb, h1, h2, h3, h4⟩
  · cases h0
  cases hv
  have hs := ownsRow_sorted (n := nn) (os := os) (ts := (outs.map la).mergeSort fun x y => decide (x ≤ y)) hl2 hbase hb h1 h2 h3
  refine ⟨?_, grownBy_sorted _⟩
  unfold Own
  rw [map_ba, List.length_map, hl2]
  exact hs

open Go.Sort in
/-- What slices.Compact leaves. -/
theorem own_compact {w3 : World} {B g co q : Nat} {zs : List (List UInt8)} (hown : Own w3 B (some ⟨g, 0, none⟩) co (zs.map ba)) {w4 : World}
    (h4 : w4 = putRow encStr (Sort.ahead w3 q) g 0 (Lib.compact zs ++ List.replicate (zs.length - (Lib.compact zs).length) []).toArray) :
    Own w4 B (some ⟨g, 0, none⟩) co ((Lib.compact zs).map ba) ∧ w3.grownBy w4 (some g) := by
  subst h4
  have hle := Lib.compact_length_le zs
  unfold Own at hown
  rw [map_ba, List.length_map] at hown
  have hc := Lib.ownsRow_putRow (q := q) (k := (Lib.compact zs).length) (ys := Lib.compact zs ++ List.replicate (zs.length - (Lib.compact zs).length) []) hown (by simp; omega) (by omega)
  rw [List.take_left] at hc
  refine ⟨?_, ?_⟩
  · unfold Own
    rw [map_ba, List.length_map]
    exact hc
  · have := grownBy_sorted (w := w3) (g := g) (n := q) (os := #[]) (Lib.compact zs ++ List.replicate (zs.length - (Lib.compact zs).length) []).toArray
    exact ⟨this.os, this.tape, this.output, by simp [putRow, mapBlock, Sort.ahead], fun k hk hne => by have h5 := this.block k hk hne; simpa [grow] using h5⟩

open Go.Sort in
theorem own_holds {w2 : World} {B g co : Nat} {zs : List (List UInt8)} (hown : Own w2 B (some ⟨g, 0, none⟩) co (zs.map ba)) : Holds encStr w2 g 0 zs.toArray ∧ g < w2.heap.size ∧ zs.length ≤ co := by
  unfold Own at hown
  rw [map_ba, List.length_map] at hown
  obtain ⟨g', cap, hv, hbg, hgl, hncap, hcm, hlen, hH⟩ := Lib.holds_of_ownsRow hown (by intro h; cases h)
  cases hv
  exact ⟨hH, hgl, hncap⟩

theorem la_map (outs : List ByteArray) : (outs.map la).map ba = outs := by
  rw [List.map_map]
  conv => rhs; rw [← List.map_id outs]
  exact List.map_congr_left fun s _ => ba_la s

theorem sortOwn {w2 : World} {B co : Nat} {ao : Option Addr} {outs : List ByteArray} (hown : Own w2 B ao co outs) (hn : outs.length ≤ 4194304) :
    Calls Try.prog 32 #[.slice ao outs.length co] w2 fun x w3 => x = .returned (.tuple #[]) ∧ Own w3 B ao co (((outs.map la).mergeSort fun x y => decide (x ≤ y)).map ba) ∧ w2.grownBy w3 (Value.slice ao outs.length co).ownBlock := by
  rcases hown.form with ⟨rfl, rfl, rfl⟩ | ⟨g, rfl, hBg, hgl⟩
  · refine (Try.slices_Sort_string_none none 0 w2).mono ?_
    rintro x w3 ⟨rfl, rfl⟩
    exact ⟨rfl, by simpa using hown, World.grownBy.refl _ _⟩
  · have hl3 : (outs.map la).length = outs.length := List.length_map ..
    obtain ⟨hH, _, _⟩ := own_holds (zs := outs.map la) (by rw [la_map]; exact hown)
    have h := Try.slices_Sort_string g 0 co (outs.map la) w2 hH hgl (by omega)
    rw [hl3] at h
    refine h.mono ?_
    rintro x w3 ⟨rfl, nn, os, h3⟩
    obtain ⟨h4, h5⟩ := own_sorted hown h3
    exact ⟨rfl, h4, h5⟩

theorem compactOwn {w3 : World} {B co n : Nat} {ao : Option Addr} {zs : List (List UInt8)} (hown : Own w3 B ao co (zs.map ba)) (hn : n ≤ 4194304) (hz : n = zs.length) :
    Calls Try.prog 33 #[.slice ao n co] w3 fun x w4 => ∃ ys : List ByteArray, x = .returned (.slice ao ys.length co) ∧ Hid (ys = (Lib.compact zs).map ba) ∧ Own w4 B ao co ys ∧ w3.grownBy w4 (Value.slice ao n co).ownBlock := by
  subst hz
  rcases hown.form with ⟨rfl, rfl, h0⟩ | ⟨g, rfl, hBg, hgl⟩
  · have h0' : zs = [] := by cases zs with | nil => rfl | cons x r => simp at h0
    subst h0'
    refine (Try.slices_Compact_string_empty none 0 w3).mono ?_
    rintro x w4 ⟨rfl, rfl⟩
    exact ⟨[], rfl, by unfold Hid; simp [Lib.compact, Lib.compactUpTo], by simpa using hown, World.grownBy.refl _ _⟩
  · obtain ⟨hH, _, hcap⟩ := own_holds hown
    refine (Try.slices_Compact_string g 0 co zs w3 hH (by omega) hcap).mono ?_
    rintro x w4 ⟨rfl, q, h4⟩
    obtain ⟨h5, h6⟩ := own_compact hown h4
    exact ⟨(Lib.compact zs).map ba, by simp, rfl, h5, h6⟩

theorem own_same {w : World} {B g co k : Nat} {ys : List ByteArray} (hown : Own w B (some ⟨g, 0, none⟩) co ys) (hk : k < ys.length) {w' : World} (hw : w' = w.setCell ⟨g, k, none⟩ (.string ys[k])) : Own w' B (some ⟨g, 0, none⟩) co ys := by
  subst hw
  unfold Own at hown ⊢
  have h := (hown.stored k (.string ys[k])).1
  have e : (ys.map Value.string).set k (.string ys[k]) = ys.map Value.string := by
    rw [← List.map_set]
    simp
  rw [e] at h
  exact h

/-- What lies at the end of impl.Columns, while the texts are copied. -/
structure ColE (w : World) (ob B : Nat) (ao : Option Addr) (co : Nat) (ys : List ByteArray) (wr : World) : Prop where
  own : Own wr B ao co ys
  cell : wr.cell? ⟨ob, 0, none⟩ = some (.slice ao ys.length co)
  lt : w.heap.size ≤ ob ∧ ob < B ∧ B ≤ wr.heap.size
  bel : Below w.heap.size w wr

theorem ColE.below {w wr w2 : World} {ob B : Nat} {ao : Option Addr} {co : Nat} {ys : List ByteArray} (h : ColE w ob B ao co ys wr) (hb : Below wr.heap.size wr w2) : ColE w ob B ao co ys w2 :=
  ⟨h.own.below hb, (hb.cell (p := ⟨ob, 0, none⟩) (Nat.lt_of_lt_of_le h.lt.2.1 h.lt.2.2)).trans h.cell, ⟨h.lt.1, h.lt.2.1, Nat.le_trans h.lt.2.2 hb.size⟩, h.bel.trans (hb.mono h.bel.size)⟩

theorem ColE.set {w wr w2 : World} {ob B g : Nat} {co : Nat} {ys : List ByteArray} (h : ColE w ob B (some ⟨g, 0, none⟩) co ys wr) {k : Nat} (hk : k < ys.length) (h2 : w2 = wr.setCell ⟨g, k, none⟩ (.string ys[k])) : ColE w ob B (some ⟨g, 0, none⟩) co ys w2 := by
  have hg := (h.own.lt (g := g) rfl).1
  have hl := h.lt
  subst h2
  refine ⟨own_same h.own hk rfl, ?_, ⟨hl.1, hl.2.1, by simpa [World.setCell] using hl.2.2⟩, h.bel.setCell (by show w.heap.size ≤ g; omega) _⟩
  rw [World.cell?_setCell_other _ _ _ _ (by intro e; have := congrArg Addr.block e; simp only at this; omega)]
  exact h.cell

set_option maxRecDepth 100000 in
set_option maxHeartbeats 1000000 in
theorem implCols (e : Ex) (a : Option Addr) (c d : Nat) (w : World) (hfit : e.fit) (hk : KidsAt w d a c e.kids) (hwt : e.wt ≤ 1048576) :
    Calls Try.prog 9 #[.agg #[.int .i64 e.kind, .string e.text, .int .i64 e.num, .slice a e.kids.length c]] w (NewStrs w e.ucols) := by
  have hmf : ∀ (fn : Fn) (first cap : Array Value) (w : World), (Instr.makeFunc fn first cap).run Try.prog w = .ok (.func fn first cap) w := fun _ _ _ _ => rfl
  have hn : e.nodes ≤ 4194304 := by have := nodes_wt e; omega
  have HK : Hid (∀ o1 o2 W, W = (w.alloc o1).alloc o2 → KidsQ (fun b => b ≠ w.heap.size + 1) W d a c e.kids) := by
    intro o1 o2 W hW
    have hb : Below w.heap.size w W := by subst hW; exact ((Below.refl _ _).alloc (Nat.le_refl _) _).alloc (by simp) _
    exact (hk.q.agree hb.size fun b h _ o => hb.cell (p := ⟨b, o, none⟩) h).imp fun b h _ => by omega
  have HUW := Lib.hid (ucols_wt e)
  clear hk
  go_enter Try.func9, Try.ntmps9
  go_wp2_with fail
  refine (eachCols (w.heap.size + 1) e a c d _ hfit (HK.out _ _ _ rfl) (by simp) (by simp [go_sem]) (by simp [go_sem]) hn).mono ?_
  rintro x w2 ⟨rfl, hg, ao, co, outs, hC, hset, hol⟩
  have hbel : Below w.heap.size w w2 := by
    refine (((Below.refl w.heap.size w).alloc (Nat.le_refl _) _).alloc (by simp) _).trans ⟨hg.os, hg.tape, hg.output, hg.size, fun k hk => hg.block k ?_ ?_⟩
    · simp; omega
    · intro h; have := Option.some.inj h; omega
  have hC' : Coll (w.heap.size + 1) (w.heap.size + 4) ao co outs w2 := by simpa using hC
  have HC := Lib.hid hC'
  have HBEL := Lib.hid hbel
  have HSET := Lib.hid hset
  have hcell := hC'.cell
  clear hg hC hC' hbel hset
  go_wp2_with fail
  refine (sortOwn HC.out.own (by omega)).mono ?_
  rintro x w3 ⟨rfl, hown3, hg3⟩
  have hrow : ∀ b, (Value.slice ao outs.length co).ownBlock = some b → w.heap.size + 4 ≤ b ∧ b < w2.heap.size := fun b hb => HC.out.own.lt hb
  have hwl2 : w.heap.size + 1 < w2.heap.size := HC.out.wlt
  have hcell3 : w3.cell? ⟨w.heap.size + 1, 0, none⟩ = some (.slice ao outs.length co) := (hg3.cell_far ⟨w.heap.size + 1, 0, none⟩ hwl2 (fun e => by have := (hrow _ e.symm).1; simp only at this; omega)).trans hcell
  have hfz3 : w3.frozen? ⟨w.heap.size + 1, 0, none⟩ = false := (hg3.frozen_far ⟨w.heap.size + 1, 0, none⟩ hwl2 (fun e => by have := (hrow _ e.symm).1; simp only at this; omega)).trans HC.out.frozen
  have HB3 := Lib.hid (HBEL.out.grown hg3 HBEL.out.size (fun b hb => by have := (hrow b hb).1; omega))
  have hwl3 : w.heap.size + 1 < w3.heap.size := Nat.lt_of_lt_of_le hwl2 hg3.size
  have HO3 := Lib.hid hown3
  have HW23 := Lib.hid hg3.size
  clear hcell hown3 hg3
  go_wp2_with fail
  refine (compactOwn HO3.out (by omega) (by simp)).mono ?_
  rintro x w4 ⟨ys, rfl, hys, hown4, hg4⟩
  have hcell4 : w4.cell? ⟨w.heap.size + 1, 0, none⟩ = some (.slice ao outs.length co) := (hg4.cell_far ⟨w.heap.size + 1, 0, none⟩ hwl3 (fun e => by have := (hrow _ e.symm).1; simp only at this; omega)).trans hcell3
  have hfz4 : w4.frozen? ⟨w.heap.size + 1, 0, none⟩ = false := (hg4.frozen_far ⟨w.heap.size + 1, 0, none⟩ hwl3 (fun e => by have := (hrow _ e.symm).1; simp only at this; omega)).trans hfz3
  have HYS : Hid (ys = e.ucols) := by
    unfold Hid
    rw [hys.out]
    exact sortU_eq e outs HSET.out
  have HCE : Hid (∀ w5, w5 = w4.setCell ⟨w.heap.size + 1, 0, none⟩ (.slice ao ys.length co) → ColE w (w.heap.size + 1) (w.heap.size + 4) ao co ys w5) := by
    intro w5 h5
    subst h5
    have hB4 := HB3.out.grown hg4 HB3.out.size (fun b hb => by have := (hrow b hb).1; omega)
    have hle := HC.out.le
    have hs3 := HB3.out.size
    have hs4 := hg4.size
    have hs2 : w2.heap.size ≤ w4.heap.size ∨ w.heap.size + 4 ≤ w4.heap.size := by
      right
      have h23 : w.heap.size + 4 ≤ w3.heap.size := by
        rcases HO3.out.form with ⟨_, _, _⟩ | ⟨g, _, hg1, hg2⟩
        · exact Nat.le_trans hle (HW23.out)
        · omega
      omega
    refine ⟨ownsRow_block hown4 fun g hg => Below.heap_setCell _ _ _ _ (by have := (hown4.lt hg).1; show g ≠ w.heap.size + 1; omega), World.cell?_setCell_same _ _ _ hcell4, ⟨by omega, by omega, by simp [World.setCell]; omega⟩, hB4.setCell (by show w.heap.size ≤ w.heap.size + 1; omega) _⟩
  have hyl : ys.length ≤ 4194304 := by rw [HYS.out]; have := (ucols_facts e).2.2; omega
  clear hcell3 hown4 hg4 hrow
  go_wp2_with fail
  go_loopw [15] (fun i wr => ∃ k : Nat, k ≤ ys.length ∧ i = .int .i64 k ∧ ColE w (w.heap.size + 1) (w.heap.size + 4) ao co ys wr) (fun i _ => ys.length - (intOf i).toNat)
  case atStart => exact ⟨0, Nat.zero_le _, rfl, HCE.out _ rfl⟩
  case round =>
    obtain ⟨k, hk, rfl, hE⟩ := hrel
    by_cases hlt : k < ys.length
    · rcases hE.own.form with ⟨_, _, h0⟩ | ⟨g, rfl, hBg, hgl⟩
      · subst h0; simp at hlt
      have hck : wr.cell? ⟨g, k, none⟩ = some (.string ys[k]) := by
        have := World.ownsRow.cellAt (w := wr) hE.own k (by omega)
        rw [this, List.getElem?_map, List.getElem?_eq_getElem hlt]
        rfl
      have hfk : wr.frozen? ⟨g, k, none⟩ = false := hE.own.frozenAt k
      have hco := hE.cell
      have hsk : Hid (ys[k].size ≤ 1048576) := by have h1 := HUW.out ys[k] (by rw [← HYS.out]; exact List.getElem_mem hlt); unfold Hid; omega
      have HE := Lib.hid hE
      have hob : w.heap.size + 1 < wr.heap.size := by have := hE.lt; omega
      have h0k : (0 : Int) ≤ (k : Int) := by omega
      have hkl : (k : Int) < (ys.length : Int) := by omega
      clear hE
      go_wp2_with fail
      go_region_with ((go_at_call 34; refine (stringsClone5 ys[k] _ hsk.out).mono ?_; rintro e w2 ⟨rfl, hb2⟩; have hco2 := (hb2.cell (p := ⟨w.heap.size + 1, 0, none⟩) hob).trans hco; have hck2 := (hb2.cell (p := ⟨g, k, none⟩) hgl).trans hck; have hfk2 := (hb2.frozen (p := ⟨g, k, none⟩) hgl).trans hfk))
      all_goals
        have HE2 := Lib.hid ((HE.out.below ((Below.refl wr.heap.size wr).drew.trans hb2)).set hlt rfl)
        clear hb2 hco2 hck2 hfk2
        go_wp2_with fail
        go_roundw
        case rel => exact ⟨k + 1, by omega, by go_num, HE2.out⟩
        case measure => simp [intOf]; omega
    · obtain rfl : k = ys.length := by omega
      have HE := Lib.hid hE
      have hco := hE.cell
      clear hE
      go_wp2_with fail
      go_ret
      have := HYS.out
      subst this
      exact ⟨ao, co, rfl, HE.out.own.lower (by omega), HE.out.bel⟩

end Go.Proofs.Ytdggcgipchijjaa
