/- strings.Clone answers the same text. -/
/- impl.Columns answers the rising list of the columns. -/
/- impl.concat, impl.risingNames. -/
/- impl's partsWhere: what it gathers; what lies while a table's parts are appended. -/
/- impl.partsWhere with the closure of EnumUse. Written by tools/gen_use.py. -/
/- impl.EnumUse. -/
/- impl.placeOf over a list of Rule. Written by tools/gen_plan.py. -/
import Derived.Test.YtjjdcdnaonfnmaaGreatMShelf
import Derived.Test.YtjjdcdnaonfnmaaGreatMPlFind
import Derived.Lib.OwnBridge
import Derived.Sort.OwnSorted
import Derived.Sort.Grow
import Derived.Deep.RegionHeld3
import Derived.Deep.RegionLaw
import Derived.Deep.RegionWith
import Derived.Deep.Upon
import Derived.Test.YtjjdcdnaonfnmaaGreatMPut
import Derived.Test.YtjjdcdnaonfnmaaGreatMTyp2
import Derived.Test.YtjjdcdnaonfnmaaGreatMDatU
namespace Go.Proofs.YtjjdcdnaonfnmaaGreat
open Go.RowKit

theorem stringsClone5 (s : ByteArray) (w : World) (hs : s.size ≤ 1048576) :
    Calls Tryz.prog 79 #[.string s] w fun e w' => e = .returned (.string s) ∧ Below w.heap.size w w' := by
  go_enter Tryz.func79, Tryz.ntmps79
  go_wp2_with fail
  refine (Tryz.stringslite_Clone s _ (by omega)).mono ?_
  rintro e w1 ⟨rfl, b1⟩
  go_wp2_with fail
  go_ret
  exact ⟨rfl, b1⟩

end Go.Proofs.YtjjdcdnaonfnmaaGreat

namespace Go.Proofs.YtjjdcdnaonfnmaaGreat
open Go.RowKit

open Go.Sort in
theorem map_ba (S : List (List UInt8)) : (S.map ba).map Value.string = S.map encStr := by simp [ba]

theorem map_la (xs : List ByteArray) : (xs.map la).map encStr = xs.map Value.string := Lib.map_encStr xs

open Go.Sort in
/-- What slices.Sort leaves. -/
theorem own_sorted {w2 : World} {B g co nn : Nat} {os : Array Obj} {outs : List ByteArray} (hown : Own w2 B (some ⟨g, 0, none⟩) co outs) {w3 : World}
    (h3 : w3 = grow (putRow encStr (Sort.ahead w2 nn) g 0 ((outs.map la).mergeSort fun x y => decide (x ≤ y)).toArray) os) :
    Own w3 B (some ⟨g, 0, none⟩) co (((outs.map la).mergeSort fun x y => decide (x ≤ y)).map ba) ∧ w2.grownBy w3 (some g) := by
  subst h3
  have hl2 : ((outs.map la).mergeSort fun x y => decide (x ≤ y)).length = (outs.map la).length := List.length_mergeSort _
  have hl3 : (outs.map la).length = outs.length := List.length_map ..
  unfold Own at hown
  rw [← map_la, ← hl3] at hown
  rcases hown.2 with ⟨h0, _⟩ | ⟨g', cap', cur, hv, hbase, hb, h1, h2, h3, h4⟩
  · cases h0
  cases hv
  have hs := ownsRow_sorted (n := nn) (os := os) (ts := (outs.map la).mergeSort fun x y => decide (x ≤ y)) hl2 hbase hb h1 h2 h3
  refine ⟨?_, grownBy_sorted _⟩
  unfold Own
  rw [map_ba, List.length_map, hl2]
  exact hs

open Go.Sort in
/-- What slices.Compact leaves. -/
theorem own_compact {w3 : World} {B g co q : Nat} {zs : List (List UInt8)} (hown : Own w3 B (some ⟨g, 0, none⟩) co (zs.map ba)) {w4 : World}
    (h4 : w4 = putRow encStr (Sort.ahead w3 q) g 0 (Lib.compact zs ++ List.replicate (zs.length - (Lib.compact zs).length) []).toArray) :
    Own w4 B (some ⟨g, 0, none⟩) co ((Lib.compact zs).map ba) ∧ w3.grownBy w4 (some g) := by
  subst h4
  have hle := Lib.compact_length_le zs
  unfold Own at hown
  rw [map_ba, List.length_map] at hown
  have hc := Lib.ownsRow_putRow (q := q) (k := (Lib.compact zs).length) (ys := Lib.compact zs ++ List.replicate (zs.length - (Lib.compact zs).length) []) hown (by simp; omega) (by omega)
  rw [List.take_left] at hc
  refine ⟨?_, ?_⟩
  · unfold Own
    rw [map_ba, List.length_map]
    exact hc
  · have := grownBy_sorted (w := w3) (g := g) (n := q) (os := #[]) (Lib.compact zs ++ List.replicate (zs.length - (Lib.compact zs).length) []).toArray
    exact ⟨this.os, this.tape, this.output, by simp [putRow, mapBlock, Sort.ahead], fun k hk hne => by have h5 := this.block k hk hne; simpa [grow] using h5⟩

open Go.Sort in
theorem own_holds {w2 : World} {B g co : Nat} {zs : List (List UInt8)} (hown : Own w2 B (some ⟨g, 0, none⟩) co (zs.map ba)) : Holds encStr w2 g 0 zs.toArray ∧ g < w2.heap.size ∧ zs.length ≤ co := by
  unfold Own at hown
  rw [map_ba, List.length_map] at hown
  obtain ⟨g', cap, hv, hbg, hgl, hncap, hcm, hlen, hH⟩ := Lib.holds_of_ownsRow hown (by intro h; cases h)
  cases hv
  exact ⟨hH, hgl, hncap⟩

theorem la_map (outs : List ByteArray) : (outs.map la).map ba = outs := by
  rw [List.map_map]
  conv => rhs; rw [← List.map_id outs]
  exact List.map_congr_left fun s _ => ba_la s

theorem sortOwn {w2 : World} {B co : Nat} {ao : Option Addr} {outs : List ByteArray} (hown : Own w2 B ao co outs) (hn : outs.length ≤ 4194304) :
    Calls Tryz.prog 77 #[.slice ao outs.length co] w2 fun x w3 => x = .returned (.tuple #[]) ∧ Own w3 B ao co (((outs.map la).mergeSort fun x y => decide (x ≤ y)).map ba) ∧ w2.grownBy w3 (Value.slice ao outs.length co).ownBlock := by
  rcases hown.form with ⟨rfl, rfl, rfl⟩ | ⟨g, rfl, hBg, hgl⟩
  · refine (Tryz.slices_Sort_string_none none 0 w2).mono ?_
    rintro x w3 ⟨rfl, rfl⟩
    exact ⟨rfl, by simpa using hown, World.grownBy.refl _ _⟩
  · have hl3 : (outs.map la).length = outs.length := List.length_map ..
    obtain ⟨hH, _, _⟩ := own_holds (zs := outs.map la) (by rw [la_map]; exact hown)
    have h := Tryz.slices_Sort_string g 0 co (outs.map la) w2 hH hgl (by omega)
    rw [hl3] at h
    refine h.mono ?_
    rintro x w3 ⟨rfl, nn, os, h3⟩
    obtain ⟨h4, h5⟩ := own_sorted hown h3
    exact ⟨rfl, h4, h5⟩

theorem compactOwn {w3 : World} {B co n : Nat} {ao : Option Addr} {zs : List (List UInt8)} (hown : Own w3 B ao co (zs.map ba)) (hn : n ≤ 4194304) (hz : n = zs.length) :
    Calls Tryz.prog 78 #[.slice ao n co] w3 fun x w4 => ∃ ys : List ByteArray, x = .returned (.slice ao ys.length co) ∧ Hid (ys = (Lib.compact zs).map ba) ∧ Own w4 B ao co ys ∧ w3.grownBy w4 (Value.slice ao n co).ownBlock := by
  subst hz
  rcases hown.form with ⟨rfl, rfl, h0⟩ | ⟨g, rfl, hBg, hgl⟩
  · have h0' : zs = [] := by cases zs with | nil => rfl | cons x r => simp at h0
    subst h0'
    refine (Tryz.slices_Compact_string_empty none 0 w3).mono ?_
    rintro x w4 ⟨rfl, rfl⟩
    exact ⟨[], rfl, by unfold Hid; simp [Lib.compact, Lib.compactUpTo], by simpa using hown, World.grownBy.refl _ _⟩
  · obtain ⟨hH, _, hcap⟩ := own_holds hown
    refine (Tryz.slices_Compact_string g 0 co zs w3 hH (by omega) hcap).mono ?_
    rintro x w4 ⟨rfl, q, h4⟩
    obtain ⟨h5, h6⟩ := own_compact hown h4
    exact ⟨(Lib.compact zs).map ba, by simp, rfl, h5, h6⟩

theorem own_same {w : World} {B g co k : Nat} {ys : List ByteArray} (hown : Own w B (some ⟨g, 0, none⟩) co ys) (hk : k < ys.length) {w' : World} (hw : w' = w.setCell ⟨g, k, none⟩ (.string ys[k])) : Own w' B (some ⟨g, 0, none⟩) co ys := by
  subst hw
  unfold Own at hown ⊢
  have h := (hown.stored k (.string ys[k])).1
  have e : (ys.map Value.string).set k (.string ys[k]) = ys.map Value.string := by
    rw [← List.map_set]
    simp
  rw [e] at h
  exact h

/-- What lies at the end of impl.Columns, while the texts are copied. -/
structure ColE (w : World) (ob B : Nat) (ao : Option Addr) (co : Nat) (ys : List ByteArray) (wr : World) : Prop where
  own : Own wr B ao co ys
  cell : wr.cell? ⟨ob, 0, none⟩ = some (.slice ao ys.length co)
  lt : w.heap.size ≤ ob ∧ ob < B ∧ B ≤ wr.heap.size
  bel : Below w.heap.size w wr

theorem ColE.below {w wr w2 : World} {ob B : Nat} {ao : Option Addr} {co : Nat} {ys : List ByteArray} (h : ColE w ob B ao co ys wr) (hb : Below wr.heap.size wr w2) : ColE w ob B ao co ys w2 :=
  ⟨h.own.below hb, (hb.cell (p := ⟨ob, 0, none⟩) (Nat.lt_of_lt_of_le h.lt.2.1 h.lt.2.2)).trans h.cell, ⟨h.lt.1, h.lt.2.1, Nat.le_trans h.lt.2.2 hb.size⟩, h.bel.trans (hb.mono h.bel.size)⟩

theorem ColE.set {w wr w2 : World} {ob B g : Nat} {co : Nat} {ys : List ByteArray} (h : ColE w ob B (some ⟨g, 0, none⟩) co ys wr) {k : Nat} (hk : k < ys.length) (h2 : w2 = wr.setCell ⟨g, k, none⟩ (.string ys[k])) : ColE w ob B (some ⟨g, 0, none⟩) co ys w2 := by
  have hg := (h.own.lt (g := g) rfl).1
  have hl := h.lt
  subst h2
  refine ⟨own_same h.own hk rfl, ?_, ⟨hl.1, hl.2.1, by simpa [World.setCell] using hl.2.2⟩, h.bel.setCell (by show w.heap.size ≤ g; omega) _⟩
  rw [World.cell?_setCell_other _ _ _ _ (by intro e; have := congrArg Addr.block e; simp only at this; omega)]
  exact h.cell

end Go.Proofs.YtjjdcdnaonfnmaaGreat

namespace Go.Proofs.YtjjdcdnaonfnmaaGreat
open Go.RowKit

/-- A list of texts as a cell. -/
def RSS : Rd (List ByteArray) := fun lo w vs xs => ∃ (a : Option Addr) (c : Nat), vs = [.slice a xs.length c] ∧ Ss lo w a c xs

theorem goodSS : Good RSS := by
  constructor
  · rintro lo w w' vs x ⟨a, c, h, s⟩ hk
    exact ⟨a, c, h, s.kept hk⟩
  · rintro lo lo' w vs x ⟨a, c, h, s⟩ hl
    exact ⟨a, c, h, s.lower hl⟩

theorem take_flatten {X : Type} (xs : List (List X)) (k : Nat) (h : k < xs.length) : (xs.take (k + 1)).flatten = (xs.take k).flatten ++ xs[k] := by
  rw [List.take_succ_eq_append_getElem h, List.flatten_append]; simp

theorem flatten_take_le {X : Type} (xs : List (List X)) (k : Nat) : (xs.take k).flatten.length ≤ xs.flatten.length := by
  conv => rhs; rw [← List.take_append_drop k xs, List.flatten_append, List.length_append]
  omega

set_option maxRecDepth 100000 in
set_option maxHeartbeats 4000000 in
theorem implConcatS (a : Option Addr) (c : Nat) (xss : List (List ByteArray)) (w : World) (hx : Sl 1 RSS 0 w a c xss) (hn : xss.flatten.length ≤ 4194304) (hm : xss.length ≤ 1048576) :
    Calls Tryz.prog 76 #[.slice a xss.length c] w (NewStrs w xss.flatten) := by
  obtain ⟨i0, hi0, hz0, hz1, hz2⟩ := info_parts Tryz.infoString
  have hl := hx.len
  have HX := Lib.hid (fun w' (hb : Below w.heap.size w w') => hx.kept goodSS (Kept.below hb))
  have HFL := Lib.hid (fun k => flatten_take_le xss k)
  clear hx
  go_enter Tryz.func76, Tryz.ntmps76
  go_wp2_with fail
  go_loopw [3, 8] (fun o i wr => ∃ (k : Nat) (ys : List ByteArray) (a' : Option Addr) (c' : Nat), k ≤ xss.length ∧ i = .int .i64 k ∧ o = .slice a' ys.length c' ∧ Hid (ys = (xss.take k).flatten ∧ Own wr w.heap.size a' c' ys ∧ Below w.heap.size w wr)) (fun _ i _ => xss.length - (intOf i).toNat)
  case atStart => exact ⟨0, [], none, 0, Nat.zero_le _, rfl, rfl, rfl, Own.nil _ _, Below.refl _ _⟩
  case round =>
    obtain ⟨k, ys, a1, c1, hk, rfl, rfl, hS⟩ := hrel
    by_cases hlt : k < xss.length
    · obtain ⟨b, off, vs, rfl, hbl, hcs, hR⟩ := (HX.out _ hS.out.2.2).spot hlt
      obtain ⟨ap, cp, rfl, hs⟩ := hR
      have hc0 : wr.cell? ⟨b, off + k, none⟩ = some (.slice ap xss[k].length cp) := by have := hcs 0 (by simp); simpa using this
      have HE := Lib.hid (take_flatten xss k hlt)
      have hle : ys.length + xss[k].length ≤ 4194304 := by have h1 := hS.out.1; have h2 := HE.out; have h3 := HFL.out (k + 1); rw [h2, List.length_append, ← h1] at h3; omega
      have HSS := Lib.hid hs.1
      have hw : w.heap.size ≤ wr.heap.size := hS.out.2.2.size
      clear hcs hs
      go_wp2_with (at_builtin; refine wpAppendStrs rfl _ _ rfl i0 hi0 hz0 hz1 hz2 w.heap.size a1 c1 ys ap cp xss[k] rfl hS.out.2.1 rfl HSS.out (by omega) hw ?_; intro a9 c9 w9 hown9 hg9)
      have HN9 := Lib.hid (And.intro hown9 (hS.out.2.2.grown hg9 hw (fun q hq => by have := hS.out.2.1.lt hq; omega)))
      clear hown9 hg9
      go_wp2_with fail
      go_roundw
      case rel => exact ⟨k + 1, ys ++ xss[k], a9, c9, by omega, by go_num, by simp, by rw [HE.out, hS.out.1], HN9.out.1, HN9.out.2⟩
      case measure => simp [intOf]; omega
    · obtain rfl : k = xss.length := by omega
      go_wp2_with fail
      go_ret
      have h1 := hS.out.1
      rw [List.take_length] at h1
      subst h1
      exact ⟨a1, c1, rfl, hS.out.2.1, hS.out.2.2⟩

/-- A row of the call's own, while its texts are copied. -/
structure RowE (w : World) (ao : Option Addr) (co : Nat) (ys : List ByteArray) (wr : World) : Prop where
  own : Own wr w.heap.size ao co ys
  bel : Below w.heap.size w wr

theorem RowE.below {w wr w2 : World} {ao : Option Addr} {co : Nat} {ys : List ByteArray} (h : RowE w ao co ys wr) (hb : Below wr.heap.size wr w2) : RowE w ao co ys w2 :=
  ⟨h.own.below hb, h.bel.trans (hb.mono h.bel.size)⟩

theorem RowE.set {w wr w2 : World} {g : Nat} {co : Nat} {ys : List ByteArray} (h : RowE w (some ⟨g, 0, none⟩) co ys wr) {k : Nat} (hk : k < ys.length) (h2 : w2 = wr.setCell ⟨g, k, none⟩ (.string ys[k])) : RowE w (some ⟨g, 0, none⟩) co ys w2 := by
  have hg := (h.own.lt (g := g) rfl).1
  subst h2
  exact ⟨own_same h.own hk rfl, h.bel.setCell (by show w.heap.size ≤ g; omega) _⟩

set_option maxRecDepth 100000 in
set_option maxHeartbeats 4000000 in
theorem implRising (a : Option Addr) (c : Nat) (xss : List (List ByteArray)) (w : World) (hx : Sl 1 RSS 0 w a c xss) (hn : xss.flatten.length ≤ 4194304) (hm : xss.length ≤ 1048576) (hz : ∀ s ∈ xss.flatten, s.size ≤ 1048576) :
    Calls Tryz.prog 30 #[.slice a xss.length c] w (NewStrs w (risingU xss.flatten)) := by
  have HC := Lib.hid (implConcatS a c xss w hx hn hm)
  have HF := Lib.hid (risingU_facts xss.flatten)
  have HLn := Lib.hid (risingU_len xss.flatten)
  generalize hfl : xss.flatten = outs at *
  clear hx hfl
  go_enter Tryz.func30, Tryz.ntmps30
  go_wp2_with fail
  refine HC.out.mono ?_
  rintro x w2 ⟨ao, co, rfl, own2, b2⟩
  have HB2 := Lib.hid b2
  have HO2 := Lib.hid own2
  clear own2 b2
  go_wp2_with fail
  refine (sortOwn HO2.out (by omega)).mono ?_
  rintro x w3 ⟨rfl, hown3, hg3⟩
  have HB3 := Lib.hid (HB2.out.grown hg3 HB2.out.size (fun b hb => by have := (HO2.out.lt hb).1; omega))
  have HO3 := Lib.hid hown3
  have hol : ((outs.map la).mergeSort fun x y => decide (x ≤ y)).length = outs.length := by simp
  clear hown3 hg3
  go_wp2_with fail
  refine (compactOwn HO3.out (by omega) hol.symm).mono ?_
  rintro x w4 ⟨ys, rfl, hys, hown4, hg4⟩
  have HYS : Hid (ys = risingU outs) := hys
  have HE4 : Hid (RowE w ao co ys w4) := ⟨hown4, HB3.out.grown hg4 HB3.out.size (fun b hb => by have := (HO3.out.lt (by simpa [hol] using hb)).1; omega)⟩
  have hyl : ys.length ≤ 4194304 := by rw [HYS.out]; have := HLn.out; omega
  clear hown4 hg4 hys
  go_wp2_with fail
  go_loopw [14] (fun i wr => ∃ k : Nat, k ≤ ys.length ∧ i = .int .i64 k ∧ Hid (RowE w ao co ys wr)) (fun i _ => ys.length - (intOf i).toNat)
  case atStart => exact ⟨0, Nat.zero_le _, rfl, HE4⟩
  case round =>
    obtain ⟨k, hk, rfl, hE⟩ := hrel
    by_cases hlt : k < ys.length
    · rcases hE.out.own.form with ⟨_, _, h0⟩ | ⟨g, rfl, hBg, hgl⟩
      · subst h0; simp at hlt
      have hck : wr.cell? ⟨g, k, none⟩ = some (.string ys[k]) := by
        have := World.ownsRow.cellAt (w := wr) hE.out.own k (by omega)
        rw [this]; simp [hlt]
      have hfk : wr.frozen? ⟨g, k, none⟩ = false := hE.out.own.frozenAt k
      have hsk : Hid (ys[k].size ≤ 1048576) := hz _ ((HF.out.2 _).1 (by rw [← HYS.out]; exact List.getElem_mem hlt))
      have h0k : (0 : Int) ≤ (k : Int) := by omega
      have hkl : (k : Int) < (ys.length : Int) := by omega
      go_wp2_with fail
      refine (stringsClone5 ys[k] _ hsk.out).mono ?_
      rintro e w5 ⟨rfl, b5⟩
      have HE5 := Lib.hid (hE.out.below b5)
      have hfk5 : w5.frozen? ⟨g, k, none⟩ = false := HE5.out.own.frozenAt k
      have hck5 : w5.cell? ⟨g, k, none⟩ = some (.string ys[k]) := (b5.cell (p := ⟨g, k, none⟩) hgl).trans hck
      clear b5 hck hfk
      go_wp2_with fail
      go_roundw
      case rel => exact ⟨k + 1, by omega, by go_num, Lib.hid (HE5.out.set hlt rfl)⟩
      case measure => simp [intOf]; omega
    · obtain rfl : k = ys.length := by omega
      go_wp2_with fail
      go_ret
      have := HYS.out
      subst this
      exact ⟨ao, co, rfl, hE.out.own, hE.out.bel⟩

end Go.Proofs.YtjjdcdnaonfnmaaGreat

namespace Go.Proofs.YtjjdcdnaonfnmaaGreat
open Go.RowKit

/-- The parts of all tables, qualified. -/
def partsL (f : Nat → Tb → List ByteArray) : Nat → List Tb → List ByteArray
  | _, [] => []
  | i, t :: r => (f i t).map (dotT t.name) ++ partsL f (i + 1) r

theorem partsL_from (f : Nat → Tb → List ByteArray) : ∀ (ts : List Tb) (i k : Nat) (h : k < ts.length), partsL f i (ts.take (k + 1)) = partsL f i (ts.take k) ++ (f (i + k) ts[k]).map (dotT ts[k].name)
  | [], _, _, h => by simp at h
  | t :: r, i, 0, _ => by simp [partsL]
  | t :: r, i, k + 1, h => by
    rw [List.take_succ_cons, List.take_succ_cons, partsL, partsL, partsL_from f r (i + 1) k (by simpa using h), List.append_assoc, show i + 1 + k = i + (k + 1) by omega]
    rfl

theorem partsL_take (f : Nat → Tb → List ByteArray) (ts : List Tb) (k : Nat) (h : k < ts.length) : partsL f 0 (ts.take (k + 1)) = partsL f 0 (ts.take k) ++ (f k ts[k]).map (dotT ts[k].name) := by
  have := partsL_from f ts 0 k h
  rw [Nat.zero_add] at this
  exact this

theorem partsL_split (f : Nat → Tb → List ByteArray) : ∀ (xs ys : List Tb) (i : Nat), partsL f i (xs ++ ys) = partsL f i xs ++ partsL f (i + xs.length) ys
  | [], ys, i => by simp [partsL]
  | t :: r, ys, i => by
    rw [List.cons_append, partsL, partsL, partsL_split f r ys (i + 1), List.append_assoc, List.length_cons, show i + 1 + r.length = i + (r.length + 1) by omega]

theorem partsL_le (f : Nat → Tb → List ByteArray) (ts : List Tb) (k : Nat) : (partsL f 0 (ts.take k)).length ≤ (partsL f 0 ts).length := by
  have key : ∀ n k, k + n = ts.length → (partsL f 0 (ts.take k)).length ≤ (partsL f 0 ts).length := by
    intro n
    induction n with
    | zero => intro k hk; rw [List.take_of_length_le (by omega)]; exact Nat.le_refl _
    | succ n ih =>
      intro k hk
      have h1 := ih (k + 1) (by omega)
      rw [partsL_take f ts k (by omega), List.length_append] at h1
      omega
  rcases Nat.lt_or_ge k ts.length with h | h
  · exact key (ts.length - k) k (by omega)
  · rw [List.take_of_length_le h]
    exact Nat.le_refl _

/-- The parts are few and short. -/
def PartsOk (x : Pl) (f : Nat → Tb → List ByteArray) : Prop := (partsL f 0 x.tables).length ≤ 1048576 ∧ ∀ (k : Nat) (h : k < x.tables.length), ∀ s ∈ f k x.tables[k], s.size ≤ 1048576

theorem Blk.block {w w' : World} {b : Nat} {vs : List Value} (h : Blk w b vs) (hs : w.heap.size ≤ w'.heap.size) (hb : w'.heap[b]? = w.heap[b]?) : Blk w' b vs := by
  refine ⟨Nat.lt_of_lt_of_le h.1 hs, fun j hj => ⟨(World.cell?_of_block (a := ⟨b, j, none⟩) hb).trans (h.2 j hj).1, ?_⟩⟩
  have := (h.2 j hj).2
  unfold World.frozen? at this ⊢
  rw [hb]
  exact this

/-- While the parts zs of a table are appended. -/
structure PQ (w wr w2 : World) (TV : List Value) (a2 : Option Addr) (c2 : Nat) (zs : List ByteArray) (nm : ByteArray) (ys : List ByteArray) (j : Nat) (vs' : List ByteArray) (a' : Option Addr) (c' : Nat) (wq : World) : Prop where
  eq : vs' = ys ++ (zs.take j).map (dotT nm)
  own : Own wq (w.heap.size + 1) a' c' vs'
  bel : Below w.heap.size w wq
  zo : Own wq (wr.heap.size + 1) a2 c2 zs
  box : Blk wq wr.heap.size TV
  sz : w2.heap.size ≤ wq.heap.size
  loc : ∀ g, (Value.slice a' vs'.length c').ownBlock = some g → g < wr.heap.size ∨ w2.heap.size ≤ g
  zl : ∀ g, (Value.slice a2 zs.length c2).ownBlock = some g → g < w2.heap.size
  bl : wr.heap.size < w2.heap.size ∧ w.heap.size < wr.heap.size

theorem PQ.step {w wr w2 : World} {TV : List Value} {a2 : Option Addr} {c2 : Nat} {zs : List ByteArray} {nm : ByteArray} {ys : List ByteArray} {j : Nat} {vs' : List ByteArray} {a' : Option Addr} {c' : Nat} {wq : World} (h : PQ w wr w2 TV a2 c2 zs nm ys j vs' a' c' wq)
    (hj : j < zs.length) {o : Obj} {w9 : World} {a9 : Option Addr} {c9 : Nat} (hown : Own w9 (w.heap.size + 1) a9 c9 (vs' ++ [dotT nm zs[j]])) (hg : (wq.alloc o).grownBy w9 (Value.slice a' vs'.length c').ownBlock)
    (hl : (Value.slice a9 (vs' ++ [dotT nm zs[j]]).length c9).ownBlock = (Value.slice a' vs'.length c').ownBlock ∨ (Value.slice a9 (vs' ++ [dotT nm zs[j]]).length c9).ownBlock = some (wq.alloc o).heap.size) :
    PQ w wr w2 TV a2 c2 zs nm ys (j + 1) (vs' ++ [dotT nm zs[j]]) a9 c9 w9 := by
  have hz : (wq.alloc o).heap.size = wq.heap.size + 1 := by simp
  have hs9 : wq.heap.size ≤ w9.heap.size := by have := hg.size; omega
  have hblk : ∀ b, b < w2.heap.size → wr.heap.size ≤ b → w9.heap[b]? = wq.heap[b]? := by
    intro b hb1 hb2
    have hlt : b < wq.heap.size := Nat.lt_of_lt_of_le hb1 h.sz
    have e1 : (wq.alloc o).heap[b]? = wq.heap[b]? := ((Below.refl wq.heap.size wq).alloc (Nat.le_refl _) o).block b hlt
    rw [← e1]
    refine hg.block b (by omega) (fun e => ?_)
    rcases h.loc b e.symm with h1 | h1 <;> omega
  have hb := h.bl
  refine ⟨by rw [h.eq, List.append_assoc, take_map _ _ _ hj], hown, ?_, ?_, ?_, Nat.le_trans h.sz hs9, ?_, h.zl, h.bl⟩
  · have hB : Below (w.heap.size + 1) wq w9 := appended (Below.refl _ _) (by have := h.sz; omega) h.own hg
    exact h.bel.trans (hB.mono (by omega))
  · exact ownsRow_block h.zo fun g hg' => hblk g (h.zl g hg') (by have := (h.zo.lt hg').1; omega)
  · exact h.box.block hs9 (hblk _ hb.1 (Nat.le_refl _))
  · intro g hg'
    rcases hl with e | e
    · exact h.loc g (by rw [← e]; exact hg')
    · rw [e] at hg'
      cases hg'
      right
      have := h.sz
      omega

end Go.Proofs.YtjjdcdnaonfnmaaGreat

namespace Go.Proofs.YtjjdcdnaonfnmaaGreat
open Go.RowKit

set_option maxRecDepth 100000 in
set_option maxHeartbeats 8000000 in
theorem pwEnum (vs : List Value) (x : Pl) (w : World) (fr0 : Value) (f : Nat → Tb → List ByteArray) (hR : RPl 0 w vs x) (hn : x.wt ≤ 1048576) (hf : PartsOk x f)
    (HW : Hid (∀ (W : World) (us : List Value) (t : Tb) (i : Nat), Below w.heap.size w W → RTb 0 W us t → t ∈ x.tables → i < x.tables.length → Calls Tryz.prog 32 #[.int .i64 (i : Int), .agg us.toArray, fr0] W (NewStrs W (f i t)))) :
    Calls Tryz.prog 31 #[.agg vs.toArray, .func (.func 32) #[] #[fr0]] w (NewStrs w (partsL f 0 x.tables)) := by
  obtain ⟨i0, hi0, hz0, hz1, hz2⟩ := info_parts Tryz.infoString
  obtain ⟨a0, c0, a1, c1, a2, c2, a3, c3, a4, c4, rfl, _, _, _, k2, _, _⟩ := hR
  have hl := k2.len
  have K2 := Lib.hid (fun w' (hb : Below w.heap.size w w') => k2.kept goodTb (Kept.below hb))
  have HPL := Lib.hid (fun k => partsL_le f x.tables k)
  have A0 := Lib.hid (blk_new w 38 [.slice a0 x.enums.length c0, .slice a1 x.seqs.length c1, .slice a2 x.tables.length c2, .slice a3 x.indexes.length c3, .slice a4 x.views.length c4, .int .i64 x.next])
  have B0 : Hid (Below w.heap.size w (w.alloc (.cells #[.slice a0 x.enums.length c0, .slice a1 x.seqs.length c1, .slice a2 x.tables.length c2, .slice a3 x.indexes.length c3, .slice a4 x.views.length c4, .int .i64 x.next] 38))) := (Below.refl _ _).alloc (Nat.le_refl _) _
  clear k2
  go_enter Tryz.func31, Tryz.ntmps31
  go_wp2_with fail
  go_loopw [5, 13] (fun o i wr => ∃ (k : Nat) (ys : List ByteArray) (a' : Option Addr) (c' : Nat), k ≤ x.tables.length ∧ i = .int .i64 k ∧ o = .slice a' ys.length c' ∧ Hid (ys = partsL f 0 (x.tables.take k) ∧ Own wr (w.heap.size + 1) a' c' ys ∧ Below w.heap.size w wr ∧ w.heap.size < wr.heap.size)) (fun _ i _ => x.tables.length - (intOf i).toNat)
  case atStart => exact ⟨0, [], none, 0, Nat.zero_le _, rfl, rfl, rfl, Own.nil _ _, B0.out, by simp⟩
  case round =>
    rename World => wo
    obtain ⟨k, ys, a1, c1, hk, rfl, rfl, hS⟩ := hrel
    by_cases hlt : k < x.tables.length
    · obtain ⟨b, off, us, rfl, hbl, hcs, hT⟩ := (K2.out _ hS.out.2.2.1).spot hlt
      have HT := hT
      obtain ⟨p0, q0, p1, q1, rfl, hfit, _⟩ := hT
      have hsn : x.tables[k].name.size ≤ 1048576 := by
        have h1 := wtS_get Tb.wt hlt
        have h2 : x.tables[k].wt = x.tables[k].name.size + (x.tables[k].cols.length + wtS Co.wt x.tables[k].cols) + (x.tables[k].rules.length + wtS Ru.wt x.tables[k].rules) := rfl
        have h3 : x.wt = (x.enums.length + wtS Lab.wt x.enums) + (x.seqs.length + wtS Sq.wt x.seqs) + (x.tables.length + wtS Tb.wt x.tables) + (x.indexes.length + wtS Ix.wt x.indexes) + (x.views.length + wtS Vw.wt x.views) := rfl
        omega
      have HK := Lib.hid HT
      have HWk := Lib.hid (fun (W : World) (us : List Value) (hB : Below w.heap.size w W) (hRW : RTb 0 W us (x.tables[k]'hlt)) => HW.out W us (x.tables[k]'hlt) k hB hRW (List.getElem_mem hlt) hlt)
      have hc0 : wo.cell? ⟨b, off + k * 4, none⟩ = some (.string x.tables[k].name) := hcs 0 (by simp)
      have hc1 : wo.cell? ⟨b, off + k * 4 + 1, none⟩ = some (.slice p0 x.tables[k].cols.length q0) := hcs 1 (by simp)
      have hc2 : wo.cell? ⟨b, off + k * 4 + 2, none⟩ = some (.slice p1 x.tables[k].rules.length q1) := hcs 2 (by simp)
      have hc3 : wo.cell? ⟨b, off + k * 4 + 3, none⟩ = some (.int .i64 x.tables[k].token) := hcs 3 (by simp)
      have HTK := Lib.hid (partsL_take f x.tables k hlt)
      have HFk := Lib.hid (hf.2 k hlt)
      have HFn := Lib.hid hf.1
      clear HT hcs
      go_wp2_with fail
      have hba : Below wo.heap.size wo (wo.alloc (.cells #[.string x.tables[k].name, .slice p0 x.tables[k].cols.length q0, .slice p1 x.tables[k].rules.length q1, .int .i64 x.tables[k].token] 55)) := (Below.refl _ _).alloc (Nat.le_refl _) _
      refine (HWk.out _ _ (hS.out.2.2.1.trans (hba.mono hS.out.2.2.1.size)) (goodTb.kept HK.out (Kept.below hba))).mono ?_
      rintro e w2 ⟨a2, c2, rfl, own2, b2⟩
      have A2 := Lib.hid (show Blk w2 wo.heap.size [.string x.tables[k].name, .slice p0 x.tables[k].cols.length q0, .slice p1 x.tables[k].rules.length q1, .int .i64 x.tables[k].token] from Blk.call b2 (blk_new wo _ [.string x.tables[k].name, .slice p0 x.tables[k].cols.length q0, .slice p1 x.tables[k].rules.length q1, .int .i64 x.tables[k].token]))
      have HB2 := Lib.hid (hba.trans (b2.mono hba.size))
      generalize hzs : f k x.tables[k] = zs at *
      have HZF := Lib.hid HFk.out
      have HOZ : Hid (Own w2 (wo.heap.size + 1) a2 c2 zs) := Lib.hid (by have := own2; simpa using this)
      have HOW := Lib.hid (hS.out.2.1.below HB2.out)
      have hw2 : w.heap.size + 1 ≤ w2.heap.size := Nat.le_trans hS.out.2.2.2 HB2.out.size
      have hyz : ys.length + zs.length ≤ 4194304 := by have h1 := hS.out.1; have h2 := HTK.out; have h3 := HPL.out (k + 1); have h4 := HFn.out; rw [h2, List.length_append, List.length_map, ← h1] at h3; omega
      have HB2w : Hid (Below w.heap.size w w2) := hS.out.2.2.1.trans (HB2.out.mono hS.out.2.2.1.size)
      have hwr : w.heap.size < wo.heap.size := hS.out.2.2.2
      have HPQ0 : Hid (PQ w wo w2 [.string x.tables[k].name, .slice p0 x.tables[k].cols.length q0, .slice p1 x.tables[k].rules.length q1, .int .i64 x.tables[k].token] a2 c2 zs x.tables[k].name ys 0 ys a1 c1 w2) :=
        ⟨by simp, HOW.out, HB2w.out, HOZ.out, A2.out, Nat.le_refl _, fun g hg => .inl (hS.out.2.1.lt hg).2, fun g hg => (HOZ.out.lt hg).2, A2.out.1, hwr⟩
      clear b2 hba own2
      go_wp2_with fail
      go_loopw [5, 23] (fun o i wq => ∃ (j : Nat) (us' : List ByteArray) (a' : Option Addr) (c' : Nat), j ≤ zs.length ∧ i = .int .i64 j ∧ o = .slice a' us'.length c' ∧ Hid (PQ w wo w2 [.string x.tables[k].name, .slice p0 x.tables[k].cols.length q0, .slice p1 x.tables[k].rules.length q1, .int .i64 x.tables[k].token] a2 c2 zs x.tables[k].name ys j us' a' c' wq)) (fun _ i _ => zs.length - (intOf i).toNat)
      case atStart => exact ⟨0, ys, a1, c1, Nat.zero_le _, rfl, rfl, HPQ0⟩
      case round =>
        obtain ⟨j, us', a3, c3, hj, rfl, rfl, hQ⟩ := hrel
        by_cases hlj : j < zs.length
        · have hul : us'.length = ys.length + j := by have := hQ.out.eq; rw [this]; simp; omega
          rcases hQ.out.zo.form with ⟨_, _, h0⟩ | ⟨g, hga, hg1, hg2⟩
          · rw [h0] at hlj; simp at hlj
          subst hga
          have hzc : wr.cell? ⟨g, j, none⟩ = some (.string zs[j]) := by
            have := World.ownsRow.cellAt (w := wr) hQ.out.zo j (by omega)
            rw [this]; simp [hlj]
          have hq0 : wr.cell? ⟨wo.heap.size, 0, none⟩ = some (.string x.tables[k].name) := (hQ.out.box.2 0 (by simp)).1
          have hsj : zs[j].size ≤ 1048576 := HZF.out _ (List.getElem_mem hlj)
          have hj0 : (0 : Int) ≤ (j : Int) := by omega
          have hj1 : (j : Int) < (zs.length : Int) := by omega
          have o1 : (ByteArray.mk #[46]).size = 1 := rfl
          have ad1 : ∀ W, (binOp .add 9 (.string x.tables[k].name) (.string ⟨#[46]⟩)).run Tryz.prog W = .ok (.string (x.tables[k].name ++ ⟨#[46]⟩)) W := fun W => by simp [binOp, run_string_add_sum W x.tables[k].name ⟨#[46]⟩ (by rw [o1]; omega)]
          have ad2 : ∀ W, (binOp .add 9 (.string (x.tables[k].name ++ ⟨#[46]⟩)) (.string zs[j])).run Tryz.prog W = .ok (.string (dotT x.tables[k].name zs[j])) W := fun W => by simp [binOp, dotT, run_string_add_sum W (x.tables[k].name ++ ⟨#[46]⟩) zs[j] (by rw [ByteArray.size_append, o1]; omega)]
          have hwq : w.heap.size + 1 ≤ wr.heap.size := by have h1 := hQ.out.sz; omega
          have HQj := Lib.hid hQ.out
          clear hQ o1
          go_wp2_with (at_builtin; refine wpAppendLoc rfl _ _ rfl i0 hi0 hz0 hz1 hz2 (w.heap.size + 1) a3 c3 us' wr.heap.size (dotT x.tables[k].name zs[j]) rfl (HQj.out.own.alloc _) rfl ((blk_new wr 9 [.string (dotT x.tables[k].name zs[j])]).2 0 (by simp)).1 (by omega) (by simp; omega) ?_; intro a9 c9 w9 hown9 hg9 hl9)
          have HQ9 := Lib.hid (HQj.out.step hlj hown9 hg9 hl9)
          clear hown9 hg9 hl9
          go_wp2_with fail
          go_roundw
          case rel => exact ⟨j + 1, us' ++ [dotT x.tables[k].name zs[j]], a9, c9, by omega, by go_num, by first | (simp; done) | (simp; omega), HQ9⟩
          case measure => simp [intOf]; omega
        · obtain rfl : j = zs.length := by omega
          have HE : Hid (us' = partsL f 0 (x.tables.take (k + 1))) := by unfold Hid; rw [HTK.out, hQ.out.eq, List.take_length, hS.out.1]
          have hsz := hQ.out.sz
          go_wp2_with fail
          go_roundw
          case rel => exact ⟨k + 1, us', a3, c3, by omega, by go_num, rfl, HE.out, hQ.out.own, hQ.out.bel, by omega⟩
          case measure => simp [intOf]; omega
    · obtain rfl : k = x.tables.length := by omega
      go_wp2_with fail
      go_ret
      have h1 := hS.out.1
      rw [List.take_length] at h1
      subst h1
      exact ⟨a1, c1, rfl, hS.out.2.1.lower (by omega), hS.out.2.2.1⟩

end Go.Proofs.YtjjdcdnaonfnmaaGreat

namespace Go.Proofs.YtjjdcdnaonfnmaaGreat
open Go.RowKit

/-- A column of an enumeration. -/
def isEnB (n : ByteArray) (x : Co) : Bool := x.ty.kind == 4 && x.ty.name.toList == n.toList

def enumF (n : ByteArray) (_ : Nat) (t : Tb) : List ByteArray := (t.cols.filter (isEnB n)).map Co.name

set_option maxRecDepth 100000 in
set_option maxHeartbeats 2000000 in
theorem implIsEnum (k m : Int) (s n : ByteArray) (w : World) (v : Bool) (hv : (k == 4 && s.toList == n.toList) = v) :
    Calls Tryz.prog 35 #[.agg #[.int .i64 k, .int .i64 m, .string s], .string n] w fun e w' => e = .returned (.bool v) ∧ Below w.heap.size w w' := by
  have HB : Hid (∀ o : Obj, Below w.heap.size w (w.alloc o)) := fun o => (Below.refl _ _).alloc (Nat.le_refl _) _
  cases h1 : (k == 4) with
  | false =>
    rw [h1] at hv
    have hvf : v = false := hv.symm
    subst hvf
    go_enter Tryz.func35, Tryz.ntmps35
    go_wp2_with fail
    try (go_quiet (fail); go_wp2_with fail)
    go_ret
    first | exact ⟨rfl, HB.out _⟩ | exact ⟨rfl, below_drewN (HB.out _) _⟩
  | true =>
    rw [h1, Bool.true_and] at hv
    cases v with
    | false =>
      go_enter Tryz.func35, Tryz.ntmps35
      go_wp2_with fail
      try (go_quiet (fail); go_wp2_with fail)
      go_ret
      first | exact ⟨rfl, HB.out _⟩ | exact ⟨rfl, below_drewN (HB.out _) _⟩
    | true =>
      go_enter Tryz.func35, Tryz.ntmps35
      go_wp2_with fail
      try (go_quiet (fail); go_wp2_with fail)
      go_ret
      first | exact ⟨rfl, HB.out _⟩ | exact ⟨rfl, below_drewN (HB.out _) _⟩

set_option maxRecDepth 100000 in
set_option maxHeartbeats 2000000 in
theorem enumC (vs : List Value) (x : Co) (nb : Nat) (n : ByteArray) (w : World) (hR : RCo 0 w vs x) (hnb : w.cell? ⟨nb, 0, none⟩ = some (.string n)) (hlt : nb < w.heap.size) :
    Calls Tryz.prog 34 #[.agg vs.toArray, .pointer (some ⟨nb, 0, none⟩)] w fun e w' => e = .returned (.bool (isEnB n x)) ∧ Below w.heap.size w w' := by
  obtain ⟨a0, c0, rfl, _⟩ := hR
  have hba : Below w.heap.size w (w.alloc (.cells [.string x.name, .int .i64 x.ty.kind, .int .i64 x.ty.len, .string x.ty.name, .bool x.notNull, .slice a0 x.dflt.length c0].toArray 60)) := (Below.refl _ _).alloc (Nat.le_refl _) _
  have hnb' := (hba.cell (p := ⟨nb, 0, none⟩) hlt).trans hnb
  obtain ⟨v, hv⟩ : ∃ v, isEnB n x = v := ⟨_, rfl⟩
  have HV : Hid ((x.ty.kind == 4 && x.ty.name.toList == n.toList) = v) := hv
  have HB := Lib.hid hba
  rw [hv]
  clear hv hba
  go_enter Tryz.func34, Tryz.ntmps34
  go_wp2_with fail
  refine (implIsEnum _ _ _ n _ v HV.out).mono ?_
  rintro e w2 ⟨rfl, b2⟩
  have HB2 := Lib.hid (HB.out.trans (b2.mono HB.out.size))
  clear b2
  go_wp2_with fail
  go_ret
  exact ⟨rfl, HB2.out⟩

set_option maxRecDepth 100000 in
set_option maxHeartbeats 2000000 in
theorem enumT (us : List Value) (t : Tb) (i : Nat) (nb : Nat) (n : ByteArray) (w : World) (hR : RTb 0 w us t) (hnb : w.cell? ⟨nb, 0, none⟩ = some (.string n)) (hlt : nb < w.heap.size) (hn : t.cols.length ≤ 1048576) :
    Calls Tryz.prog 32 #[.int .i64 (i : Int), .agg us.toArray, .pointer (some ⟨nb, 0, none⟩)] w (NewStrs w (enumF n i t)) := by
  obtain ⟨a0, c0, a1, c1, rfl, _, k0, _⟩ := hR
  have hba : Below w.heap.size w (w.alloc (.cells [.string t.name, .slice a0 t.cols.length c0, .slice a1 t.rules.length c1, .int .i64 t.token].toArray 55)) := (Below.refl _ _).alloc (Nat.le_refl _) _
  have hnb' := (hba.cell (p := ⟨nb, 0, none⟩) hlt).trans hnb
  have K0 := Lib.hid (k0.kept goodCo (Kept.below hba))
  have HB := Lib.hid hba
  have HN : Hid (∀ W, Below w.heap.size w W → W.cell? ⟨nb, 0, none⟩ = some (.string n) ∧ nb < W.heap.size) := fun W hb => ⟨(hb.cell (p := ⟨nb, 0, none⟩) hlt).trans hnb, Nat.lt_of_lt_of_le hlt hb.size⟩
  clear k0 hba
  go_enter Tryz.func32, Tryz.ntmps32
  go_wp2_with fail
  refine (nwEnum a0 c0 t.cols _ (.pointer (some ⟨nb, 0, none⟩)) (isEnB n) K0.out hn ?_).mono ?_
  · intro W vs x hb hx
    obtain ⟨h1, h2⟩ := HN.out W (HB.out.trans (hb.mono HB.out.size))
    exact enumC vs x nb n W hx h1 h2
  rintro e w2 ⟨a2, c2, rfl, own2, b2⟩
  have HO := Lib.hid (own2.lower (B' := w.heap.size) HB.out.size)
  have HB2 := Lib.hid (HB.out.trans (b2.mono HB.out.size))
  clear own2 b2
  go_wp2_with fail
  go_ret
  exact ⟨a2, c2, by simp [enumF], HO.out, HB2.out⟩

/-- The parts weigh no more than their tables. -/
def Light (f : Nat → Tb → List ByteArray) : Prop := ∀ (i : Nat) (t : Tb), (f i t).length ≤ t.wt ∧ ∀ s ∈ f i t, t.name.size + 1 + s.size ≤ t.wt

theorem partsL_wt {f : Nat → Tb → List ByteArray} (hf : Light f) : ∀ (ts : List Tb) (i : Nat), (partsL f i ts).length ≤ wtS Tb.wt ts ∧ ∀ s ∈ partsL f i ts, s.size ≤ wtS Tb.wt ts
  | [], _ => ⟨Nat.le_refl _, fun s h => by simp [partsL] at h⟩
  | t :: r, i => by
    obtain ⟨h1, h2⟩ := partsL_wt hf r (i + 1)
    obtain ⟨h3, h4⟩ := hf i t
    have hw : wtS Tb.wt (t :: r) = t.wt + wtS Tb.wt r := rfl
    refine ⟨by rw [partsL, List.length_append, List.length_map, hw]; omega, fun s hs => ?_⟩
    rw [partsL] at hs
    rcases List.mem_append.1 hs with hs | hs
    · obtain ⟨q, hq, rfl⟩ := List.mem_map.1 hs
      rw [dotT_size]
      have := h4 q hq
      omega
    · have := h2 s hs
      omega

theorem partsOk_of {f : Nat → Tb → List ByteArray} (hf : Light f) {x : Pl} (hn : x.wt ≤ 1048576) : PartsOk x f ∧ (partsL f 0 x.tables).length ≤ 1048576 ∧ ∀ s ∈ partsL f 0 x.tables, s.size ≤ 1048576 := by
  obtain ⟨h1, h2⟩ := partsL_wt hf x.tables 0
  have h3 : x.wt = (x.enums.length + wtS Lab.wt x.enums) + (x.seqs.length + wtS Sq.wt x.seqs) + (x.tables.length + wtS Tb.wt x.tables) + (x.indexes.length + wtS Ix.wt x.indexes) + (x.views.length + wtS Vw.wt x.views) := rfl
  refine ⟨⟨by omega, fun k hk s hs => ?_⟩, by omega, fun s hs => by have := h2 s hs; omega⟩
  have h4 := (hf k x.tables[k]).2 s hs
  have h5 := wtS_get Tb.wt hk
  omega

theorem co_name {t : Tb} {x : Co} (h : x ∈ t.cols) : t.name.size + 1 + x.name.size ≤ t.wt := by
  obtain ⟨i, hi, rfl⟩ := List.mem_iff_getElem.1 h
  have h1 := wtS_get Co.wt hi
  have h2 : t.wt = t.name.size + (t.cols.length + wtS Co.wt t.cols) + (t.rules.length + wtS Ru.wt t.rules) := rfl
  have h3 : t.cols[i].wt = t.cols[i].name.size + t.cols[i].ty.name.size + (t.cols[i].dflt.length + wtL t.cols[i].dflt) := rfl
  omega

theorem enum_light (n : ByteArray) : Light (enumF n) := by
  intro i t
  have h2 : t.wt = t.name.size + (t.cols.length + wtS Co.wt t.cols) + (t.rules.length + wtS Ru.wt t.rules) := rfl
  unfold enumF
  refine ⟨?_, fun s hs => ?_⟩
  · rw [List.length_map]
    have := List.length_filter_le (isEnB n) t.cols
    omega
  · obtain ⟨x, hx, rfl⟩ := List.mem_map.1 hs
    exact co_name (List.mem_filter.1 hx).1

/-- One list of texts, as risingNames takes it. -/
theorem one_list {w : World} {a : Option Addr} {c : Nat} {xs : List ByteArray} (h : Strs w a c xs) (T : TypeId) :
    Sl 1 RSS 0 (w.alloc (.cells #[.slice a xs.length c] T)) (some ⟨w.heap.size, 0, none⟩) 1 [xs] := by
  refine ⟨Nat.le_refl _, by unfold maxLen; omega, (fun h => by cases h), fun _ => ⟨w.heap.size, 0, rfl, Nat.zero_le _, by simp, fun i hi => ?_⟩⟩
  have h0 : i = 0 := by simpa using hi
  subst h0
  refine ⟨[.slice a xs.length c], fun j hj => ?_, a, c, rfl, ?_⟩
  · have hj0 : j = 0 := by simpa using hj
    subst hj0
    exact ((blk_new w T [.slice a xs.length c]).2 0 (by simp)).1
  · exact (h.below ((Below.refl _ _).alloc (Nat.le_refl _) _)).ss0

/-- The parts of an enumeration. -/
def enumL (x : Pl) (n : ByteArray) : List ByteArray := partsL (enumF n) 0 x.tables

theorem enum_ok (x : Pl) (n : ByteArray) (hn : x.wt ≤ 1048576) : (risingU (enumL x n)).length ≤ 1048576 ∧ ∀ s ∈ risingU (enumL x n), s.size ≤ 1048576 := by
  obtain ⟨_, h1, h2⟩ := partsOk_of (enum_light n) hn
  have h3 := risingU_len (enumL x n)
  have h4 : (enumL x n).length ≤ 1048576 := h1
  exact ⟨by omega, fun s hs => h2 s (((risingU_facts _).2 s).1 hs)⟩

set_option maxRecDepth 100000 in
set_option maxHeartbeats 4000000 in
theorem implEnumUse (vs : List Value) (x : Pl) (n : ByteArray) (w : World) (hR : RPl 0 w vs x) (hn : x.wt ≤ 1048576) :
    Calls Tryz.prog 9 #[.agg vs.toArray, .string n] w (NewStrs w (risingU (enumL x n))) := by
  obtain ⟨hok, hol, hoz⟩ := partsOk_of (enum_light n) hn
  have HR := Lib.hid hR
  have hcl : Hid (∀ t ∈ x.tables, t.cols.length ≤ 1048576) := by
    intro t ht
    obtain ⟨i, hi, rfl⟩ := List.mem_iff_getElem.1 ht
    have h1 := wtS_get Tb.wt hi
    have h3 : x.wt = (x.enums.length + wtS Lab.wt x.enums) + (x.seqs.length + wtS Sq.wt x.seqs) + (x.tables.length + wtS Tb.wt x.tables) + (x.indexes.length + wtS Ix.wt x.indexes) + (x.views.length + wtS Vw.wt x.views) := rfl
    have h2 : x.tables[i].wt = x.tables[i].name.size + (x.tables[i].cols.length + wtS Co.wt x.tables[i].cols) + (x.tables[i].rules.length + wtS Ru.wt x.tables[i].rules) := rfl
    omega
  obtain ⟨a0, c0, a1, c1, a2, c2, a3, c3, a4, c4, rfl, _⟩ := hR
  have hba : Below w.heap.size w ((w.alloc (.cells [.slice a0 x.enums.length c0, .slice a1 x.seqs.length c1, .slice a2 x.tables.length c2, .slice a3 x.indexes.length c3, .slice a4 x.views.length c4, .int .i64 x.next].toArray 38)).alloc (.cells #[.string n] 9)) := below2 _ _ _
  have hnb := ((blk_new (w.alloc (.cells [.slice a0 x.enums.length c0, .slice a1 x.seqs.length c1, .slice a2 x.tables.length c2, .slice a3 x.indexes.length c3, .slice a4 x.views.length c4, .int .i64 x.next].toArray 38)) 9 [.string n]).2 0 (by simp)).1
  have hz1 : (w.alloc (.cells [.slice a0 x.enums.length c0, .slice a1 x.seqs.length c1, .slice a2 x.tables.length c2, .slice a3 x.indexes.length c3, .slice a4 x.views.length c4, .int .i64 x.next].toArray 38)).heap.size = w.heap.size + 1 := by simp
  rw [hz1] at hnb
  have HB := Lib.hid hba
  have HRW := Lib.hid (goodPl.kept HR.out (Kept.below hba))
  have hlt : w.heap.size + 1 < ((w.alloc (.cells [.slice a0 x.enums.length c0, .slice a1 x.seqs.length c1, .slice a2 x.tables.length c2, .slice a3 x.indexes.length c3, .slice a4 x.views.length c4, .int .i64 x.next].toArray 38)).alloc (.cells #[.string n] 9)).heap.size := by simp
  have HN : Hid (∀ W, Below ((w.alloc (.cells [.slice a0 x.enums.length c0, .slice a1 x.seqs.length c1, .slice a2 x.tables.length c2, .slice a3 x.indexes.length c3, .slice a4 x.views.length c4, .int .i64 x.next].toArray 38)).alloc (.cells #[.string n] 9)).heap.size ((w.alloc (.cells [.slice a0 x.enums.length c0, .slice a1 x.seqs.length c1, .slice a2 x.tables.length c2, .slice a3 x.indexes.length c3, .slice a4 x.views.length c4, .int .i64 x.next].toArray 38)).alloc (.cells #[.string n] 9)) W → W.cell? ⟨w.heap.size + 1, 0, none⟩ = some (.string n) ∧ w.heap.size + 1 < W.heap.size) :=
    fun W hb => ⟨(hb.cell (p := ⟨w.heap.size + 1, 0, none⟩) hlt).trans hnb, Nat.lt_of_lt_of_le hlt hb.size⟩
  clear hba hnb hz1 hlt
  go_enter Tryz.func9, Tryz.ntmps9
  go_wp2_with fail
  refine (pwEnum _ x _ (.pointer (some ⟨w.heap.size + 1, 0, none⟩)) (enumF n) HRW.out hn hok ?_).mono ?_
  · intro W us t i hb ht hm hi
    obtain ⟨h1, h2⟩ := HN.out W hb
    exact enumT us t i (w.heap.size + 1) n W ht h1 h2 (hcl.out t hm)
  rintro e w2 ⟨ao, co, rfl, own2, b2⟩
  have HO := Lib.hid (one_list (own2.strs (fun s hs => by have := hoz s hs; unfold maxLen; omega)) 30)
  have HB2 := Lib.hid (HB.out.trans (b2.mono HB.out.size))
  clear own2 b2
  go_wp2_with fail
  refine (implRising _ 1 [partsL (enumF n) 0 x.tables] _ HO.out (by simp; omega) (by simp) (by simpa using hoz)).mono ?_
  rintro e w3 ⟨a3, c3, rfl, own3, b3⟩
  have HB3 := Lib.hid ((HB2.out.alloc HB2.out.size (.cells #[.slice ao (partsL (enumF n) 0 x.tables).length co] 30)).trans (b3.mono (by have := HB2.out.size; simp; omega)))
  have HO3 := Lib.hid (own3.lower (B' := w.heap.size) (by have := HB2.out.size; simp; omega))
  have hfl : [partsL (enumF n) 0 x.tables].flatten = enumL x n := by simp [enumL]
  rw [hfl] at HO3 ⊢
  clear own3 b3
  go_wp2_with fail
  go_ret
  exact ⟨a3, c3, rfl, HO3.out, HB3.out⟩

end Go.Proofs.YtjjdcdnaonfnmaaGreat

namespace Go.Proofs.YtjjdcdnaonfnmaaGreat
open Go.RowKit

set_option maxHeartbeats 1000000 in
theorem ownRu (vs : List Value) (x : Ru) (w : World) (hR : ∃ lo w', RRu lo w' vs x) :
    Calls Tryz.prog 160 #[.agg vs.toArray] w fun e w' => e = .returned (.string x.name) ∧ Below w.heap.size w w' := by
  obtain ⟨_, _, hR⟩ := hR
  obtain ⟨a0, c0, a1, c1, a2, c2, rfl, _⟩ := hR
  go_enter Tryz.func160, Tryz.ntmps160
  go_wp2_with fail
  go_ret
  exact ⟨rfl, (Below.refl _ _).alloc (Nat.le_refl _) _⟩

set_option maxRecDepth 100000 in
set_option maxHeartbeats 1000000 in
theorem isRu (vs : List Value) (x : Ru) (nb : Nat) (n : ByteArray) (w : World) (hR : RRu 0 w vs x) (hnb : w.cell? ⟨nb, 0, none⟩ = some (.string n)) (hlt : nb < w.heap.size) :
    Calls Tryz.prog 129 #[.agg vs.toArray, .pointer (some ⟨nb, 0, none⟩)] w fun e w' => e = .returned (.bool (x.name.toList == n.toList)) ∧ Below w.heap.size w w' := by
  have HO := Lib.hid (fun w2 => ownRu vs x w2 ⟨_, _, hR⟩)
  obtain ⟨a0, c0, a1, c1, a2, c2, rfl, _⟩ := hR
  have hdr := below_drewE (Below.refl (w.alloc (.cells [.string x.name, .int .i64 x.kind, .slice a0 x.cols.length c0, .slice a1 x.expr.length c1, .string x.table, .slice a2 x.to.length c2].toArray 85)).heap.size (w.alloc (.cells [.string x.name, .int .i64 x.kind, .slice a0 x.cols.length c0, .slice a1 x.expr.length c1, .string x.table, .slice a2 x.to.length c2].toArray 85)))
  have Q := Lib.hid ((blk_new w 85 [.string x.name, .int .i64 x.kind, .slice a0 x.cols.length c0, .slice a1 x.expr.length c1, .string x.table, .slice a2 x.to.length c2]).below hdr)
  have QN := Lib.hid ((hdr.cell (p := ⟨nb, 0, none⟩) (by simp; omega)).trans ((World.cell?_alloc_lt w (.cells [.string x.name, .int .i64 x.kind, .slice a0 x.cols.length c0, .slice a1 x.expr.length c1, .string x.table, .slice a2 x.to.length c2].toArray 85) ⟨nb, 0, none⟩ hlt).trans hnb))
  have hnl : nb < (w.alloc (.cells [.string x.name, .int .i64 x.kind, .slice a0 x.cols.length c0, .slice a1 x.expr.length c1, .string x.table, .slice a2 x.to.length c2].toArray 85)).heap.size := by simp; omega
  have hwl : w.heap.size < (w.alloc (.cells [.string x.name, .int .i64 x.kind, .slice a0 x.cols.length c0, .slice a1 x.expr.length c1, .string x.table, .slice a2 x.to.length c2].toArray 85)).heap.size := by simp
  clear hdr
  have hne : nb ≠ w.heap.size := by omega
  have hm : ∀ (v : Value) (w : World), (method 323 85 v "loop.example/g00751/impl.ownName").run Tryz.prog w = .ok (160, v) w := fun _ _ => by kernel_rfl
  go_enter Tryz.func129, Tryz.ntmps129
  go_wp2_with fail
  go_region_held3 (fun w' => w'.cell? ⟨nb, 0, none⟩ = some (.string n) ∧ w'.cell? ⟨w.heap.size, 0, none⟩ = some (.string x.name) ∧ w'.cell? ⟨w.heap.size, 1, none⟩ = some (.int .i64 x.kind) ∧ w'.cell? ⟨w.heap.size, 2, none⟩ = some (.slice a0 x.cols.length c0) ∧ w'.cell? ⟨w.heap.size, 3, none⟩ = some (.slice a1 x.expr.length c1) ∧ w'.cell? ⟨w.heap.size, 4, none⟩ = some (.string x.table) ∧ w'.cell? ⟨w.heap.size, 5, none⟩ = some (.slice a2 x.to.length c2)) (first | assumption | exact ⟨QN.out, (Q.out.2 0 (by simp)).1, (Q.out.2 1 (by simp)).1, (Q.out.2 2 (by simp)).1, (Q.out.2 3 (by simp)).1, (Q.out.2 4 (by simp)).1, (Q.out.2 5 (by simp)).1⟩ | exact ⟨(hcw _ _ hnl).trans QN.out, (hcw _ _ hwl).trans (Q.out.2 0 (by simp)).1, (hcw _ _ hwl).trans (Q.out.2 1 (by simp)).1, (hcw _ _ hwl).trans (Q.out.2 2 (by simp)).1, (hcw _ _ hwl).trans (Q.out.2 3 (by simp)).1, (hcw _ _ hwl).trans (Q.out.2 4 (by simp)).1, (hcw _ _ hwl).trans (Q.out.2 5 (by simp)).1⟩ | exact (hcw _ _ hnl).trans QN.out | exact (hcw _ _ hwl).trans (Q.out.2 0 (by simp)).1 | exact (hcw _ _ hwl).trans (Q.out.2 1 (by simp)).1 | exact (hcw _ _ hwl).trans (Q.out.2 2 (by simp)).1 | exact (hcw _ _ hwl).trans (Q.out.2 3 (by simp)).1 | exact (hcw _ _ hwl).trans (Q.out.2 4 (by simp)).1 | exact (hcw _ _ hwl).trans (Q.out.2 5 (by simp)).1)
    ((go_at_call 160; refine (HO.out _).mono ?_; rintro e w2 ⟨rfl, b2⟩; obtain ⟨hcw, _⟩ := bcellE b2))
  go_wp2_with fail
  go_ret
  exact ⟨rfl, Below.call b2 (below_drewE (by ((repeat (first | refine Below.alloc ?_ (by first | omega | (simp; done) | (simp; omega)) _ | refine Below.setCell ?_ (by first | omega | (simp; done) | (simp; omega)) _)); first | exact Below.refl _ _ | exact Below.refl _ _)))⟩

set_option maxRecDepth 100000 in
set_option maxHeartbeats 2000000 in
theorem indexRu (a : Option Addr) (c : Nat) (xs : List Ru) (n : ByteArray) (nb : Nat) (w : World) (hx : Sl 6 RRu 0 w a c xs) (hnb : w.cell? ⟨nb, 0, none⟩ = some (.string n)) (hlt0 : nb < w.heap.size) :
    Calls Tryz.prog 88 #[.slice a xs.length c, .func (.func 129) #[] #[.pointer (some ⟨nb, 0, none⟩)]] w fun e w' =>
      e = .returned (.int .i64 (findAt Ru.name xs n)) ∧ Below w.heap.size w w' := by
  have hl := hx.len
  have HX := Lib.hid (fun w' (hb : Below w.heap.size w w') => hx.kept goodRu (Kept.below hb))
  have HN := Lib.hid (fun w' (hb : Below w.heap.size w w') => (And.intro ((hb.cell (p := ⟨nb, 0, none⟩) hlt0).trans hnb) (Nat.lt_of_lt_of_le hlt0 hb.size)))
  clear hx
  go_enter Tryz.func88, Tryz.ntmps88
  go_wp2
  go_loopw [8] (fun i wr => ∃ k : Nat, k ≤ xs.length ∧ i = .int .i64 k ∧ Hid (∀ m (hm : m < xs.length), m < k → (xs[m].name.toList == n.toList) = false) ∧ Below w.heap.size w wr) (fun i _ => xs.length - (intOf i).toNat)
  case atStart => exact ⟨0, Nat.zero_le _, rfl, fun m h hm => absurd hm (by omega), Below.refl _ _⟩
  case round =>
    obtain ⟨k, hk, rfl, hall, hb⟩ := hrel
    by_cases hlt : k < xs.length
    · obtain ⟨b, off, vs, rfl, hbl, hcs, hR⟩ := (HX.out _ hb).spot hlt
      obtain ⟨hn1, hn2⟩ := HN.out _ hb
      have HR := hR
      obtain ⟨a0, c0, a1, c1, a2, c2, rfl, _⟩ := hR
      have hc0 : wr.cell? ⟨b, off + k * 6, none⟩ = some (.string xs[k].name) := hcs 0 (by simp)
      have hc1 : wr.cell? ⟨b, off + k * 6 + 1, none⟩ = some (.int .i64 xs[k].kind) := hcs 1 (by simp)
      have hc2 : wr.cell? ⟨b, off + k * 6 + 2, none⟩ = some (.slice a0 xs[k].cols.length c0) := hcs 2 (by simp)
      have hc3 : wr.cell? ⟨b, off + k * 6 + 3, none⟩ = some (.slice a1 xs[k].expr.length c1) := hcs 3 (by simp)
      have hc4 : wr.cell? ⟨b, off + k * 6 + 4, none⟩ = some (.string xs[k].table) := hcs 4 (by simp)
      have hc5 : wr.cell? ⟨b, off + k * 6 + 5, none⟩ = some (.slice a2 xs[k].to.length c2) := hcs 5 (by simp)
      have HK := Lib.hid HR
      clear HR hcs
      go_wp2_with fail
      refine (isRu _ xs[k] nb n _ HK.out hn1 hn2).mono ?_
      rintro e w2 ⟨rfl, hb2⟩
      have HB2 := Lib.hid (hb.trans (hb2.mono hb.size))
      clear hb2
      cases he : (xs[k].name.toList == n.toList) with
      | true =>
        have HE := Lib.hid (findAt_hit Ru.name xs n k hlt hall.out he)
        clear he
        go_wp2_with fail
        go_ret
        exact ⟨by rw [HE.out]; rfl, HB2.out⟩
      | false =>
        have HE := Lib.hid he
        clear he
        go_wp2_with fail
        go_roundw
        case rel => exact ⟨k + 1, by omega, by go_num, fun m hm h1 => by
          rcases Nat.lt_or_ge m k with h2 | h2
          · exact hall.out m hm h2
          · obtain rfl : m = k := by omega
            exact HE.out, HB2.out⟩
        case measure => simp [intOf]; omega
    · have HE := Lib.hid (findAt_miss Ru.name xs n fun m hm => hall.out m hm (by omega))
      go_wp2_with fail
      go_ret
      exact ⟨by rw [HE.out]; rfl, hb⟩

set_option maxHeartbeats 1000000 in
theorem placeRu (a : Option Addr) (c : Nat) (xs : List Ru) (n : ByteArray) (w : World) (hx : Sl 6 RRu 0 w a c xs) :
    Calls Tryz.prog 107 #[.slice a xs.length c, .string n] w fun e w' => e = .returned (.int .i64 (findAt Ru.name xs n)) ∧ Below w.heap.size w w' := by
  have hmf : ∀ (fn : Fn) (first cap : Array Value) (w : World), (Instr.makeFunc fn first cap).run Tryz.prog w = .ok (.func fn first cap) w := fun _ _ _ _ => rfl
  have HX := Lib.hid (fun w' (hb : Below w.heap.size w w') => hx.kept goodRu (Kept.below hb))
  clear hx
  go_enter Tryz.func107, Tryz.ntmps107
  go_wp2_with fail
  refine (indexRu a c xs n w.heap.size _ (HX.out _ (by ((repeat (first | refine Below.alloc ?_ (by first | omega | (simp; done) | (simp; omega)) _ | refine Below.setCell ?_ (by first | omega | (simp; done) | (simp; omega)) _)); first | exact Below.refl _ _ | exact Below.refl _ _))) (by simp [go_sem]) (by simp)).mono ?_
  rintro e w2 ⟨rfl, b2⟩
  have B2 := Lib.hid (show Below w.heap.size w w2 from Below.call b2 (by ((repeat (first | refine Below.alloc ?_ (by first | omega | (simp; done) | (simp; omega)) _ | refine Below.setCell ?_ (by first | omega | (simp; done) | (simp; omega)) _)); first | exact Below.refl _ _ | exact Below.refl _ _)))
  clear b2
  go_wp2_with fail
  go_ret
  exact ⟨rfl, B2.out⟩

end Go.Proofs.YtjjdcdnaonfnmaaGreat
