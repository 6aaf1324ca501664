/- The program's classes of bytes. -/
/- The model's quoted texts and names. -/
/- The model's signs. -/
/- The model's one word at a place. -/
/- The program's lexer: its small methods. -/
/- The program's lexer: take. -/
/- Words come back from how they are spelt: plain mathematics. -/
import Derived.Test.YtjjdcdnaonfnmaaGreatDoorMClone
import Derived.Deep.MidRow
import Derived.Deep.Cut
import Derived.Test.YtjjdcdnaonfnmaaGreatDoorMMem
import Derived.Test.YtjjdcdnaonfnmaaGreatDoorMShelf
import Derived.Deep.RegionHeld3
import Derived.Deep.DrawnRows
namespace Go.Proofs.YtjjdcdnaonfnmaaGreatDoor
open Go.RowKit

/-- The array holds f. -/
def Cls (cs : Array Value) (f : Nat → Int) : Prop := cs.size = 256 ∧ ∀ i, i < 256 → cs[i]? = some (.int .i64 (f i))

def setm (f : Nat → Int) (l : List UInt8) (av : Int) (i : Nat) : Int := if i ∈ l.map (·.toNat) then av else f i

theorem Cls.set {cs : Array Value} {f : Nat → Int} (h : Cls cs f) {l : List UInt8} {b : UInt8} {av : Int} {g : Nat → Int} (hf : f = setm g l av) : Cls (cs.setIfInBounds b.toNat (.int .i64 av)) (setm g (l ++ [b]) av) := by
  obtain ⟨h1, h2⟩ := h
  refine ⟨by simpa using h1, fun i hi => ?_⟩
  have hb := UInt8.toNat_lt b
  by_cases e : i = b.toNat
  · subst e
    rw [Array.getElem?_setIfInBounds_self, if_pos (by omega)]
    simp [setm]
  · rw [Array.getElem?_setIfInBounds_ne (by omega), h2 i hi, hf]
    simp [setm, e]

theorem Cls.one {cs : Array Value} {f : Nat → Int} (h : Cls cs f) {j : Nat} (hj : j < 256) (av : Int) : Cls (cs.setIfInBounds j (.int .i64 av)) (fun i => if i = j then av else f i) := by
  obtain ⟨h1, h2⟩ := h
  refine ⟨by simpa using h1, fun i hi => ?_⟩
  by_cases e : i = j
  · subst e
    rw [Array.getElem?_setIfInBounds_self, if_pos (by omega)]
    simp
  · rw [Array.getElem?_setIfInBounds_ne (by omega), h2 i hi]
    simp [e]

theorem Cls.cell {w : World} {g : Nat} {cs : Array Value} {f : Nat → Int} {t : TypeId} (h : Cls cs f) (hg : w.heap[g]? = some (.cells cs t (0, 0))) {i : Nat} (hi : i < 256) : w.cell? ⟨g, i, none⟩ = some (.int .i64 (f i)) := by
  rw [cell_of_row _ _ _ _ _ _ hg]; exact h.2 i hi

set_option maxHeartbeats 1000000 in
theorem implMark (g : Nat) (cs : Array Value) (f : Nat → Int) (s : ByteArray) (av : Int) (w : World) (hg : w.heap[g]? = some (.cells cs 48 (0, 0))) (hc : Cls cs f) (hs : s.size ≤ 256) :
    Calls Tryz.prog 44 #[.pointer (some ⟨g, 0, none⟩), .string s, .int .i64 av] w fun e w' => e = .returned (.tuple #[]) ∧ ∃ cs', w'.heap[g]? = some (.cells cs' 48 (0, 0)) ∧ Cls cs' (setm f s.data.toList av) ∧ w.grownBy w' (some g) := by
  have hlt : g < w.heap.size := by
    rcases Nat.lt_or_ge g w.heap.size with hlt | hge
    · exact hlt
    · rw [Array.getElem?_eq_none hge] at hg; cases hg
  obtain ⟨W, cap, hcv, hbW, hrow, hcap⟩ := convTextRow w s
  have hgW : W.heap[g]? = some (.cells cs 48 (0, 0)) := (hbW.block g hlt).trans hg
  have hll : s.data.toList.length = s.size := by simp
  have HG := Lib.hid hgW
  have HC := Lib.hid hc
  have HROW := Lib.hid hrow
  have HLL := Lib.hid hll
  have hgr : w.grownBy W (some g) := ⟨hbW.os, hbW.tape, hbW.output, hbW.size, fun k hk _ => hbW.block k hk⟩
  have hltR := hrow.lt
  generalize hR : w.heap.size = R at *
  have HR := Lib.hid hR
  clear hg hc hgW hrow hll hbW hR
  go_enter Tryz.func44, Tryz.ntmps44
  go_wp2_with fail
  go_loopw [11] (fun i wr => ∃ (k : Nat) (c : Array Value), k ≤ s.size ∧ i = .int .i64 k ∧ Hid (wr.heap[g]? = some (.cells c 48 (0, 0))) ∧ Cls c (setm f (s.data.toList.take k) av) ∧ RowB wr R s.data.toList ∧ w.grownBy wr (some g)) (fun i _ => s.size - (intOf i).toNat)
  case atStart => exact ⟨0, cs, Nat.zero_le _, rfl, HG, by have e : setm f [] av = f := (by funext i; simp [setm]); rw [List.take_zero, e]; exact HC.out, HROW.out, hgr⟩
  case round =>
    obtain ⟨k, c, hk, rfl, hgk, hck, hrow, hgrk⟩ := hrel
    by_cases hlt1 : k < s.size
    · have hkL : k < s.data.toList.length := by rw [HLL.out]; exact hlt1
      have hcell := hrow.cell hkL
      have hb := byte_le s.data.toList[k]
      have hb' : s.data.toList[k].toNat < 256 := by omega
      have hcc := hck.cell hgk.out hb'
      have hff : ∀ j, wr.frozen? ⟨g, j, none⟩ = false := fun j => frozen_of_row _ _ _ _ _ hgk.out
      have hfj := hff s.data.toList[k].toNat
      have HNEW := Lib.hid (heap_setCell_same wr g s.data.toList[k].toNat _ _ (.int .i64 av) hgk.out)
      have HCS := Lib.hid (hck.set (b := s.data.toList[k]) rfl)
      have HT : Hid (s.data.toList.take (k + 1) = s.data.toList.take k ++ [s.data.toList[k]]) := List.take_succ_eq_append_getElem hkL
      have hrow2 : RowB (wr.setCell ⟨g, s.data.toList[k].toNat, none⟩ (.int .i64 av)) R s.data.toList := by
        obtain ⟨a, fz, h1, h2⟩ := hrow
        exact ⟨a, fz, (Below.heap_setCell _ _ _ _ (by show R ≠ g; omega)).trans h1, h2⟩
      have hgr2 : w.grownBy (wr.setCell ⟨g, s.data.toList[k].toNat, none⟩ (.int .i64 av)) (some g) := ⟨hgrk.os, hgrk.tape, hgrk.output, by simpa [World.setCell] using hgrk.size, fun i hi hne => (Below.heap_setCell _ _ _ _ (fun e => hne (by rw [e]))).trans (hgrk.block i hi hne)⟩
      have HROW2 := Lib.hid hrow2
      have HGR2 := Lib.hid hgr2
      clear hff hrow hck hrow2 hgr2 hgrk
      generalize s.data.toList[k] = b at *
      go_wp2_with fail
      go_roundw
      case rel => exact ⟨k + 1, _, by omega, by go_num, HNEW, by rw [HT.out]; exact HCS.out, HROW2.out, HGR2.out⟩
      case measure => simp [intOf]; omega
    · obtain rfl : k = s.size := by omega
      have HT : Hid (s.data.toList.take s.size = s.data.toList) := List.take_of_length_le (by rw [HLL.out]; exact Nat.le_refl _)
      rw [HT.out] at hck
      go_wp2_with fail
      go_end0
      exact ⟨rfl, c, hgk.out, hck, hgrk⟩

theorem zero256 : Tryz.zeroCells48 = Array.replicate 256 (.int .i64 0) := by kernel_rfl
theorem clsZero : Cls Tryz.zeroCells48 (fun _ => 0) := by
  rw [zero256]
  exact ⟨by simp, fun i hi => by simp [hi]⟩

def blankT4 : ByteArray := ⟨#[32, 9, 10, 13]⟩
def letterT : ByteArray := ⟨#[65, 66, 67, 68, 69, 70, 71, 72, 73, 74, 75, 76, 77, 78, 79, 80, 81, 82, 83, 84, 85, 86, 87, 88, 89, 90, 97, 98, 99, 100, 101, 102, 103, 104, 105, 106, 107, 108, 109, 110, 111, 112, 113, 114, 115, 116, 117, 118, 119, 120, 121, 122, 95]⟩
def digitT : ByteArray := ⟨#[48, 49, 50, 51, 52, 53, 54, 55, 56, 57]⟩
def signT : ByteArray := ⟨#[40, 41, 44, 59, 61, 60, 62, 43, 45, 42, 46]⟩

/-- The class of a byte, as the array is filled. -/
def classA (i : Nat) : Int :=
  (fun i => if i = 39 then 5 else (fun i => if i = 34 then 4 else setm (setm (setm (setm (fun _ => 0) blankT4.data.toList 1) letterT.data.toList 2) digitT.data.toList 3) signT.data.toList 6 i) i) i

/-- The class of a byte. -/
def clB (b : UInt8) : Int := if blankB b then 1 else if letterB b then 2 else if digitB b then 3 else if b.toNat = 34 then 4 else if b.toNat = 39 then 5 else if signB b then 6 else 0

theorem class_all : ((List.range 256).all fun n => classA n == clB (UInt8.ofNat n)) = true := by kernel_rfl

theorem class_eq (b : UInt8) : classA b.toNat = clB b := by
  have h := List.all_eq_true.1 class_all b.toNat (List.mem_range.2 (UInt8.toNat_lt b))
  rw [beq_iff_eq] at h
  rw [h]
  simp

theorem belowCells {B : Nat} {a w : World} (h : Below B a w) {b : Nat} (hb : B ≤ b) : ∀ (o : Nat) (vs : List Value), Below B a (w.setCells b o vs)
  | _, [] => h
  | o, v :: r => by
    rw [World.setCells]
    exact belowCells (h.setCell (p := ⟨b, o, none⟩) hb v) hb (o + 1) r

theorem heap_lt {w : World} {g : Nat} {o : Obj} (h : w.heap[g]? = some o) : g < w.heap.size := by
  rcases Nat.lt_or_ge g w.heap.size with hlt | hge
  · exact hlt
  · rw [Array.getElem?_eq_none hge] at h; cases h

set_option maxHeartbeats 2000000 in
set_option maxRecDepth 100000 in
theorem implClasses (w : World) : Calls Tryz.prog 22 #[] w fun e w' => ∃ cs, e = .returned (.agg cs) ∧ Cls cs classA ∧ Below w.heap.size w w' := by
  have b0 : Below w.heap.size w ((w.alloc (.cells Tryz.zeroCells48 48)).alloc (.cells Tryz.zeroCells48 48)) := ((Below.refl _ _).alloc (Nat.le_refl _) _).alloc (by simp) _
  have g0 : ((w.alloc (.cells Tryz.zeroCells48 48)).alloc (.cells Tryz.zeroCells48 48)).heap[w.heap.size + 1]? = some (.cells Tryz.zeroCells48 48 (0, 0)) := by
    have := heap_alloc_new (w.alloc (.cells Tryz.zeroCells48 48)) (.cells Tryz.zeroCells48 48)
    simpa using this
  have r0 : ((w.alloc (.cells Tryz.zeroCells48 48)).alloc (.cells Tryz.zeroCells48 48)).heap[w.heap.size]? = some (.cells Tryz.zeroCells48 48 (0, 0)) := by
    rw [Below.heap_alloc _ _ _ (by simp)]; exact heap_alloc_new _ _
  go_enter Tryz.func22, Tryz.ntmps22
  go_wp2_with fail
  refine (implMark (w.heap.size + 1) _ _ blankT4 1 _ g0 clsZero (by decide)).mono ?_
  rintro e w1 ⟨rfl, c1, g1, k1, G1⟩
  have b1 : Below w.heap.size w w1 := b0.grown G1 (by simp; omega) (fun k hk => by cases hk; omega)
  have r1 := (G1.block w.heap.size (by simp; omega) (fun e => by simp at e)).trans r0
  clear g0 r0 b0 G1
  have HG := Lib.hid g1
  have HR := Lib.hid r1
  clear g1 r1
  go_wp2_with fail
  refine (implMark (w.heap.size + 1) _ _ letterT 2 _ HG.out k1 (by decide)).mono ?_
  rintro e w2 ⟨rfl, c2, g2, k2, G2⟩
  have b2 : Below w.heap.size w w2 := b1.grown G2 b1.size (fun k hk => by cases hk; omega)
  have HR2 := Lib.hid ((G2.block w.heap.size (heap_lt HR.out) (fun e => by simp at e)).trans HR.out)
  have HG2 := Lib.hid g2
  clear g2 HG HR G2 b1 k1
  go_wp2_with fail
  refine (implMark (w.heap.size + 1) _ _ digitT 3 _ HG2.out k2 (by decide)).mono ?_
  rintro e w3 ⟨rfl, c3, g3, k3, G3⟩
  have b3 : Below w.heap.size w w3 := b2.grown G3 b2.size (fun k hk => by cases hk; omega)
  have HR3 := Lib.hid ((G3.block w.heap.size (heap_lt HR2.out) (fun e => by simp at e)).trans HR2.out)
  have HG3 := Lib.hid g3
  clear g3 HG2 HR2 G3 b2 k2
  go_wp2_with fail
  refine (implMark (w.heap.size + 1) _ _ signT 6 _ HG3.out k3 (by decide)).mono ?_
  rintro e w4 ⟨rfl, c4, g4, k4, G4⟩
  have b4 : Below w.heap.size w w4 := b3.grown G4 b3.size (fun k hk => by cases hk; omega)
  have HR4 := Lib.hid ((G4.block w.heap.size (heap_lt HR3.out) (fun e => by simp at e)).trans HR3.out)
  have HG4 := Lib.hid g4
  have x34 := k4.cell g4 (i := 34) (by omega)
  have x39 := k4.cell g4 (i := 39) (by omega)
  have ff : ∀ j, w4.frozen? ⟨w.heap.size + 1, j, none⟩ = false := fun j => frozen_of_row _ _ _ _ _ g4
  have f34 := ff 34
  have f39 := ff 39
  clear g4 HG3 HR3 G4 b3 k3 ff
  go_upto_region 8 with (fail)
  have g5 : ((w4.setCell ⟨w.heap.size + 1, 34, none⟩ (.int .i64 4)).setCell ⟨w.heap.size + 1, 39, none⟩ (.int .i64 5)).heap[w.heap.size + 1]? = some (.cells ((c4.setIfInBounds 34 (.int .i64 4)).setIfInBounds 39 (.int .i64 5)) 48 (0, 0)) :=
    heap_setCell_same _ _ _ _ _ _ (heap_setCell_same _ _ _ _ _ _ HG4.out)
  have k5 : Cls ((c4.setIfInBounds 34 (.int .i64 4)).setIfInBounds 39 (.int .i64 5)) classA := (k4.one (j := 34) (by omega) 4).one (j := 39) (by omega) 5
  have b5 : Below w.heap.size w ((w4.setCell ⟨w.heap.size + 1, 34, none⟩ (.int .i64 4)).setCell ⟨w.heap.size + 1, 39, none⟩ (.int .i64 5)) := (b4.setCell (p := ⟨w.heap.size + 1, 34, none⟩) (by simp) _).setCell (p := ⟨w.heap.size + 1, 39, none⟩) (by simp) _
  have r5 : ((w4.setCell ⟨w.heap.size + 1, 34, none⟩ (.int .i64 4)).setCell ⟨w.heap.size + 1, 39, none⟩ (.int .i64 5)).heap[w.heap.size]? = some (.cells Tryz.zeroCells48 48 (0, 0)) := by
    rw [Below.heap_setCell _ _ _ _ (by simp), Below.heap_setCell _ _ _ _ (by simp)]; exact HR4.out
  generalize ((w4.setCell ⟨w.heap.size + 1, 34, none⟩ (.int .i64 4)).setCell ⟨w.heap.size + 1, 39, none⟩ (.int .i64 5)) = w5 at *
  generalize ((c4.setIfInBounds 34 (.int .i64 4)).setIfInBounds 39 (.int .i64 5)) = c5 at *
  clear x34 x39 f34 f39 k4 b4 HG4 HR4
  have hsz : c5.size = 256 := k5.1
  have hrange : w5.rangeAt (w.heap.size + 1) 0 c5.toList := fun j v hv => by rw [cell_of_row _ _ _ _ _ _ g5]; simpa using hv
  have hthere : w5.there w.heap.size 0 c5.size := fun j hj => by
    rw [cell_of_row _ _ _ _ _ _ r5]
    refine ⟨?_, frozen_of_row _ _ _ _ _ r5⟩
    rw [zero256]
    have : j < 256 := by omega
    simp [this]
  have hone : c5.all (·.oneCell') = true := by
    rw [Array.all_eq_true]
    intro i hi
    have := k5.2 i (by omega)
    rw [Array.getElem?_eq_getElem hi] at this
    rw [Option.some.inj this]
    rfl
  have hinfo : (Tryz.prog.info? 48).map (·.size) = some 256 := by kernel_rfl
  go_wp2_with (first
    | (with_reducible refine wpList_load_mid rfl 48 (.tmp 1) rfl (w.heap.size + 1) 0 rfl c5.toList _ hrange Tryz.underlying48 rfl (by rw [Array.length_toList, hsz]; exact hinfo) ?_)
    | (with_reducible refine wpList_store_mid rfl 48 (.tmp 0) (.tmp 8) rfl w.heap.size 0 c5 rfl rfl hthere (by rw [hsz]; exact hinfo) hone ?_))
  have hres : (loadVar 48 ⟨w.heap.size, 0, none⟩).run Tryz.prog (w5.setCells w.heap.size 0 c5.toList) = .ok (.agg c5) (w5.setCells w.heap.size 0 c5.toList) := by
    have := run_loadVar_mid (P := Tryz.prog) (w5.setCells w.heap.size 0 c5.toList) w.heap.size 0 48 c5.toList _ (World.rangeAt_setCells_same w5 w.heap.size 0 c5.toList (by simpa using hthere)) Tryz.underlying48 rfl (by rw [Array.length_toList, hsz]; exact hinfo)
    simpa using this
  exact bodyPost_ret (v := .agg c5) (by simp [results, Tryz.results22, hres, Act.put, asAddr]) rfl ⟨c5, rfl, k5, belowCells b5 (Nat.le_refl _) _ _⟩

/-- The lexer in block g: over the text s, at k. -/
structure LexS (w : World) (g : Nat) (s : ByteArray) (k : Nat) : Prop where
  ex : ∃ cs, w.heap[g]? = some (.cells cs 51 (0, 0)) ∧ cs.size = 258 ∧ cs[0]? = some (.string s) ∧ cs[1]? = some (.int .i64 (k : Int)) ∧ ∀ b : UInt8, cs[2 + b.toNat]? = some (.int .i64 (clB b))

theorem LexS.lt {w : World} {g : Nat} {s : ByteArray} {k : Nat} (h : LexS w g s k) : g < w.heap.size := by
  obtain ⟨cs, hg, _⟩ := h.ex
  exact heap_lt hg
theorem LexS.c0 {w : World} {g : Nat} {s : ByteArray} {k : Nat} (h : LexS w g s k) : w.cell? ⟨g, 0, none⟩ = some (.string s) := by
  obtain ⟨cs, hg, _, h0, _⟩ := h.ex
  rw [cell_of_row _ _ _ _ _ _ hg]; exact h0
theorem LexS.c1 {w : World} {g : Nat} {s : ByteArray} {k : Nat} (h : LexS w g s k) : w.cell? ⟨g, 1, none⟩ = some (.int .i64 (k : Int)) := by
  obtain ⟨cs, hg, _, _, h1, _⟩ := h.ex
  rw [cell_of_row _ _ _ _ _ _ hg]; exact h1
theorem LexS.cl {w : World} {g : Nat} {s : ByteArray} {k : Nat} (h : LexS w g s k) (b : UInt8) : w.cell? ⟨g, 2 + b.toNat, none⟩ = some (.int .i64 (clB b)) := by
  obtain ⟨cs, hg, _, _, _, h2⟩ := h.ex
  rw [cell_of_row _ _ _ _ _ _ hg]; exact h2 b
theorem LexS.f1 {w : World} {g : Nat} {s : ByteArray} {k : Nat} (h : LexS w g s k) : w.frozen? ⟨g, 1, none⟩ = false := by
  obtain ⟨cs, hg, _⟩ := h.ex
  exact frozen_of_row _ _ _ _ _ hg
theorem LexS.below {w w' : World} {g : Nat} {s : ByteArray} {k : Nat} (h : LexS w g s k) {B : Nat} (hb : Below B w w') (hB : g < B) : LexS w' g s k := by
  obtain ⟨cs, hg, r⟩ := h.ex
  exact ⟨cs, (hb.block g hB).trans hg, r⟩
theorem LexS.drewN {w : World} {g : Nat} {s : ByteArray} {k : Nat} (h : LexS w g s k) (n : Nat) : LexS (w.drewN n) g s k := h.below (below_drewN (Below.refl w.heap.size w) n) h.lt
theorem LexS.set {w : World} {g : Nat} {s : ByteArray} {k : Nat} (h : LexS w g s k) (m : Nat) : LexS (w.setCell ⟨g, 1, none⟩ (.int .i64 (m : Int))) g s m := by
  obtain ⟨cs, hg, hs, h0, _, h2⟩ := h.ex
  refine ⟨_, heap_setCell_same w g 1 _ _ _ hg, by simpa using hs, ?_, ?_, fun b => ?_⟩
  · rw [Array.getElem?_setIfInBounds_ne (by omega)]; exact h0
  · rw [Array.getElem?_setIfInBounds_self, if_pos (by omega)]
  · rw [Array.getElem?_setIfInBounds_ne (by omega)]; exact h2 b
theorem setGrown (w : World) (g : Nat) (v : Value) : w.grownBy (w.setCell ⟨g, 1, none⟩ v) (some g) :=
  ⟨rfl, rfl, rfl, by simp [World.setCell], fun k _ hne => Below.heap_setCell _ _ _ _ (fun e => hne (by rw [e]))⟩

/-- The lexer moves on to m; nothing else that was there turns. -/
def Moved (w : World) (g : Nat) (s : ByteArray) (m : Nat) (w' : World) : Prop := LexS w' g s m ∧ w.grownBy w' (some g)

end Go.Proofs.YtjjdcdnaonfnmaaGreatDoor

namespace Go.Proofs.YtjjdcdnaonfnmaaGreatDoor
open Go.RowKit

/-- What is between quotes, as the calls answer it. -/
def qText : Option (List UInt8 × Nat) → ByteArray
  | some x => ⟨x.1.toArray⟩
  | none => ⟨#[]⟩
def qLen : Option (List UInt8 × Nat) → Nat
  | some x => 1 + x.2
  | none => 0

def qShift (l : List UInt8) (d : Nat) (o : Option (List UInt8 × Nat)) : Option (List UInt8 × Nat) := o.map fun x => (l ++ x.1, d + x.2)

theorem quoted_ne {q b : UInt8} {r : List UInt8} (h : b ≠ q) : quoted q (b :: r) = qShift [b] 1 (quoted q r) := by
  cases r with
  | nil => simp [quoted, h, qShift]
  | cons c r => rw [quoted, if_neg h]; rfl

theorem quoted_two {q b c : UInt8} {r : List UInt8} (h : b = q) (h' : c = q) : quoted q (b :: c :: r) = qShift [b] 2 (quoted q r) := by
  rw [quoted, if_pos h, if_pos h']; rfl

theorem quoted_end {q b : UInt8} (h : b = q) : quoted q [b] = some ([], 1) := by rw [quoted, if_pos h]
theorem quoted_stop {q b c : UInt8} {r : List UInt8} (h : b = q) (h' : c ≠ q) : quoted q (b :: c :: r) = some ([], 1) := by
  rw [quoted, if_pos h, if_neg h']

theorem qShift_shift (l m : List UInt8) (d e : Nat) (o : Option (List UInt8 × Nat)) : qShift l d (qShift m e o) = qShift (l ++ m) (d + e) o := by
  cases o <;> simp [qShift, Nat.add_assoc]

theorem quoted_ne_at (s : ByteArray) (q : UInt8) (k : Nat) (h : k < s.size) (hb : s[k] ≠ q) : quoted q (s.data.toList.drop k) = qShift [s[k]] 1 (quoted q (s.data.toList.drop (k + 1))) := by
  rw [drop_at s k h]; exact quoted_ne hb
theorem quoted_two_at (s : ByteArray) (q : UInt8) (k : Nat) (h : k < s.size) (hb : s[k] = q) (h1 : k + 1 < s.size) (hc : s[k + 1] = q) : quoted q (s.data.toList.drop k) = qShift [s[k]] 2 (quoted q (s.data.toList.drop (k + 2))) := by
  rw [drop_at s k h, drop_at s (k + 1) h1]; exact quoted_two hb hc
theorem quoted_end_at (s : ByteArray) (q : UInt8) (k : Nat) (h : k < s.size) (hb : s[k] = q) (hs : s.size = k + 1 ∨ ∃ h1 : k + 1 < s.size, s[k + 1] ≠ q) : quoted q (s.data.toList.drop k) = some ([], 1) := by
  rw [drop_at s k h]
  rcases hs with h1 | ⟨h1, hc⟩
  · rw [List.drop_of_length_le (by simp; omega)]; exact quoted_end hb
  · rw [drop_at s (k + 1) h1]; exact quoted_stop hb hc
theorem quoted_none_at (s : ByteArray) (q : UInt8) : quoted q (s.data.toList.drop s.size) = none := by
  rw [List.drop_of_length_le (by simp)]; rfl

theorem byte_bneT {a b : UInt8} (h : a ≠ b) : (((a.toNat : Int)) != (b.toNat : Int)) = true := by
  rw [bne_iff_ne]; intro e; exact h (UInt8.toNat_inj.1 (by omega))
theorem byte_bneF {a b : UInt8} (h : a = b) : (((a.toNat : Int)) != (b.toNat : Int)) = false := by subst h; simp

theorem cellNew (w : World) (v : Value) (t : TypeId) : (w.alloc (.cells #[v] t)).cell? ⟨w.heap.size, 0, none⟩ = some v := by
  rw [cell_of_row _ _ _ _ _ _ (heap_alloc_new w _)]; rfl
theorem size_alloc1 (w : World) (o : Obj) : (w.alloc o).heap.size = w.heap.size + 1 := by simp

theorem qEnd (l : List UInt8) (k i : Nat) (h : i + 1 ≤ k) : Ending.returned (.tuple #[.string ⟨l.toArray⟩, .int .i64 ((k : Int) + 1 - (i : Int))]) = .returned (.tuple #[.string (qText (qShift l (k - (i + 1)) (some ([], 1)))), .int .i64 (qLen (qShift l (k - (i + 1)) (some ([], 1))) : Nat)]) := by
  have e1 : qText (qShift l (k - (i + 1)) (some ([], 1))) = ⟨l.toArray⟩ := by simp [qShift, qText]
  have e2 : ((qLen (qShift l (k - (i + 1)) (some ([], 1))) : Nat) : Int) = (k : Int) + 1 - (i : Int) := by simp [qShift, qLen]; omega
  rw [e1, e2]

theorem OwnB.drewN {w : World} {B : Nat} {a : Option Addr} {c : Nat} {l : List UInt8} (h : OwnB w B a c l) (n : Nat) : OwnB (w.drewN n) B a c l :=
  h.below (below_drewN (Below.refl _ _) n)

theorem name_zero (s : ByteArray) (k : Nat) (h : k < s.size) (hb : s[k].toNat = 0) : nameB s.data.toList = false := by
  have hm : s.data.toList.contains 0 = true := by
    rw [List.contains_iff_mem, List.mem_iff_getElem]
    exact ⟨k, by simpa using h, UInt8.toNat_inj.1 hb⟩
  unfold nameB; rw [hm]; simp

theorem name_noZero (s : ByteArray) (h : ∀ (k : Nat) (hk : k < s.size), s[k].toNat ≠ 0) : nameB s.data.toList = inI (s.size : Int) 1 40 := by
  have hm : s.data.toList.contains 0 = false := by
    rw [Bool.eq_false_iff]
    intro hc
    rw [List.contains_iff_mem, List.mem_iff_getElem] at hc
    obtain ⟨k, hk, e⟩ := hc
    have hk' : k < s.size := by simpa using hk
    exact h k hk' (by have : s[k] = 0 := e; rw [this]; rfl)
  have hl : s.data.toList.length = s.size := by simp
  unfold nameB inI
  rw [hm, hl, Bool.eq_iff_iff]
  simp only [Bool.and_eq_true, decide_eq_true_eq, Bool.not_false, and_true]
  omega

set_option maxHeartbeats 1000000 in
theorem specName (s : ByteArray) (w : World) (hs : s.size ≤ 1048576) :
    Calls Tryz.prog 43 #[.string s] w fun e w' => e = .returned (.bool (nameB s.data.toList)) ∧ w = w' := by
  go_enter Tryz.func43, Tryz.ntmps43
  go_wp2_with fail
  go_loop [3] (fun i => ∃ k : Nat, k ≤ s.size ∧ i = .int .i64 k ∧ Hid (∀ (j : Nat) (hj : j < s.size), j < k → s[j].toNat ≠ 0)) (fun i => s.size - (intOf i).toNat)
  case atStart => exact ⟨0, Nat.zero_le _, rfl, fun j _ h => by omega⟩
  case round =>
    obtain ⟨k, hk, rfl, hall⟩ := hrel
    by_cases hlt : k < s.size
    · have hby := byte_le s[k]
      by_cases h0 : s[k].toNat = 0
      · have HN := Lib.hid (name_zero s k hlt h0)
        have T := beqT (b := s[k]) (n := 0) (by omega)
        clear h0
        go_wp2_with fail
        go_ret
        exact ⟨by rw [HN.out]; rfl, rfl⟩
      · have HA : Hid (∀ (j : Nat) (hj : j < s.size), j < k + 1 → s[j].toNat ≠ 0) := fun j hj hjk => by
          by_cases e : j = k
          · subst e; exact h0
          · exact hall.out j hj (by omega)
        have T := beqF (b := s[k]) (n := 0) (by omega)
        clear h0
        go_wp2_with fail
        exact ⟨⟨k + 1, by omega, by go_num, HA⟩, by simp [intOf]; omega⟩
    · have HN : Hid (nameB s.data.toList = inI (s.size : Int) 1 40) := name_noZero s (fun j hj => hall.out j hj (by omega))
      go_wp2_with fail
      refine (specIn _ 1 40 _).mono ?_
      rintro e w' ⟨rfl, rfl⟩
      go_wp2_with fail
      go_ret
      exact ⟨by rw [HN.out]; rfl, rfl⟩

end Go.Proofs.YtjjdcdnaonfnmaaGreatDoor

namespace Go.Proofs.YtjjdcdnaonfnmaaGreatDoor
open Go.RowKit

theorem extract_toList (s : ByteArray) (i j : Nat) : (s.extract i j).toList = (s.data.toList.drop i).take (j - i) := by
  rw [Lib.toList_data, ByteArray.data_extract]
  simp [List.drop_take]

theorem extract_two (s : ByteArray) (i : Nat) (h : i + 1 < s.size) : (s.extract i (i + 2)).toList = [s[i], s[i + 1]] := by
  rw [extract_toList, drop_at s i (by omega), drop_at s (i + 1) h, show i + 2 - i = 2 by omega]
  rfl

theorem two_eq (s : ByteArray) (i : Nat) (h : i + 1 < s.size) (a b : UInt8) : ((s.extract i (i + 2)).toList == [a, b]) = (s[i] == a && s[i + 1] == b) := by
  rw [extract_two s i h]
  cases h1 : s[i] == a <;> cases h2 : s[i + 1] == b <;> simp_all

theorem twoCases (a b : UInt8) :
    ((a == 60 && b == 61) = true ∧ twoB a b = true) ∨ ((a == 60 && b == 61) = false ∧ (a == 62 && b == 61) = true ∧ twoB a b = true) ∨
    ((a == 60 && b == 61) = false ∧ (a == 62 && b == 61) = false ∧ (a == 60 && b == 62) = true ∧ twoB a b = true) ∨
    ((a == 60 && b == 61) = false ∧ (a == 62 && b == 61) = false ∧ (a == 60 && b == 62) = false ∧ twoB a b = false) := by
  have e : ∀ (x : UInt8) (n : Nat) (hn : n < 256), (x == UInt8.ofNat n) = (x.toNat == n) := fun x n hn => by
    rw [Bool.eq_iff_iff]
    simp only [beq_iff_eq]
    constructor
    · rintro rfl; rw [UInt8.toNat_ofNat']; omega
    · intro h; apply UInt8.toNat_inj.1; rw [UInt8.toNat_ofNat']; omega
  have a60 : (a == 60) = (a.toNat == 60) := e a 60 (by omega)
  have a62 : (a == 62) = (a.toNat == 62) := e a 62 (by omega)
  have b61 : (b == 61) = (b.toNat == 61) := e b 61 (by omega)
  have b62 : (b == 62) = (b.toNat == 62) := e b 62 (by omega)
  rw [a60, a62, b61, b62]
  unfold twoB
  cases h1 : a.toNat == 60 <;> cases h2 : a.toNat == 62 <;> cases h3 : b.toNat == 61 <;> cases h4 : b.toNat == 62 <;> simp

theorem signN_at (s : ByteArray) (i : Nat) (h : i < s.size) (h2 : s.size = i + 1 ∨ ∃ h1 : i + 1 < s.size, twoB s[i] s[i + 1] = false) : signN (s.data.toList.drop i) = if signB s[i] then 1 else 0 := by
  rw [drop_at s i h]
  rcases h2 with h1 | ⟨h1, h2⟩
  · rw [List.drop_of_length_le (by simp; omega), signN]
  · rw [drop_at s (i + 1) h1, signN, if_neg (by simp [h2])]

theorem signN_two_at (s : ByteArray) (i : Nat) (h : i + 1 < s.size) (h2 : twoB s[i] s[i + 1] = true) : signN (s.data.toList.drop i) = 2 := by
  rw [drop_at s i (by omega), drop_at s (i + 1) h, signN, if_pos h2]

theorem sign_some {b : UInt8} {n : Int} (h : (b.toNat : Int) = n) (hm : n ∈ [(40 : Int), 41, 44, 59, 61, 60, 62, 43, 45, 42, 46]) : signB b = true := by
  unfold signB
  simp only [List.mem_cons, List.not_mem_nil, or_false] at hm
  simp only [List.contains_eq_mem, List.mem_cons, List.not_mem_nil, or_false, decide_eq_true_eq]
  omega

end Go.Proofs.YtjjdcdnaonfnmaaGreatDoor

namespace Go.Proofs.YtjjdcdnaonfnmaaGreatDoor
open Go.RowKit

theorem run_in_at (s : ByteArray) (k : Nat) (h : k < s.size) (hb : moreB s[k] = true) : runN (s.data.toList.drop k) = 1 + runN (s.data.toList.drop (k + 1)) := by
  rw [drop_at s k h]
  unfold runN runL
  rw [List.takeWhile_cons, if_pos hb, List.length_cons]
  omega
theorem run_out_at (s : ByteArray) (k : Nat) (h : k < s.size) (hb : moreB s[k] = false) : runN (s.data.toList.drop k) = 0 := by
  rw [drop_at s k h]
  unfold runN runL
  rw [List.takeWhile_cons, if_neg (by simp [hb])]
  rfl
theorem run_end_at (s : ByteArray) : runN (s.data.toList.drop s.size) = 0 := by
  rw [List.drop_of_length_le (by simp)]; rfl

theorem runL_takeN (l : List UInt8) : runL l = l.take (runN l) := by
  unfold runN runL
  induction l with
  | nil => rfl
  | cons b r ih =>
    rw [List.takeWhile_cons]
    split
    · rw [List.length_cons, List.take_succ_cons, ← ih]
    · rfl

theorem run_extract (s : ByteArray) (i n : Nat) (hn : runN (s.data.toList.drop i) = n) : (s.extract i (i + n)).data.toList = runL (s.data.toList.drop i) := by
  rw [← Lib.toList_data, extract_toList, runL_takeN, hn, show i + n - i = n by omega]

/-- What is answered for the word at a place. -/
def OneAns (s : ByteArray) (i : Nat) (w : World) (e : Ending) (w' : World) : Prop :=
  ∃ (a : Int) (t : ByteArray) (p : Int) (n : Nat), e = .returned (.tuple #[.agg #[.int .i64 a, .string t, .int .i64 p], .int .i64 (n : Int)]) ∧
    (match one (s.data.toList.drop i) with
      | none => n = 0
      | some x => n = x.2.2 ∧ a = (x.1 : Int) ∧ t = ⟨x.2.1.toArray⟩ ∧ p = (i : Int)) ∧ Below w.heap.size w w'

theorem oneAns_some {s : ByteArray} {i : Nat} {w w' : World} {x : Nat × List UInt8 × Nat} (h : one (s.data.toList.drop i) = some x) {t : ByteArray} (ht : t = ⟨x.2.1.toArray⟩) (hb : Below w.heap.size w w') : OneAns s i w (.returned (.tuple #[.agg #[.int .i64 (x.1 : Int), .string t, .int .i64 (i : Int)], .int .i64 (x.2.2 : Int)])) w' :=
  ⟨_, _, _, _, rfl, by rw [h]; exact ⟨rfl, rfl, ht, rfl⟩, hb⟩

theorem oneAns_none {s : ByteArray} {i : Nat} {w w' : World} (h : one (s.data.toList.drop i) = none) (a : Int) (t : ByteArray) (p : Int) (hb : Below w.heap.size w w') : OneAns s i w (.returned (.tuple #[.agg #[.int .i64 a, .string t, .int .i64 p], .int .i64 0])) w' :=
  ⟨a, t, p, 0, rfl, by rw [h], hb⟩

theorem one_word (s : ByteArray) (i : Nat) (h : i < s.size) (hb : letterB s[i] = true) {n : Nat} (hn : runN (s.data.toList.drop i) = n) :
    one (s.data.toList.drop i) = some (0, (runL (s.data.toList.drop i)).map lowB, n) := by
  have e := drop_at s i h
  rw [e] at hn ⊢
  rw [one, if_pos hb, hn]
theorem one_num (s : ByteArray) (i : Nat) (h : i < s.size) (hb : letterB s[i] = false) (hd : digitB s[i] = true) {n : Nat} (hn : runN (s.data.toList.drop i) = n) :
    one (s.data.toList.drop i) = if 0 ≤ readD (runL (s.data.toList.drop i)) then some (2, runL (s.data.toList.drop i), n) else none := by
  have e := drop_at s i h
  rw [e] at hn ⊢
  rw [one, if_neg (by simp [hb]), if_pos hd, hn]
theorem one_name (s : ByteArray) (i : Nat) (h : i < s.size) (hb : s[i].toNat = 34) :
    one (s.data.toList.drop i) = (quoted s[i] (s.data.toList.drop (i + 1))).bind fun x => if nameB x.1 then some (1, x.1, 1 + x.2) else none := by
  have hq : s[i] = 34 := UInt8.toNat_inj.1 hb
  rw [drop_at s i h, one, if_neg (by simp [letterB, hb]), if_neg (by simp [digitB, hb]), if_pos hb, hq]
theorem one_text (s : ByteArray) (i : Nat) (h : i < s.size) (hb : s[i].toNat = 39) :
    one (s.data.toList.drop i) = (quoted s[i] (s.data.toList.drop (i + 1))).bind fun x => if x.1.length ≤ 100 then some (3, x.1, 1 + x.2) else none := by
  have hq : s[i] = 39 := UInt8.toNat_inj.1 hb
  rw [drop_at s i h, one, if_neg (by simp [letterB, hb]), if_neg (by simp [digitB, hb]), if_neg (by omega), if_pos hb, hq]
theorem one_sign_at (s : ByteArray) (i : Nat) (h : i < s.size) (h1 : letterB s[i] = false) (h2 : digitB s[i] = false) (h3 : s[i].toNat ≠ 34) (h4 : s[i].toNat ≠ 39) :
    one (s.data.toList.drop i) = if signN (s.data.toList.drop i) = 0 then none else some (4, (s.data.toList.drop i).take (signN (s.data.toList.drop i)), signN (s.data.toList.drop i)) := by
  have e := drop_at s i h
  rw [e]
  rw [one, if_neg (by simp [h1]), if_neg (by simp [h2]), if_neg h3, if_neg h4]

theorem extract_arr (s : ByteArray) (i n : Nat) : s.extract i (i + n) = ⟨((s.data.toList.drop i).take n).toArray⟩ := by
  have h := extract_toList s i (i + n)
  rw [show i + n - i = n by omega, Lib.toList_data] at h
  apply ByteArray.ext
  rw [← h]

theorem Below.tok {w w' : World} {cs : Array Value} {t : TypeId} (h : Below (w.alloc (.cells cs t)).heap.size (w.alloc (.cells cs t)) w') : Below w.heap.size w w' :=
  ((Below.refl _ _).alloc (Nat.le_refl _) _).trans (h.mono (by simp))

/-- A new word's three cells stand behind a call. -/
theorem tokCells {w w' : World} {a : Int} {t : ByteArray} {p : Int} {T : TypeId} (h : Below (w.alloc (.cells #[.int .i64 a, .string t, .int .i64 p] T)).heap.size (w.alloc (.cells #[.int .i64 a, .string t, .int .i64 p] T)) w') :
    w'.heap[w.heap.size]? = some (.cells #[.int .i64 a, .string t, .int .i64 p] T (0, 0)) := by
  rw [h.block w.heap.size (by simp)]
  exact heap_alloc_new _ _

theorem signN_le2 (l : List UInt8) : signN l ≤ 2 := by
  cases l with
  | nil => simp [signN]
  | cons b r => cases r with
    | nil => rw [signN]; split <;> omega
    | cons c r => rw [signN]; split <;> (try split) <;> omega

theorem signN_len (l : List UInt8) : signN l ≤ l.length := by
  cases l with
  | nil => simp [signN]
  | cons b r => cases r with
    | nil => rw [signN]; split <;> simp
    | cons c r => rw [signN]; simp only [List.length_cons]; split <;> (try split) <;> omega

theorem quoted_len2 {q : UInt8} : ∀ (m : Nat) (l : List UInt8) (x : List UInt8 × Nat), l.length ≤ m → quoted q l = some x → x.2 ≤ l.length ∧ 1 ≤ x.2 ∧ x.1.length + 1 ≤ x.2
  | _, [], x, _, h => by rw [quoted] at h; cases h
  | _, [b], x, _, h => by
    rw [quoted] at h
    split at h
    · cases h; simp
    · cases h
  | 0, b :: c :: r, x, hm, _ => by simp at hm
  | m + 1, b :: c :: r, x, hm, h => by
    have h' : r.length + 1 ≤ m := by simpa using hm
    rw [quoted] at h
    split at h
    · split at h
      · cases hq : quoted q r with
        | none => rw [hq] at h; cases h
        | some y =>
          rw [hq] at h
          cases h
          have := quoted_len2 m r y (by omega) hq
          simp only [List.length_cons]
          omega
      · cases h; simp
    · cases hq : quoted q (c :: r) with
      | none => rw [hq] at h; cases h
      | some y =>
        rw [hq] at h
        cases h
        have := quoted_len2 m (c :: r) y (by simpa using h') hq
        simp only [List.length_cons] at this ⊢
        omega

end Go.Proofs.YtjjdcdnaonfnmaaGreatDoor

namespace Go.Proofs.YtjjdcdnaonfnmaaGreatDoor
open Go.RowKit

theorem quietIs {P : Program} {f : FuncId} {args : Array Value} {w : World} {v v' : Value} (h : Calls P f args w (Quiet w v)) (e : v = v') : Calls P f args w (Quiet w v') := e ▸ h

set_option maxHeartbeats 1000000 in
theorem implMore {w : World} {g : Nat} {s : ByteArray} {k : Nat} (h : LexS w g s k) (hs : s.size ≤ 1048576) (hk : k ≤ 1048577) (v : Bool) (hv : decide (k < s.size) = v) :
    Calls Tryz.prog 24 #[.pointer (some ⟨g, 0, none⟩)] w (Quiet w (.bool v)) := by
  subst hv
  have c0 := h.c0
  have c1 := h.c1
  clear h
  go_enter Tryz.func24, Tryz.ntmps24
  go_wp2_with fail
  go_quiet (fail)
  go_wp2_with fail
  go_ret
  exact ⟨rfl, _, rfl⟩

set_option maxHeartbeats 1000000 in
theorem implHere {w : World} {g : Nat} {s : ByteArray} {k : Nat} (h : LexS w g s k) (hs : s.size ≤ 1048576) (hk : k < s.size) (v : Int) (hv : clB s[k] = v) :
    Calls Tryz.prog 45 #[.pointer (some ⟨g, 0, none⟩)] w (Quiet w (.int .i64 v)) := by
  subst hv
  have c0 := h.c0
  have c1 := h.c1
  have c2 := h.cl s[k]
  have hb := byte_le s[k]
  have h0k : (0 : Int) ≤ (k : Int) := by omega
  have hkk : (k : Int) < (s.size : Int) := by omega
  have h0b : (0 : Int) ≤ (s[k].toNat : Int) := by omega
  have hbb : (s[k].toNat : Int) < 256 := by omega
  clear h
  go_enter Tryz.func45, Tryz.ntmps45
  go_wp2_with fail
  go_quiet (fail)
  go_wp2_with fail
  go_ret
  exact ⟨rfl, _, rfl⟩

theorem byteAll {p : UInt8 → Bool} (h : ((List.range 256).all fun n => p (UInt8.ofNat n)) = true) (b : UInt8) : p b = true := by
  have := List.all_eq_true.1 h b.toNat (List.mem_range.2 (UInt8.toNat_lt b))
  simpa using this
theorem class23 : ((List.range 256).all fun n => moreB (UInt8.ofNat n) == ((clB (UInt8.ofNat n) == 2) || (clB (UInt8.ofNat n) == 3))) = true := by kernel_rfl

set_option maxHeartbeats 1000000 in
theorem implInRun {w : World} {g : Nat} {s : ByteArray} {k : Nat} (h : LexS w g s k) (b : UInt8) (v : Bool) (hv : moreB b = v) :
    Calls Tryz.prog 68 #[.pointer (some ⟨g, 0, none⟩), .int .u8 (b.toNat : Int)] w fun e w' => e = .returned (.bool v) ∧ w = w' := by
  have c2 := h.cl b
  have hb := byte_le b
  have h0b : (0 : Int) ≤ (b.toNat : Int) := by omega
  have hbb : (b.toNat : Int) < 256 := by omega
  have hm : moreB b = ((clB b == 2) || (clB b == 3)) := by simpa using byteAll (p := fun b => moreB b == ((clB b == 2) || (clB b == 3))) class23 b
  generalize clB b = c at c2 hm
  clear h
  rw [hm] at hv
  have HV := Lib.hid hv
  clear hm hv
  cases h1 : (c == 2) with
  | true =>
    have H : Hid (v = true) := by unfold Hid; rw [← HV.out, h1]; rfl
    go_enter Tryz.func68, Tryz.ntmps68
    go_wp2_with fail
    go_ret
    exact ⟨by rw [H.out]; rfl, rfl⟩
  | false =>
    have H : Hid (v = (c == 3)) := by unfold Hid; rw [← HV.out, h1]; rfl
    go_enter Tryz.func68, Tryz.ntmps68
    go_wp2_with fail
    go_ret
    exact ⟨by rw [H.out]; rfl, rfl⟩

theorem cloneText (s : ByteArray) (w : World) (hs : s.size ≤ 1048576) : Calls Tryz.prog 36 #[.string s] w fun e w' => e = .returned (.string s) ∧ Below w.heap.size w w' := by
  go_enter Tryz.func36, Tryz.ntmps36
  go_wp2_with fail
  refine (Tryz.stringslite_Clone s w (by omega)).mono ?_
  rintro e w1 ⟨rfl, hb⟩
  go_wp2_with fail
  go_ret
  exact ⟨rfl, hb⟩

theorem extract_drop (s : ByteArray) (k : Nat) : (s.extract k s.size).data.toList = s.data.toList.drop k := by
  rw [← Lib.toList_data, extract_toList]
  exact List.take_of_length_le (by simp)

set_option maxHeartbeats 1000000 in
theorem implBegins {w : World} {g : Nat} {s : ByteArray} {k : Nat} (h : LexS w g s k) (p : ByteArray) (hs : s.size ≤ 1048576) (hk : k ≤ s.size) (v : Bool) (hv : Lib.hasPrefix (s.data.toList.drop k) p.data.toList = v) :
    Calls Tryz.prog 46 #[.pointer (some ⟨g, 0, none⟩), .string p] w (Quiet w (.bool v)) := by
  have c0 := h.c0
  have c1 := h.c1
  have h0k : (0 : Int) ≤ (k : Int) := by omega
  have hkk : (k : Int) ≤ (s.size : Int) := by omega
  have hcall : ∀ W : World, Calls Tryz.prog 63 #[.string (s.extract k s.size), .string p] W fun e w' => e = .returned (.bool v) ∧ w' = W := fun W => by
    have := Tryz.strings_HasPrefix (s.extract k s.size) p W
    rw [extract_drop, hv] at this
    exact this
  have HC := Lib.hid hcall
  clear hv h hcall
  go_enter Tryz.func46, Tryz.ntmps46
  go_wp2_with fail
  go_quiet ((go_at_call 63; exact Calls.quiet_of_same (HC.out _)))
  go_wp2_with fail
  go_ret
  exact ⟨rfl, _, rfl⟩

end Go.Proofs.YtjjdcdnaonfnmaaGreatDoor

namespace Go.Proofs.YtjjdcdnaonfnmaaGreatDoor
open Go.RowKit

theorem Moved.of_below {w w1 w2 : World} {g : Nat} {s : ByteArray} {m : Nat} (h : Moved w g s m w1) (hb : Below w1.heap.size w1 w2) : Moved w g s m w2 := by
  have hlt := h.1.lt
  refine ⟨h.1.below hb hlt, ?_⟩
  have hg := h.2
  exact ⟨hb.os.trans hg.os, hb.tape.trans hg.tape, hb.output.trans hg.output, Nat.le_trans hg.size hb.size, fun i hi hne => (hb.block i (Nat.lt_of_lt_of_le hi hg.size)).trans (hg.block i hi hne)⟩

theorem Moved.refl {w : World} {g : Nat} {s : ByteArray} {k : Nat} (h : LexS w g s k) : Moved w g s k w := ⟨h, World.grownBy.refl w _⟩
theorem Moved.drewN {w w1 : World} {g : Nat} {s : ByteArray} {k : Nat} (h : Moved w g s k w1) (n : Nat) : Moved w g s k (w1.drewN n) := h.of_below (below_drewN (Below.refl _ _) n)
theorem Moved.drew {w w1 : World} {g : Nat} {s : ByteArray} {k : Nat} (h : Moved w g s k w1) : Moved w g s k w1.drew := h.of_below ⟨rfl, rfl, rfl, Nat.le_refl _, fun _ _ => rfl⟩
theorem Moved.trans {w w1 w2 : World} {g : Nat} {s : ByteArray} {k m : Nat} (h : Moved w g s k w1) (h2 : Moved w1 g s m w2) : Moved w g s m w2 :=
  ⟨h2.1, ⟨h2.2.os.trans h.2.os, h2.2.tape.trans h.2.tape, h2.2.output.trans h.2.output, Nat.le_trans h.2.size h2.2.size, fun i hi hne => (h2.2.block i (Nat.lt_of_lt_of_le hi h.2.size) hne).trans (h.2.block i hi hne)⟩⟩
theorem Moved.set {w w1 : World} {g : Nat} {s : ByteArray} {k : Nat} (h : Moved w g s k w1) (m : Nat) {v : Value} (hv : v = .int .i64 (m : Int)) : Moved w g s m (w1.setCell ⟨g, 1, none⟩ v) := by
  subst hv
  exact h.trans ⟨h.1.set m, setGrown _ _ _⟩
theorem Moved.below {w w1 : World} {g : Nat} {s : ByteArray} {k : Nat} (h : Moved w g s k w1) {w0 : World} {B : Nat} (hb : Below B w0 w) (hB : B ≤ g) (hg : g ≤ w.heap.size) : Below B w0 w1 :=
  hb.grown h.2 (by omega) (fun k hk => by cases hk; exact hB)

set_option maxHeartbeats 2000000 in
theorem implTake {w : World} {g : Nat} {s : ByteArray} {k : Nat} (h : LexS w g s k) (n : Nat) (hs : s.size ≤ 1048576) (hk : k + n ≤ s.size) :
    Calls Tryz.prog 69 #[.pointer (some ⟨g, 0, none⟩), .int .i64 (n : Int)] w fun e w' => e = .returned (.string (s.extract k (k + n))) ∧ Moved w g s (k + n) w' := by
  have c0 := h.c0
  have c1 := h.c1
  have f1 := h.f1
  have hlt := h.lt
  have HM := Lib.hid ((Moved.refl h).set (k + n) (v := .int .i64 ((k : Int) + (n : Int))) (by simp))
  have h0k : (0 : Int) ≤ (k : Int) := by omega
  have hkn : (k : Int) ≤ (k : Int) + (n : Int) := by omega
  have hks : (k : Int) + (n : Int) ≤ (s.size : Int) := by omega
  have htn : ((k : Int) + (n : Int)).toNat = k + n := by omega
  have hex : (s.extract k (k + n)).size ≤ 1048576 := by simp; omega
  clear h
  go_enter Tryz.func69, Tryz.ntmps69
  go_wp2_with fail
  have d0 : (w.setCell ⟨g, 1, none⟩ (.int .i64 ((k : Int) + (n : Int)))).cell? ⟨g, 0, none⟩ = some (.string s) := HM.out.1.c0
  have d1 : (w.setCell ⟨g, 1, none⟩ (.int .i64 ((k : Int) + (n : Int)))).cell? ⟨g, 1, none⟩ = some (.int .i64 ((k : Int) + (n : Int))) := by have := HM.out.1.c1; simpa using this
  have hlt1 : g < (w.setCell ⟨g, 1, none⟩ (.int .i64 ((k : Int) + (n : Int)))).heap.size := HM.out.1.lt
  generalize w.setCell ⟨g, 1, none⟩ (.int .i64 ((k : Int) + (n : Int))) = W at *
  clear c0 c1 f1 hlt
  go_region_held3 (fun w' => w'.cell? ⟨g, 0, none⟩ = some (.string s) ∧ w'.cell? ⟨g, 1, none⟩ = some (.int .i64 ((k : Int) + (n : Int)))) (first | go_keep | exact ⟨(hcw _ _ hlt1).trans d0, (hcw _ _ hlt1).trans d1⟩)
    ((go_at_call 36; refine (cloneText (s.extract k (k + n)) _ hex).mono ?_; rintro e w2 ⟨rfl, hb2⟩; obtain ⟨hcw, _⟩ := bcell hb2))
  go_wp2_with fail
  go_ret
  exact ⟨rfl, HM.out.drew.of_below hb2⟩

end Go.Proofs.YtjjdcdnaonfnmaaGreatDoor

namespace Go.Proofs.YtjjdcdnaonfnmaaGreatDoor

theorem lowB_cases (b : UInt8) : (lowB b = b ∧ ¬ (65 ≤ b.toNat ∧ b.toNat ≤ 90)) ∨ ((lowB b).toNat = b.toNat + 32 ∧ 65 ≤ b.toNat ∧ b.toNat ≤ 90) := by
  unfold lowB
  by_cases h : 65 ≤ b.toNat ∧ b.toNat ≤ 90
  · right
    rw [if_pos (by simp [h.1, h.2])]
    refine ⟨?_, h⟩
    rw [UInt8.toNat_add]
    have : (32 : UInt8).toNat = 32 := rfl
    omega
  · left
    refine ⟨?_, h⟩
    rw [if_neg]
    intro hc
    simp only [Bool.and_eq_true, decide_eq_true_eq] at hc
    exact h hc

theorem letter_low (b : UInt8) (h : letterB b = true) : letterB (lowB b) = true := by
  rcases lowB_cases b with ⟨e, _⟩ | ⟨e, h1, h2⟩
  · rw [e]; exact h
  · simp only [letterB, e, Bool.or_eq_true, Bool.and_eq_true, decide_eq_true_eq, beq_iff_eq]; omega

theorem more_low (b : UInt8) (h : moreB b = true) : moreB (lowB b) = true := by
  rcases lowB_cases b with ⟨e, _⟩ | ⟨e, h1, h2⟩
  · rw [e]; exact h
  · simp only [moreB, letterB, digitB, e, Bool.or_eq_true, Bool.and_eq_true, decide_eq_true_eq, beq_iff_eq]; omega

theorem low_low (b : UInt8) : lowB (lowB b) = lowB b := by
  rcases lowB_cases b with ⟨e, _⟩ | ⟨e, h1, h2⟩
  · rw [e, e]
  · rcases lowB_cases (lowB b) with ⟨e', _⟩ | ⟨e', h3, h4⟩
    · exact e'
    · omega

/-- What may stand behind a spelt word. -/
def Ends (r : List UInt8) : Prop := ∀ b, r.head? = some b → b.toNat = 32 ∨ b.toNat = 10 ∨ b.toNat = 59

theorem ends_nil : Ends [] := fun _ h => by cases h
theorem ends_cons {b : UInt8} {r : List UInt8} (h : b.toNat = 32 ∨ b.toNat = 10 ∨ b.toNat = 59) : Ends (b :: r) := fun c hc => by cases hc; exact h

theorem Ends.more {r : List UInt8} (h : Ends r) : runL r = [] := by
  cases r with
  | nil => rfl
  | cons b r =>
    have := h b rfl
    have hm : moreB b = false := by
      simp only [moreB, letterB, digitB, Bool.or_eq_false_iff, Bool.and_eq_false_iff, decide_eq_false_iff_not, beq_eq_false_iff_ne]; omega
    simp [runL, hm]

theorem runL_append {t r : List UInt8} (h : ∀ b ∈ t, moreB b = true) (hr : Ends r) : runL (t ++ r) = t := by
  unfold runL
  rw [List.takeWhile_append_of_pos h]
  have := hr.more
  unfold runL at this
  rw [this, List.append_nil]

theorem runL_all (l : List UInt8) : ∀ b ∈ runL l, moreB b = true := by
  intro b hb
  unfold runL at hb
  induction l with
  | nil => cases hb
  | cons x r ih =>
    rw [List.takeWhile_cons] at hb
    split at hb
    · rcases List.mem_cons.1 hb with rfl | h
      · assumption
      · exact ih h
    · cases hb

theorem quoted_back (q : UInt8) (t r : List UInt8) (hr : ∀ b, r.head? = some b → b ≠ q) :
    quoted q ((t.flatMap fun b => if b = q then [q, b] else [b]) ++ q :: r) = some (t, (t.flatMap fun b => if b = q then [q, b] else [b]).length + 1) := by
  induction t with
  | nil =>
    cases r with
    | nil => simp [quoted]
    | cons c r => simp [quoted, hr c rfl]
  | cons b t ih =>
    rw [List.flatMap_cons]
    by_cases hb : b = q
    · subst hb
      rw [if_pos rfl, List.append_assoc, List.cons_append, List.cons_append, List.nil_append, quoted, if_pos rfl, if_pos rfl, ih]
      simp [Nat.add_comm]
      omega
    · rw [if_neg hb, List.append_assoc, List.cons_append, List.nil_append]
      cases hc : (t.flatMap fun b => if b = q then [q, b] else [b]) ++ q :: r with
      | nil => exact absurd hc (by simp)
      | cons c r' =>
        rw [quoted, if_neg hb, ← hc, ih]
        simp [Nat.add_comm]

/-- How a right word is spelt. -/
def sp (k : Nat) (t : List UInt8) : List UInt8 := if k = 1 then quoteL 34 t else if k = 3 then quoteL 39 t else t

/-- A word that is read as itself from how it is spelt. -/
def Right (k : Nat) (t : List UInt8) : Prop :=
  sp k t ≠ [] ∧ k ≤ 4 ∧ ∀ r, Ends r → one (sp k t ++ r) = some (k, t, (sp k t).length) ∧ gap false (sp k t ++ r) = 0

theorem gap_stop {b : UInt8} {r : List UInt8} (h1 : blankB b = false) (h2 : b.toNat ≠ 45) : gap false (b :: r) = 0 := by
  have : (b.toNat == 45) = false := by simpa using h2
  simp [gap, h1, this]

theorem letter_not_blank {b : UInt8} (h : moreB b = true) : blankB b = false ∧ b.toNat ≠ 45 := by
  simp only [moreB, letterB, digitB, Bool.or_eq_true, Bool.and_eq_true, decide_eq_true_eq, beq_iff_eq] at h
  constructor
  · simp only [blankB, Bool.or_eq_false_iff, beq_eq_false_iff_ne]; omega
  · omega

theorem right_run {k : Nat} {b : UInt8} {t : List UInt8} (hk : k = 0 ∨ k = 2) (hall : ∀ c ∈ b :: t, moreB c = true)
    (hone : ∀ r, runL (b :: t ++ r) = b :: t → one (b :: t ++ r) = some (k, b :: t, (b :: t).length)) : Right k (b :: t) := by
  have hs : sp k (b :: t) = b :: t := by rcases hk with rfl | rfl <;> simp [sp]
  unfold Right
  rw [hs]
  refine ⟨by simp, by omega, fun r hr => ⟨hone r (runL_append hall hr), ?_⟩⟩
  obtain ⟨h1, h2⟩ := letter_not_blank (hall b (List.mem_cons_self ..))
  exact gap_stop h1 h2

theorem right_word {b : UInt8} {t : List UInt8} (hb : letterB b = true) (hall : ∀ c ∈ b :: t, moreB c = true ∧ lowB c = c) : Right 0 (b :: t) := by
  refine right_run (.inl rfl) (fun c hc => (hall c hc).1) fun r hr => ?_
  rw [List.cons_append] at hr ⊢
  rw [one, if_pos hb, runN, hr]
  congr 2
  congr 1
  exact (List.map_congr_left fun c hc => (hall c hc).2).trans (List.map_id _)

theorem right_num {b : UInt8} {t : List UInt8} (hb : digitB b = true) (hl : letterB b = false) (hall : ∀ c ∈ b :: t, moreB c = true) (hn : 0 ≤ readD (b :: t)) : Right 2 (b :: t) := by
  refine right_run (.inr rfl) hall fun r hr => ?_
  rw [List.cons_append] at hr ⊢
  rw [one, if_neg (by simp [hl]), if_pos hb, runN, hr, if_pos hn]

theorem Ends.ne {r : List UInt8} (h : Ends r) {q : UInt8} (hq : q.toNat = 34 ∨ q.toNat = 39) : ∀ b, r.head? = some b → b ≠ q := by
  intro b hb e
  have := h b hb
  subst e
  omega

theorem right_name {t : List UInt8} (h : nameB t = true) : Right 1 t := by
  have hs : sp 1 t = quoteL 34 t := by simp [sp]
  unfold Right
  rw [hs]
  refine ⟨by simp [quoteL], by omega, fun r hr => ⟨?_, ?_⟩⟩
  · unfold quoteL
    rw [List.append_assoc, List.cons_append, List.singleton_append, one]
    rw [if_neg (by decide), if_neg (by decide), if_pos (by decide), quoted_back 34 t r (hr.ne (.inl rfl)), Option.bind_some, if_pos h]
    simp [Nat.add_comm]
  · exact gap_stop (b := 34) (by decide) (by decide)

theorem right_text {t : List UInt8} (h : t.length ≤ 100) : Right 3 t := by
  have hs : sp 3 t = quoteL 39 t := by simp [sp]
  unfold Right
  rw [hs]
  refine ⟨by simp [quoteL], by omega, fun r hr => ⟨?_, ?_⟩⟩
  · unfold quoteL
    rw [List.append_assoc, List.cons_append, List.singleton_append, one]
    rw [if_neg (by decide), if_neg (by decide), if_neg (by decide), if_pos (by decide), quoted_back 39 t r (hr.ne (.inr rfl)), Option.bind_some, if_pos h]
    simp [Nat.add_comm]
  · exact gap_stop (b := 39) (by decide) (by decide)

theorem sign_facts {b : UInt8} (h : signB b = true) : letterB b = false ∧ digitB b = false ∧ b.toNat ≠ 34 ∧ b.toNat ≠ 39 ∧ blankB b = false := by
  simp only [signB, List.contains_eq_mem, List.mem_cons, List.not_mem_nil, or_false, decide_eq_true_eq] at h
  simp only [letterB, digitB, blankB, Bool.or_eq_false_iff, Bool.and_eq_false_iff, decide_eq_false_iff_not, beq_eq_false_iff_ne]
  omega

theorem two_sign {b c : UInt8} (h : twoB b c = true) : signB b = true ∧ b.toNat ≠ 45 := by
  simp only [twoB, Bool.or_eq_true, Bool.and_eq_true, beq_iff_eq] at h
  simp only [signB, List.contains_eq_mem, List.mem_cons, List.not_mem_nil, or_false, decide_eq_true_eq]
  omega

theorem two_not {b c : UInt8} (h : c.toNat = 32 ∨ c.toNat = 10 ∨ c.toNat = 59) : twoB b c = false := by
  simp only [twoB, Bool.or_eq_false_iff, Bool.and_eq_false_iff, beq_eq_false_iff_ne]; omega

theorem signN_pos_sign {b : UInt8} {r : List UInt8} (h : signN (b :: r) ≠ 0) : signB b = true := by
  cases r with
  | nil =>
    rw [signN] at h
    split at h
    · assumption
    · exact absurd rfl h
  | cons c r =>
    rw [signN] at h
    split at h
    · rename_i h2; exact (two_sign h2).1
    · split at h
      · assumption
      · exact absurd rfl h

theorem one_sign {b : UInt8} {r : List UInt8} (h : signB b = true) (hn : signN (b :: r) ≠ 0) : one (b :: r) = some (4, (b :: r).take (signN (b :: r)), signN (b :: r)) := by
  obtain ⟨h1, h2, h3, h4, _⟩ := sign_facts h
  rw [one, if_neg (by simp [h1]), if_neg (by simp [h2]), if_neg h3, if_neg h4, if_neg hn]

theorem right_sign {l : List UInt8} (h : signN l ≠ 0) : Right 4 (l.take (signN l)) := by
  cases l with
  | nil => exact absurd rfl h
  | cons b r =>
    have hb := signN_pos_sign h
    have hf := sign_facts hb
    have hs : ∀ t, sp 4 t = t := fun t => by simp [sp]
    unfold Right
    rw [hs]
    have one1 : ∀ r', Ends r' → one ([b] ++ r') = some (4, [b], 1) ∧ gap false ([b] ++ r') = 0 := by
      intro r' hr'
      have e : signN ([b] ++ r') = 1 := by
        cases r' with
        | nil => simp [signN, hb]
        | cons c r'' => simp [signN, two_not (hr' c rfl), hb]
      refine ⟨?_, ?_⟩
      · rw [List.singleton_append] at e ⊢
        rw [one_sign hb (by omega), e]; rfl
      · rw [List.singleton_append, gap, if_neg (by simp [hf.2.2.2.2])]
        rw [if_neg]
        intro hc
        simp only [Bool.and_eq_true, beq_iff_eq, Option.map_eq_some_iff] at hc
        obtain ⟨_, x, hx, h45⟩ := hc
        have := hr' x hx
        omega
    have small : signN (b :: r) = 1 → ((b :: r).take (signN (b :: r)) ≠ [] ∧ 4 ≤ 4 ∧ ∀ r', Ends r' → one ((b :: r).take (signN (b :: r)) ++ r') = some (4, (b :: r).take (signN (b :: r)), ((b :: r).take (signN (b :: r))).length) ∧ gap false ((b :: r).take (signN (b :: r)) ++ r') = 0) := by
      intro e
      rw [e]
      exact ⟨by simp, by omega, fun r' hr' => one1 r' hr'⟩
    cases r with
    | nil => exact small (by simp [signN, hb])
    | cons c r =>
      by_cases h2 : twoB b c = true
      · have e : ∀ r', signN (b :: c :: r') = 2 := fun r' => by simp [signN, h2]
        rw [e]
        refine ⟨by simp, by omega, fun r' _ => ⟨?_, ?_⟩⟩
        · show one (b :: c :: r') = _
          rw [one_sign hb (by rw [e]; omega), e]; rfl
        · exact gap_stop (b := b) hf.2.2.2.2 (two_sign h2).2
      · exact small (by simp [signN, h2, hb])

/-- What is read is right. -/
theorem one_right {l : List UInt8} {k : Nat} {t : List UInt8} {n : Nat} (h : one l = some (k, t, n)) : Right k t := by
  cases l with
  | nil => simp [one] at h
  | cons b r =>
    rw [one] at h
    split at h
    · rename_i hb
      simp only [Option.some.injEq, Prod.mk.injEq] at h
      obtain ⟨rfl, rfl, _⟩ := h
      have hm : moreB b = true := by simp [moreB, hb]
      have e : runL (b :: r) = b :: runL r := by simp [runL, hm]
      rw [e, List.map_cons]
      refine right_word (letter_low b hb) fun c hc => ?_
      rw [← List.map_cons (f := lowB), ← e] at hc
      obtain ⟨x, hx, rfl⟩ := List.mem_map.1 hc
      exact ⟨more_low x (runL_all _ x hx), low_low x⟩
    · rename_i hnl
      split at h
      · rename_i hb
        split at h
        · rename_i hn
          simp only [Option.some.injEq, Prod.mk.injEq] at h
          obtain ⟨rfl, rfl, _⟩ := h
          have hm : moreB b = true := by simp [moreB, hb]
          have e : runL (b :: r) = b :: runL r := by simp [runL, hm]
          rw [e] at hn ⊢
          refine right_num hb (by simpa using hnl) (fun c hc => ?_) hn
          rw [← e] at hc
          exact runL_all _ c hc
        · cases h
      · split at h
        · cases hq : quoted 34 r with
          | none => rw [hq] at h; cases h
          | some x =>
            rw [hq, Option.bind_some] at h
            split at h
            · rename_i hn
              simp only [Option.some.injEq, Prod.mk.injEq] at h
              obtain ⟨rfl, rfl, _⟩ := h
              exact right_name hn
            · cases h
        · split at h
          · cases hq : quoted 39 r with
            | none => rw [hq] at h; cases h
            | some x =>
              rw [hq, Option.bind_some] at h
              split at h
              · rename_i hn
                simp only [Option.some.injEq, Prod.mk.injEq] at h
                obtain ⟨rfl, rfl, _⟩ := h
                exact right_text hn
              · cases h
          · split at h
            · cases h
            · rename_i hn
              simp only [Option.some.injEq, Prod.mk.injEq] at h
              obtain ⟨rfl, rfl, _⟩ := h
              exact right_sign hn

theorem lexAt_right : ∀ (m : Nat) (p : Nat) (l : List UInt8) (ts : List Tok), l.length ≤ m → lexAt p l = .ok ts → ∀ x ∈ ts, Right x.kind x.text
  | 0, p, l, ts, hm, h, x, hx => by
    obtain rfl : l = [] := List.eq_nil_of_length_eq_zero (by omega)
    rw [lexAt_nil] at h
    cases h
    cases hx
  | m + 1, p, l, ts, hm, h, x, hx => by
    by_cases h0 : l = []
    · subst h0
      rw [lexAt_nil] at h
      cases h
      cases hx
    · cases h1 : one l with
      | none => rw [lexAt_bad h0 h1] at h; cases h
      | some y =>
        obtain ⟨k, t, n⟩ := y
        rw [lexAt_one h1] at h
        cases h2 : lexAt (p + n + gap false (l.drop n)) ((l.drop n).drop (gap false (l.drop n))) with
        | error e => rw [h2] at h; cases h
        | ok us =>
          rw [h2] at h
          cases h
          have hpos := one_pos h1
          have hl : 0 < l.length := List.length_pos_iff.2 h0
          rcases List.mem_append.1 hx with hx | hx
          · simp only [List.mem_singleton] at hx
            subst hx
            exact one_right h1
          · exact lexAt_right m _ _ us (by simp only [List.length_drop]; omega) h2 x hx

/-- The spelt words, each behind a blank but for the first. -/
def spellR : List (Nat × List UInt8) → List UInt8
  | [] => []
  | [x] => sp x.1 x.2
  | x :: y :: r => sp x.1 x.2 ++ 32 :: spellR (y :: r)

def kt (ts : List Tok) : List (Nat × List UInt8) := ts.map fun x => (x.kind, x.text)

theorem spellR_head {x : Nat × List UInt8} {r : List (Nat × List UInt8)} : ∃ q, spellR (x :: r) = sp x.1 x.2 ++ q ∧ Ends q := by
  cases r with
  | nil => exact ⟨[], by simp [spellR], ends_nil⟩
  | cons y r => exact ⟨32 :: spellR (y :: r), rfl, ends_cons (.inl rfl)⟩

theorem gap_blank (r : List UInt8) : gap false (32 :: r) = 1 + gap false r := by
  rw [gap, if_pos (by decide)]

theorem spell_back : ∀ (xs : List (Nat × List UInt8)) (p : Nat), (∀ x ∈ xs, Right x.1 x.2) → ∃ ts, lexAt p (spellR xs) = .ok ts ∧ kt ts = xs ∧ gap false (spellR xs) = 0
  | [], p, _ => ⟨[], lexAt_nil p, rfl, rfl⟩
  | [x], p, h => by
    have hx := h x (List.mem_cons_self ..)
    have := hx.2.2 [] ends_nil
    rw [List.append_nil] at this
    refine ⟨[⟨x.1, x.2, p⟩], ?_, rfl, this.2⟩
    rw [spellR, lexAt_one this.1, List.drop_length, gap, List.drop_nil, lexAt_nil]
    rfl
  | x :: y :: r, p, h => by
    have hx := h x (List.mem_cons_self ..)
    have := hx.2.2 (32 :: spellR (y :: r)) (ends_cons (.inl rfl))
    obtain ⟨ts, h1, h2, h3⟩ := spell_back (y :: r) (p + (sp x.1 x.2).length + 1) (fun z hz => h z (List.mem_cons_of_mem _ hz))
    refine ⟨⟨x.1, x.2, p⟩ :: ts, ?_, by simp only [kt, List.map_cons] at h2 ⊢; rw [h2], this.2⟩
    rw [spellR, lexAt_one this.1, List.drop_left, gap_blank, h3, Nat.add_zero, List.drop_succ_cons, List.drop_zero, h1]
    rfl

end Go.Proofs.YtjjdcdnaonfnmaaGreatDoor
