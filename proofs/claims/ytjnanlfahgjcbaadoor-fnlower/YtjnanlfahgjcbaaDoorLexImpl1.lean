/- The program's classes of bytes. -/
import Derived.Test.YtjnanlfahgjcbaaDoorLexSpec3
import Derived.Deep.MidRow
import Derived.Deep.Cut
namespace Go.Proofs.YtjnanlfahgjcbaaDoor
open Go.RowKit

/-- The array holds f. -/
def Cls (cs : Array Value) (f : Nat → Int) : Prop := cs.size = 256 ∧ ∀ i, i < 256 → cs[i]? = some (.int .i64 (f i))

def setm (f : Nat → Int) (l : List UInt8) (av : Int) (i : Nat) : Int := if i ∈ l.map (·.toNat) then av else f i

theorem Cls.set {cs : Array Value} {f : Nat → Int} (h : Cls cs f) {l : List UInt8} {b : UInt8} {av : Int} {g : Nat → Int} (hf : f = setm g l av) : Cls (cs.setIfInBounds b.toNat (.int .i64 av)) (setm g (l ++ [b]) av) := by
  obtain ⟨h1, h2⟩ := h
  refine ⟨by simpa using h1, fun i hi => ?_⟩
  have hb := UInt8.toNat_lt b
  by_cases e : i = b.toNat
  · subst e
    rw [Array.getElem?_setIfInBounds_self, if_pos (by omega)]
    simp [setm]
  · rw [Array.getElem?_setIfInBounds_ne (by omega), h2 i hi, hf]
    simp [setm, e]

theorem Cls.one {cs : Array Value} {f : Nat → Int} (h : Cls cs f) {j : Nat} (hj : j < 256) (av : Int) : Cls (cs.setIfInBounds j (.int .i64 av)) (fun i => if i = j then av else f i) := by
  obtain ⟨h1, h2⟩ := h
  refine ⟨by simpa using h1, fun i hi => ?_⟩
  by_cases e : i = j
  · subst e
    rw [Array.getElem?_setIfInBounds_self, if_pos (by omega)]
    simp
  · rw [Array.getElem?_setIfInBounds_ne (by omega), h2 i hi]
    simp [e]

theorem Cls.cell {w : World} {g : Nat} {cs : Array Value} {f : Nat → Int} {t : TypeId} (h : Cls cs f) (hg : w.heap[g]? = some (.cells cs t (0, 0))) {i : Nat} (hi : i < 256) : w.cell? ⟨g, i, none⟩ = some (.int .i64 (f i)) := by
  rw [cell_of_row _ _ _ _ _ _ hg]; exact h.2 i hi

set_option maxHeartbeats 1000000 in
theorem implMark (g : Nat) (cs : Array Value) (f : Nat → Int) (s : ByteArray) (av : Int) (w : World) (hg : w.heap[g]? = some (.cells cs 45 (0, 0))) (hc : Cls cs f) (hs : s.size ≤ 256) :
    Calls Tryd.prog 37 #[.pointer (some ⟨g, 0, none⟩), .string s, .int .i64 av] w fun e w' => e = .returned (.tuple #[]) ∧ ∃ cs', w'.heap[g]? = some (.cells cs' 45 (0, 0)) ∧ Cls cs' (setm f s.data.toList av) ∧ w.grownBy w' (some g) := by
  have hlt : g < w.heap.size := by
    rcases Nat.lt_or_ge g w.heap.size with hlt | hge
    · exact hlt
    · rw [Array.getElem?_eq_none hge] at hg; cases hg
  obtain ⟨W, cap, hcv, hbW, hrow, hcap⟩ := convTextRow w s
  have hgW : W.heap[g]? = some (.cells cs 45 (0, 0)) := (hbW.block g hlt).trans hg
  have hll : s.data.toList.length = s.size := by simp
  have HG := Lib.hid hgW
  have HC := Lib.hid hc
  have HROW := Lib.hid hrow
  have HLL := Lib.hid hll
  have hgr : w.grownBy W (some g) := ⟨hbW.os, hbW.tape, hbW.output, hbW.size, fun k hk _ => hbW.block k hk⟩
  have hltR := hrow.lt
  generalize hR : w.heap.size = R at *
  have HR := Lib.hid hR
  clear hg hc hgW hrow hll hbW hR
  go_enter Tryd.func37, Tryd.ntmps37
  go_wp2_with fail
  go_loopw [11] (fun i wr => ∃ (k : Nat) (c : Array Value), k ≤ s.size ∧ i = .int .i64 k ∧ Hid (wr.heap[g]? = some (.cells c 45 (0, 0))) ∧ Cls c (setm f (s.data.toList.take k) av) ∧ RowB wr R s.data.toList ∧ w.grownBy wr (some g)) (fun i _ => s.size - (intOf i).toNat)
  case atStart => exact ⟨0, cs, Nat.zero_le _, rfl, HG, by have e : setm f [] av = f := (by funext i; simp [setm]); rw [List.take_zero, e]; exact HC.out, HROW.out, hgr⟩
  case round =>
    obtain ⟨k, c, hk, rfl, hgk, hck, hrow, hgrk⟩ := hrel
    by_cases hlt1 : k < s.size
    · have hkL : k < s.data.toList.length := by rw [HLL.out]; exact hlt1
      have hcell := hrow.cell hkL
      have hb := byte_le s.data.toList[k]
      have hb' : s.data.toList[k].toNat < 256 := by omega
      have hcc := hck.cell hgk.out hb'
      have hff : ∀ j, wr.frozen? ⟨g, j, none⟩ = false := fun j => frozen_of_row _ _ _ _ _ hgk.out
      have hfj := hff s.data.toList[k].toNat
      have HNEW := Lib.hid (heap_setCell_same wr g s.data.toList[k].toNat _ _ (.int .i64 av) hgk.out)
      have HCS := Lib.hid (hck.set (b := s.data.toList[k]) rfl)
      have HT : Hid (s.data.toList.take (k + 1) = s.data.toList.take k ++ [s.data.toList[k]]) := List.take_succ_eq_append_getElem hkL
      have hrow2 : RowB (wr.setCell ⟨g, s.data.toList[k].toNat, none⟩ (.int .i64 av)) R s.data.toList := by
        obtain ⟨a, fz, h1, h2⟩ := hrow
        exact ⟨a, fz, (Below.heap_setCell _ _ _ _ (by show R ≠ g; omega)).trans h1, h2⟩
      have hgr2 : w.grownBy (wr.setCell ⟨g, s.data.toList[k].toNat, none⟩ (.int .i64 av)) (some g) := ⟨hgrk.os, hgrk.tape, hgrk.output, by simpa [World.setCell] using hgrk.size, fun i hi hne => (Below.heap_setCell _ _ _ _ (fun e => hne (by rw [e]))).trans (hgrk.block i hi hne)⟩
      have HROW2 := Lib.hid hrow2
      have HGR2 := Lib.hid hgr2
      clear hff hrow hck hrow2 hgr2 hgrk
      generalize s.data.toList[k] = b at *
      go_wp2_with fail
      go_roundw
      case rel => exact ⟨k + 1, _, by omega, by go_num, HNEW, by rw [HT.out]; exact HCS.out, HROW2.out, HGR2.out⟩
      case measure => simp [intOf]; omega
    · obtain rfl : k = s.size := by omega
      have HT : Hid (s.data.toList.take s.size = s.data.toList) := List.take_of_length_le (by rw [HLL.out]; exact Nat.le_refl _)
      rw [HT.out] at hck
      go_wp2_with fail
      go_end0
      exact ⟨rfl, c, hgk.out, hck, hgrk⟩

theorem zero256 : Tryd.zeroCells45 = Array.replicate 256 (.int .i64 0) := by kernel_rfl
theorem clsZero : Cls Tryd.zeroCells45 (fun _ => 0) := by
  rw [zero256]
  exact ⟨by simp, fun i hi => by simp [hi]⟩

def blankT4 : ByteArray := ⟨#[32, 9, 10, 13]⟩
def letterT : ByteArray := ⟨#[65, 66, 67, 68, 69, 70, 71, 72, 73, 74, 75, 76, 77, 78, 79, 80, 81, 82, 83, 84, 85, 86, 87, 88, 89, 90, 97, 98, 99, 100, 101, 102, 103, 104, 105, 106, 107, 108, 109, 110, 111, 112, 113, 114, 115, 116, 117, 118, 119, 120, 121, 122, 95]⟩
def digitT : ByteArray := ⟨#[48, 49, 50, 51, 52, 53, 54, 55, 56, 57]⟩
def signT : ByteArray := ⟨#[40, 41, 44, 59, 61, 60, 62, 43, 45, 42, 46]⟩

/-- The class of a byte, as the array is filled. -/
def classA (i : Nat) : Int :=
  (fun i => if i = 39 then 5 else (fun i => if i = 34 then 4 else setm (setm (setm (setm (fun _ => 0) blankT4.data.toList 1) letterT.data.toList 2) digitT.data.toList 3) signT.data.toList 6 i) i) i

/-- The class of a byte. -/
def clB (b : UInt8) : Int := if blankB b then 1 else if letterB b then 2 else if digitB b then 3 else if b.toNat = 34 then 4 else if b.toNat = 39 then 5 else if signB b then 6 else 0

theorem class_all : ((List.range 256).all fun n => classA n == clB (UInt8.ofNat n)) = true := by kernel_rfl

theorem class_eq (b : UInt8) : classA b.toNat = clB b := by
  have h := List.all_eq_true.1 class_all b.toNat (List.mem_range.2 (UInt8.toNat_lt b))
  rw [beq_iff_eq] at h
  rw [h]
  simp

theorem belowCells {B : Nat} {a w : World} (h : Below B a w) {b : Nat} (hb : B ≤ b) : ∀ (o : Nat) (vs : List Value), Below B a (w.setCells b o vs)
  | _, [] => h
  | o, v :: r => by
    rw [World.setCells]
    exact belowCells (h.setCell (p := ⟨b, o, none⟩) hb v) hb (o + 1) r

theorem heap_lt {w : World} {g : Nat} {o : Obj} (h : w.heap[g]? = some o) : g < w.heap.size := by
  rcases Nat.lt_or_ge g w.heap.size with hlt | hge
  · exact hlt
  · rw [Array.getElem?_eq_none hge] at h; cases h

set_option maxHeartbeats 2000000 in
set_option maxRecDepth 100000 in
theorem implClasses (w : World) : Calls Tryd.prog 24 #[] w fun e w' => ∃ cs, e = .returned (.agg cs) ∧ Cls cs classA ∧ Below w.heap.size w w' := by
  have b0 : Below w.heap.size w ((w.alloc (.cells Tryd.zeroCells45 45)).alloc (.cells Tryd.zeroCells45 45)) := ((Below.refl _ _).alloc (Nat.le_refl _) _).alloc (by simp) _
  have g0 : ((w.alloc (.cells Tryd.zeroCells45 45)).alloc (.cells Tryd.zeroCells45 45)).heap[w.heap.size + 1]? = some (.cells Tryd.zeroCells45 45 (0, 0)) := by
    have := heap_alloc_new (w.alloc (.cells Tryd.zeroCells45 45)) (.cells Tryd.zeroCells45 45)
    simpa using this
  have r0 : ((w.alloc (.cells Tryd.zeroCells45 45)).alloc (.cells Tryd.zeroCells45 45)).heap[w.heap.size]? = some (.cells Tryd.zeroCells45 45 (0, 0)) := by
    rw [Below.heap_alloc _ _ _ (by simp)]; exact heap_alloc_new _ _
  go_enter Tryd.func24, Tryd.ntmps24
  go_wp2_with fail
  refine (implMark (w.heap.size + 1) _ _ blankT4 1 _ g0 clsZero (by decide)).mono ?_
  rintro e w1 ⟨rfl, c1, g1, k1, G1⟩
  have b1 : Below w.heap.size w w1 := b0.grown G1 (by simp; omega) (fun k hk => by cases hk; omega)
  have r1 := (G1.block w.heap.size (by simp; omega) (fun e => by simp at e)).trans r0
  clear g0 r0 b0 G1
  have HG := Lib.hid g1
  have HR := Lib.hid r1
  clear g1 r1
  go_wp2_with fail
  refine (implMark (w.heap.size + 1) _ _ letterT 2 _ HG.out k1 (by decide)).mono ?_
  rintro e w2 ⟨rfl, c2, g2, k2, G2⟩
  have b2 : Below w.heap.size w w2 := b1.grown G2 b1.size (fun k hk => by cases hk; omega)
  have HR2 := Lib.hid ((G2.block w.heap.size (heap_lt HR.out) (fun e => by simp at e)).trans HR.out)
  have HG2 := Lib.hid g2
  clear g2 HG HR G2 b1 k1
  go_wp2_with fail
  refine (implMark (w.heap.size + 1) _ _ digitT 3 _ HG2.out k2 (by decide)).mono ?_
  rintro e w3 ⟨rfl, c3, g3, k3, G3⟩
  have b3 : Below w.heap.size w w3 := b2.grown G3 b2.size (fun k hk => by cases hk; omega)
  have HR3 := Lib.hid ((G3.block w.heap.size (heap_lt HR2.out) (fun e => by simp at e)).trans HR2.out)
  have HG3 := Lib.hid g3
  clear g3 HG2 HR2 G3 b2 k2
  go_wp2_with fail
  refine (implMark (w.heap.size + 1) _ _ signT 6 _ HG3.out k3 (by decide)).mono ?_
  rintro e w4 ⟨rfl, c4, g4, k4, G4⟩
  have b4 : Below w.heap.size w w4 := b3.grown G4 b3.size (fun k hk => by cases hk; omega)
  have HR4 := Lib.hid ((G4.block w.heap.size (heap_lt HR3.out) (fun e => by simp at e)).trans HR3.out)
  have HG4 := Lib.hid g4
  have x34 := k4.cell g4 (i := 34) (by omega)
  have x39 := k4.cell g4 (i := 39) (by omega)
  have ff : ∀ j, w4.frozen? ⟨w.heap.size + 1, j, none⟩ = false := fun j => frozen_of_row _ _ _ _ _ g4
  have f34 := ff 34
  have f39 := ff 39
  clear g4 HG3 HR3 G4 b3 k3 ff
  go_upto_region 8 with (fail)
  have g5 : ((w4.setCell ⟨w.heap.size + 1, 34, none⟩ (.int .i64 4)).setCell ⟨w.heap.size + 1, 39, none⟩ (.int .i64 5)).heap[w.heap.size + 1]? = some (.cells ((c4.setIfInBounds 34 (.int .i64 4)).setIfInBounds 39 (.int .i64 5)) 45 (0, 0)) :=
    heap_setCell_same _ _ _ _ _ _ (heap_setCell_same _ _ _ _ _ _ HG4.out)
  have k5 : Cls ((c4.setIfInBounds 34 (.int .i64 4)).setIfInBounds 39 (.int .i64 5)) classA := (k4.one (j := 34) (by omega) 4).one (j := 39) (by omega) 5
  have b5 : Below w.heap.size w ((w4.setCell ⟨w.heap.size + 1, 34, none⟩ (.int .i64 4)).setCell ⟨w.heap.size + 1, 39, none⟩ (.int .i64 5)) := (b4.setCell (p := ⟨w.heap.size + 1, 34, none⟩) (by simp) _).setCell (p := ⟨w.heap.size + 1, 39, none⟩) (by simp) _
  have r5 : ((w4.setCell ⟨w.heap.size + 1, 34, none⟩ (.int .i64 4)).setCell ⟨w.heap.size + 1, 39, none⟩ (.int .i64 5)).heap[w.heap.size]? = some (.cells Tryd.zeroCells45 45 (0, 0)) := by
    rw [Below.heap_setCell _ _ _ _ (by simp), Below.heap_setCell _ _ _ _ (by simp)]; exact HR4.out
  generalize ((w4.setCell ⟨w.heap.size + 1, 34, none⟩ (.int .i64 4)).setCell ⟨w.heap.size + 1, 39, none⟩ (.int .i64 5)) = w5 at *
  generalize ((c4.setIfInBounds 34 (.int .i64 4)).setIfInBounds 39 (.int .i64 5)) = c5 at *
  clear x34 x39 f34 f39 k4 b4 HG4 HR4
  have hsz : c5.size = 256 := k5.1
  have hrange : w5.rangeAt (w.heap.size + 1) 0 c5.toList := fun j v hv => by rw [cell_of_row _ _ _ _ _ _ g5]; simpa using hv
  have hthere : w5.there w.heap.size 0 c5.size := fun j hj => by
    rw [cell_of_row _ _ _ _ _ _ r5]
    refine ⟨?_, frozen_of_row _ _ _ _ _ r5⟩
    rw [zero256]
    have : j < 256 := by omega
    simp [this]
  have hone : c5.all (·.oneCell') = true := by
    rw [Array.all_eq_true]
    intro i hi
    have := k5.2 i (by omega)
    rw [Array.getElem?_eq_getElem hi] at this
    rw [Option.some.inj this]
    rfl
  have hinfo : (Tryd.prog.info? 45).map (·.size) = some 256 := by kernel_rfl
  go_wp2_with (first
    | (with_reducible refine wpList_load_mid rfl 45 (.tmp 1) rfl (w.heap.size + 1) 0 rfl c5.toList _ hrange Tryd.underlying45 rfl (by rw [Array.length_toList, hsz]; exact hinfo) ?_)
    | (with_reducible refine wpList_store_mid rfl 45 (.tmp 0) (.tmp 8) rfl w.heap.size 0 c5 rfl rfl hthere (by rw [hsz]; exact hinfo) hone ?_))
  have hres : (loadVar 45 ⟨w.heap.size, 0, none⟩).run Tryd.prog (w5.setCells w.heap.size 0 c5.toList) = .ok (.agg c5) (w5.setCells w.heap.size 0 c5.toList) := by
    have := run_loadVar_mid (P := Tryd.prog) (w5.setCells w.heap.size 0 c5.toList) w.heap.size 0 45 c5.toList _ (World.rangeAt_setCells_same w5 w.heap.size 0 c5.toList (by simpa using hthere)) Tryd.underlying45 rfl (by rw [Array.length_toList, hsz]; exact hinfo)
    simpa using this
  exact bodyPost_ret (v := .agg c5) (by simp [results, Tryd.results24, hres, Act.put, asAddr]) rfl ⟨c5, rfl, k5, belowCells b5 (Nat.le_refl _) _ _⟩

/-- The lexer in block g: over the text s, at k. -/
structure LexS (w : World) (g : Nat) (s : ByteArray) (k : Nat) : Prop where
  ex : ∃ cs, w.heap[g]? = some (.cells cs 48 (0, 0)) ∧ cs.size = 258 ∧ cs[0]? = some (.string s) ∧ cs[1]? = some (.int .i64 (k : Int)) ∧ ∀ b : UInt8, cs[2 + b.toNat]? = some (.int .i64 (clB b))

theorem LexS.lt {w : World} {g : Nat} {s : ByteArray} {k : Nat} (h : LexS w g s k) : g < w.heap.size := by
  obtain ⟨cs, hg, _⟩ := h.ex
  exact heap_lt hg
theorem LexS.c0 {w : World} {g : Nat} {s : ByteArray} {k : Nat} (h : LexS w g s k) : w.cell? ⟨g, 0, none⟩ = some (.string s) := by
  obtain ⟨cs, hg, _, h0, _⟩ := h.ex
  rw [cell_of_row _ _ _ _ _ _ hg]; exact h0
theorem LexS.c1 {w : World} {g : Nat} {s : ByteArray} {k : Nat} (h : LexS w g s k) : w.cell? ⟨g, 1, none⟩ = some (.int .i64 (k : Int)) := by
  obtain ⟨cs, hg, _, _, h1, _⟩ := h.ex
  rw [cell_of_row _ _ _ _ _ _ hg]; exact h1
theorem LexS.cl {w : World} {g : Nat} {s : ByteArray} {k : Nat} (h : LexS w g s k) (b : UInt8) : w.cell? ⟨g, 2 + b.toNat, none⟩ = some (.int .i64 (clB b)) := by
  obtain ⟨cs, hg, _, _, _, h2⟩ := h.ex
  rw [cell_of_row _ _ _ _ _ _ hg]; exact h2 b
theorem LexS.f1 {w : World} {g : Nat} {s : ByteArray} {k : Nat} (h : LexS w g s k) : w.frozen? ⟨g, 1, none⟩ = false := by
  obtain ⟨cs, hg, _⟩ := h.ex
  exact frozen_of_row _ _ _ _ _ hg
theorem LexS.below {w w' : World} {g : Nat} {s : ByteArray} {k : Nat} (h : LexS w g s k) {B : Nat} (hb : Below B w w') (hB : g < B) : LexS w' g s k := by
  obtain ⟨cs, hg, r⟩ := h.ex
  exact ⟨cs, (hb.block g hB).trans hg, r⟩
theorem LexS.drewN {w : World} {g : Nat} {s : ByteArray} {k : Nat} (h : LexS w g s k) (n : Nat) : LexS (w.drewN n) g s k := h.below (below_drewN (Below.refl w.heap.size w) n) h.lt
theorem LexS.set {w : World} {g : Nat} {s : ByteArray} {k : Nat} (h : LexS w g s k) (m : Nat) : LexS (w.setCell ⟨g, 1, none⟩ (.int .i64 (m : Int))) g s m := by
  obtain ⟨cs, hg, hs, h0, _, h2⟩ := h.ex
  refine ⟨_, heap_setCell_same w g 1 _ _ _ hg, by simpa using hs, ?_, ?_, fun b => ?_⟩
  · rw [Array.getElem?_setIfInBounds_ne (by omega)]; exact h0
  · rw [Array.getElem?_setIfInBounds_self, if_pos (by omega)]
  · rw [Array.getElem?_setIfInBounds_ne (by omega)]; exact h2 b
theorem setGrown (w : World) (g : Nat) (v : Value) : w.grownBy (w.setCell ⟨g, 1, none⟩ v) (some g) :=
  ⟨rfl, rfl, rfl, by simp [World.setCell], fun k _ hne => Below.heap_setCell _ _ _ _ (fun e => hne (by rw [e]))⟩

/-- The lexer moves on to m; nothing else that was there turns. -/
def Moved (w : World) (g : Nat) (s : ByteArray) (m : Nat) (w' : World) : Prop := LexS w' g s m ∧ w.grownBy w' (some g)

end Go.Proofs.YtjnanlfahgjcbaaDoor
