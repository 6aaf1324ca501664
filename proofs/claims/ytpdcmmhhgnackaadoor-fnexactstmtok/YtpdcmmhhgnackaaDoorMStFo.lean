/- The program's table of the forms of statements. Written by tools/gen_st.py. -/
/- impl.listFits over columns. Written by tools/gen_every.py. -/
/- impl.listFits over rules. Written by tools/gen_every.py. -/
import Derived.Test.YtpdcmmhhgnackaaDoorMRuleI
import Derived.Deep.MidRow
import Derived.Deep.Cut
import Derived.Test.YtpdcmmhhgnackaaDoorMOkW
namespace Go.Proofs.YtpdcmmhhgnackaaDoor
open Go.RowKit

def formsV : Array Value := #[.string (ByteArray.mk #[99, 114, 101, 97, 116, 101, 32, 116, 121, 112, 101]), .bool false, .int .i64 1, .int .i64 12, .int .i64 0, .int .i64 0, .bool false, .bool false, .int .i64 0, .int .i64 0, .int .i64 0, .int .i64 0, .int .i64 0, .int .i64 0, .string (ByteArray.mk #[100, 114, 111, 112, 32, 116, 121, 112, 101]), .bool false, .int .i64 0, .int .i64 0, .int .i64 0, .int .i64 0, .bool false, .bool false, .int .i64 0, .int .i64 0, .int .i64 0, .int .i64 0, .int .i64 0, .int .i64 0, .string (ByteArray.mk #[99, 114, 101, 97, 116, 101, 32, 115, 101, 113, 117, 101, 110, 99, 101]), .bool false, .int .i64 0, .int .i64 0, .int .i64 0, .int .i64 999999999, .bool false, .bool false, .int .i64 0, .int .i64 0, .int .i64 0, .int .i64 0, .int .i64 0, .int .i64 0, .string (ByteArray.mk #[100, 114, 111, 112, 32, 115, 101, 113, 117, 101, 110, 99, 101]), .bool false, .int .i64 0, .int .i64 0, .int .i64 0, .int .i64 0, .bool false, .bool false, .int .i64 0, .int .i64 0, .int .i64 0, .int .i64 0, .int .i64 0, .int .i64 0, .string (ByteArray.mk #[99, 114, 101, 97, 116, 101, 32, 116, 97, 98, 108, 101]), .bool false, .int .i64 0, .int .i64 0, .int .i64 0, .int .i64 0, .bool false, .bool false, .int .i64 0, .int .i64 12, .int .i64 0, .int .i64 8, .int .i64 0, .int .i64 0, .string (ByteArray.mk #[100, 114, 111, 112, 32, 116, 97, 98, 108, 101]), .bool false, .int .i64 0, .int .i64 0, .int .i64 0, .int .i64 0, .bool false, .bool false, .int .i64 0, .int .i64 0, .int .i64 0, .int .i64 0, .int .i64 0, .int .i64 0, .string (ByteArray.mk #[97, 108, 116, 101, 114, 32, 116, 97, 98, 108, 101]), .bool false, .int .i64 0, .int .i64 0, .int .i64 0, .int .i64 0, .bool false, .bool false, .int .i64 1, .int .i64 1, .int .i64 0, .int .i64 0, .int .i64 0, .int .i64 0, .string (ByteArray.mk #[97, 108, 116, 101, 114, 32, 116, 97, 98, 108, 101]), .bool true, .int .i64 0, .int .i64 0, .int .i64 0, .int .i64 0, .bool false, .bool false, .int .i64 0, .int .i64 0, .int .i64 0, .int .i64 0, .int .i64 0, .int .i64 0, .string (ByteArray.mk #[97, 108, 116, 101, 114, 32, 116, 97, 98, 108, 101]), .bool true, .int .i64 0, .int .i64 0, .int .i64 0, .int .i64 0, .bool false, .bool true, .int .i64 0, .int .i64 0, .int .i64 0, .int .i64 0, .int .i64 0, .int .i64 0, .string (ByteArray.mk #[97, 108, 116, 101, 114, 32, 116, 97, 98, 108, 101]), .bool true, .int .i64 0, .int .i64 0, .int .i64 0, .int .i64 0, .bool true, .bool false, .int .i64 0, .int .i64 0, .int .i64 0, .int .i64 0, .int .i64 0, .int .i64 0, .string (ByteArray.mk #[97, 108, 116, 101, 114, 32, 116, 97, 98, 108, 101]), .bool true, .int .i64 0, .int .i64 0, .int .i64 0, .int .i64 0, .bool false, .bool false, .int .i64 0, .int .i64 0, .int .i64 0, .int .i64 0, .int .i64 0, .int .i64 1, .string (ByteArray.mk #[97, 108, 116, 101, 114, 32, 116, 97, 98, 108, 101]), .bool false, .int .i64 0, .int .i64 0, .int .i64 0, .int .i64 0, .bool false, .bool false, .int .i64 0, .int .i64 0, .int .i64 1, .int .i64 1, .int .i64 0, .int .i64 0, .string (ByteArray.mk #[97, 108, 116, 101, 114, 32, 116, 97, 98, 108, 101]), .bool true, .int .i64 0, .int .i64 0, .int .i64 0, .int .i64 0, .bool false, .bool false, .int .i64 0, .int .i64 0, .int .i64 0, .int .i64 0, .int .i64 0, .int .i64 0, .string (ByteArray.mk #[99, 114, 101, 97, 116, 101, 32, 105, 110, 100, 101, 120]), .bool true, .int .i64 1, .int .i64 12, .int .i64 0, .int .i64 0, .bool true, .bool false, .int .i64 0, .int .i64 0, .int .i64 0, .int .i64 0, .int .i64 0, .int .i64 0, .string (ByteArray.mk #[100, 114, 111, 112, 32, 105, 110, 100, 101, 120]), .bool false, .int .i64 0, .int .i64 0, .int .i64 0, .int .i64 0, .bool false, .bool false, .int .i64 0, .int .i64 0, .int .i64 0, .int .i64 0, .int .i64 0, .int .i64 0, .string (ByteArray.mk #[99, 114, 101, 97, 116, 101, 32, 118, 105, 101, 119]), .bool true, .int .i64 1, .int .i64 12, .int .i64 0, .int .i64 0, .bool false, .bool false, .int .i64 0, .int .i64 0, .int .i64 0, .int .i64 0, .int .i64 0, .int .i64 1, .string (ByteArray.mk #[100, 114, 111, 112, 32, 118, 105, 101, 119]), .bool false, .int .i64 0, .int .i64 0, .int .i64 0, .int .i64 0, .bool false, .bool false, .int .i64 0, .int .i64 0, .int .i64 0, .int .i64 0, .int .i64 0, .int .i64 0]

def Sf.vs (f : Sf) : List Value := [.string (txt f.start), .bool f.on, .int .i64 f.l0, .int .i64 f.l1, .int .i64 f.n0, .int .i64 f.n1, .bool f.flag, .bool f.typed, .int .i64 f.c0, .int .i64 f.c1, .int .i64 f.r0, .int .i64 f.r1, .int .i64 f.e0, .int .i64 f.e1]

theorem belowCells2 {B : Nat} {a w : World} (h : Below B a w) {b : Nat} (hb : B ≤ b) : ∀ (o : Nat) (vs : List Value), Below B a (w.setCells b o vs)
  | _, [] => h
  | o, v :: r => by
    rw [World.setCells]
    exact belowCells2 (h.setCell (p := ⟨b, o, none⟩) hb v) hb (o + 1) r

theorem formsV_size : formsV.size = 238 := by kernel_rfl
theorem formsV_one : formsV.all (·.oneCell') = true := by kernel_rfl
theorem zeroForms : Tryd.zeroCells105.size = 238 := by kernel_rfl
theorem infoForms : (Tryd.prog.info? 105).map (·.size) = some 238 := by kernel_rfl

set_option maxRecDepth 100000 in
set_option maxHeartbeats 4000000 in
theorem implStmtForms (w : World) : Calls Tryd.prog 60 #[] w fun e w' => e = .returned (.agg formsV) ∧ Below w.heap.size w w' := by
  have r5 : (w.alloc (.cells Tryd.zeroCells105 105)).heap[w.heap.size]? = some (.cells Tryd.zeroCells105 105 (0, 0)) := heap_alloc_new w _
  have hthere : (w.alloc (.cells Tryd.zeroCells105 105)).there w.heap.size 0 formsV.size := fun j hj => by
    rw [cell_of_row _ _ _ _ _ _ r5]
    refine ⟨?_, frozen_of_row _ _ _ _ _ r5⟩
    have hj2 : j < 238 := by rw [formsV_size] at hj; exact hj
    simp
    omega
  go_enter Tryd.func60, Tryd.ntmps60
  go_wp2_with (refine wpList_store_mid rfl 105 (.tmp 0) (.tmp 28) rfl w.heap.size 0 formsV rfl rfl hthere (by rw [formsV_size]; exact infoForms) formsV_one ?_)
  have hres : (loadVar 105 ⟨w.heap.size, 0, none⟩).run Tryd.prog ((w.alloc (.cells Tryd.zeroCells105 105)).setCells w.heap.size 0 formsV.toList) = .ok (.agg formsV) ((w.alloc (.cells Tryd.zeroCells105 105)).setCells w.heap.size 0 formsV.toList) := by
    have := run_loadVar_mid (P := Tryd.prog) ((w.alloc (.cells Tryd.zeroCells105 105)).setCells w.heap.size 0 formsV.toList) w.heap.size 0 105 formsV.toList _ (World.rangeAt_setCells_same _ w.heap.size 0 formsV.toList (by simpa using hthere)) Tryd.underlying105 rfl (by rw [Array.length_toList, formsV_size]; exact infoForms)
    simpa using this
  exact bodyPost_ret (v := .agg formsV) (by simp [results, Tryd.results60, hres, Act.put, asAddr]) rfl ⟨rfl, belowCells2 ((Below.refl _ _).alloc (Nat.le_refl _) _) (Nat.le_refl _) _ _⟩

set_option maxRecDepth 100000 in
theorem formAt_0 (W : World) : (Instr.index 105 (.agg formsV) (.int .i64 0)).run Tryd.prog W = .ok (.agg #[.string (ByteArray.mk #[99, 114, 101, 97, 116, 101, 32, 116, 121, 112, 101]), .bool false, .int .i64 1, .int .i64 12, .int .i64 0, .int .i64 0, .bool false, .bool false, .int .i64 0, .int .i64 0, .int .i64 0, .int .i64 0, .int .i64 0, .int .i64 0]) W := by kernel_rfl

set_option maxRecDepth 100000 in
theorem formAt_1 (W : World) : (Instr.index 105 (.agg formsV) (.int .i64 1)).run Tryd.prog W = .ok (.agg #[.string (ByteArray.mk #[100, 114, 111, 112, 32, 116, 121, 112, 101]), .bool false, .int .i64 0, .int .i64 0, .int .i64 0, .int .i64 0, .bool false, .bool false, .int .i64 0, .int .i64 0, .int .i64 0, .int .i64 0, .int .i64 0, .int .i64 0]) W := by kernel_rfl

set_option maxRecDepth 100000 in
theorem formAt_2 (W : World) : (Instr.index 105 (.agg formsV) (.int .i64 2)).run Tryd.prog W = .ok (.agg #[.string (ByteArray.mk #[99, 114, 101, 97, 116, 101, 32, 115, 101, 113, 117, 101, 110, 99, 101]), .bool false, .int .i64 0, .int .i64 0, .int .i64 0, .int .i64 999999999, .bool false, .bool false, .int .i64 0, .int .i64 0, .int .i64 0, .int .i64 0, .int .i64 0, .int .i64 0]) W := by kernel_rfl

set_option maxRecDepth 100000 in
theorem formAt_3 (W : World) : (Instr.index 105 (.agg formsV) (.int .i64 3)).run Tryd.prog W = .ok (.agg #[.string (ByteArray.mk #[100, 114, 111, 112, 32, 115, 101, 113, 117, 101, 110, 99, 101]), .bool false, .int .i64 0, .int .i64 0, .int .i64 0, .int .i64 0, .bool false, .bool false, .int .i64 0, .int .i64 0, .int .i64 0, .int .i64 0, .int .i64 0, .int .i64 0]) W := by kernel_rfl

set_option maxRecDepth 100000 in
theorem formAt_4 (W : World) : (Instr.index 105 (.agg formsV) (.int .i64 4)).run Tryd.prog W = .ok (.agg #[.string (ByteArray.mk #[99, 114, 101, 97, 116, 101, 32, 116, 97, 98, 108, 101]), .bool false, .int .i64 0, .int .i64 0, .int .i64 0, .int .i64 0, .bool false, .bool false, .int .i64 0, .int .i64 12, .int .i64 0, .int .i64 8, .int .i64 0, .int .i64 0]) W := by kernel_rfl

set_option maxRecDepth 100000 in
theorem formAt_5 (W : World) : (Instr.index 105 (.agg formsV) (.int .i64 5)).run Tryd.prog W = .ok (.agg #[.string (ByteArray.mk #[100, 114, 111, 112, 32, 116, 97, 98, 108, 101]), .bool false, .int .i64 0, .int .i64 0, .int .i64 0, .int .i64 0, .bool false, .bool false, .int .i64 0, .int .i64 0, .int .i64 0, .int .i64 0, .int .i64 0, .int .i64 0]) W := by kernel_rfl

set_option maxRecDepth 100000 in
theorem formAt_6 (W : World) : (Instr.index 105 (.agg formsV) (.int .i64 6)).run Tryd.prog W = .ok (.agg #[.string (ByteArray.mk #[97, 108, 116, 101, 114, 32, 116, 97, 98, 108, 101]), .bool false, .int .i64 0, .int .i64 0, .int .i64 0, .int .i64 0, .bool false, .bool false, .int .i64 1, .int .i64 1, .int .i64 0, .int .i64 0, .int .i64 0, .int .i64 0]) W := by kernel_rfl

set_option maxRecDepth 100000 in
theorem formAt_7 (W : World) : (Instr.index 105 (.agg formsV) (.int .i64 7)).run Tryd.prog W = .ok (.agg #[.string (ByteArray.mk #[97, 108, 116, 101, 114, 32, 116, 97, 98, 108, 101]), .bool true, .int .i64 0, .int .i64 0, .int .i64 0, .int .i64 0, .bool false, .bool false, .int .i64 0, .int .i64 0, .int .i64 0, .int .i64 0, .int .i64 0, .int .i64 0]) W := by kernel_rfl

set_option maxRecDepth 100000 in
theorem formAt_8 (W : World) : (Instr.index 105 (.agg formsV) (.int .i64 8)).run Tryd.prog W = .ok (.agg #[.string (ByteArray.mk #[97, 108, 116, 101, 114, 32, 116, 97, 98, 108, 101]), .bool true, .int .i64 0, .int .i64 0, .int .i64 0, .int .i64 0, .bool false, .bool true, .int .i64 0, .int .i64 0, .int .i64 0, .int .i64 0, .int .i64 0, .int .i64 0]) W := by kernel_rfl

set_option maxRecDepth 100000 in
theorem formAt_9 (W : World) : (Instr.index 105 (.agg formsV) (.int .i64 9)).run Tryd.prog W = .ok (.agg #[.string (ByteArray.mk #[97, 108, 116, 101, 114, 32, 116, 97, 98, 108, 101]), .bool true, .int .i64 0, .int .i64 0, .int .i64 0, .int .i64 0, .bool true, .bool false, .int .i64 0, .int .i64 0, .int .i64 0, .int .i64 0, .int .i64 0, .int .i64 0]) W := by kernel_rfl

set_option maxRecDepth 100000 in
theorem formAt_10 (W : World) : (Instr.index 105 (.agg formsV) (.int .i64 10)).run Tryd.prog W = .ok (.agg #[.string (ByteArray.mk #[97, 108, 116, 101, 114, 32, 116, 97, 98, 108, 101]), .bool true, .int .i64 0, .int .i64 0, .int .i64 0, .int .i64 0, .bool false, .bool false, .int .i64 0, .int .i64 0, .int .i64 0, .int .i64 0, .int .i64 0, .int .i64 1]) W := by kernel_rfl

set_option maxRecDepth 100000 in
theorem formAt_11 (W : World) : (Instr.index 105 (.agg formsV) (.int .i64 11)).run Tryd.prog W = .ok (.agg #[.string (ByteArray.mk #[97, 108, 116, 101, 114, 32, 116, 97, 98, 108, 101]), .bool false, .int .i64 0, .int .i64 0, .int .i64 0, .int .i64 0, .bool false, .bool false, .int .i64 0, .int .i64 0, .int .i64 1, .int .i64 1, .int .i64 0, .int .i64 0]) W := by kernel_rfl

set_option maxRecDepth 100000 in
theorem formAt_12 (W : World) : (Instr.index 105 (.agg formsV) (.int .i64 12)).run Tryd.prog W = .ok (.agg #[.string (ByteArray.mk #[97, 108, 116, 101, 114, 32, 116, 97, 98, 108, 101]), .bool true, .int .i64 0, .int .i64 0, .int .i64 0, .int .i64 0, .bool false, .bool false, .int .i64 0, .int .i64 0, .int .i64 0, .int .i64 0, .int .i64 0, .int .i64 0]) W := by kernel_rfl

set_option maxRecDepth 100000 in
theorem formAt_13 (W : World) : (Instr.index 105 (.agg formsV) (.int .i64 13)).run Tryd.prog W = .ok (.agg #[.string (ByteArray.mk #[99, 114, 101, 97, 116, 101, 32, 105, 110, 100, 101, 120]), .bool true, .int .i64 1, .int .i64 12, .int .i64 0, .int .i64 0, .bool true, .bool false, .int .i64 0, .int .i64 0, .int .i64 0, .int .i64 0, .int .i64 0, .int .i64 0]) W := by kernel_rfl

set_option maxRecDepth 100000 in
theorem formAt_14 (W : World) : (Instr.index 105 (.agg formsV) (.int .i64 14)).run Tryd.prog W = .ok (.agg #[.string (ByteArray.mk #[100, 114, 111, 112, 32, 105, 110, 100, 101, 120]), .bool false, .int .i64 0, .int .i64 0, .int .i64 0, .int .i64 0, .bool false, .bool false, .int .i64 0, .int .i64 0, .int .i64 0, .int .i64 0, .int .i64 0, .int .i64 0]) W := by kernel_rfl

set_option maxRecDepth 100000 in
theorem formAt_15 (W : World) : (Instr.index 105 (.agg formsV) (.int .i64 15)).run Tryd.prog W = .ok (.agg #[.string (ByteArray.mk #[99, 114, 101, 97, 116, 101, 32, 118, 105, 101, 119]), .bool true, .int .i64 1, .int .i64 12, .int .i64 0, .int .i64 0, .bool false, .bool false, .int .i64 0, .int .i64 0, .int .i64 0, .int .i64 0, .int .i64 0, .int .i64 1]) W := by kernel_rfl

set_option maxRecDepth 100000 in
theorem formAt_16 (W : World) : (Instr.index 105 (.agg formsV) (.int .i64 16)).run Tryd.prog W = .ok (.agg #[.string (ByteArray.mk #[100, 114, 111, 112, 32, 118, 105, 101, 119]), .bool false, .int .i64 0, .int .i64 0, .int .i64 0, .int .i64 0, .bool false, .bool false, .int .i64 0, .int .i64 0, .int .i64 0, .int .i64 0, .int .i64 0, .int .i64 0]) W := by kernel_rfl

theorem formAt (k : Int) (h : 0 ≤ k ∧ k ≤ 16) (W : World) : (Instr.index 105 (.agg formsV) (.int .i64 k)).run Tryd.prog W = .ok (.agg (sf k).vs.toArray) W := by
  have hc : k = 0 ∨ k = 1 ∨ k = 2 ∨ k = 3 ∨ k = 4 ∨ k = 5 ∨ k = 6 ∨ k = 7 ∨ k = 8 ∨ k = 9 ∨ k = 10 ∨ k = 11 ∨ k = 12 ∨ k = 13 ∨ k = 14 ∨ k = 15 ∨ k = 16 := by omega
  rcases hc with rfl | rfl | rfl | rfl | rfl | rfl | rfl | rfl | rfl | rfl | rfl | rfl | rfl | rfl | rfl | rfl | rfl
  · exact formAt_0 W
  · exact formAt_1 W
  · exact formAt_2 W
  · exact formAt_3 W
  · exact formAt_4 W
  · exact formAt_5 W
  · exact formAt_6 W
  · exact formAt_7 W
  · exact formAt_8 W
  · exact formAt_9 W
  · exact formAt_10 W
  · exact formAt_11 W
  · exact formAt_12 W
  · exact formAt_13 W
  · exact formAt_14 W
  · exact formAt_15 W
  · exact formAt_16 W

end Go.Proofs.YtpdcmmhhgnackaaDoor

namespace Go.Proofs.YtpdcmmhhgnackaaDoor
open Go.RowKit

theorem okC (vs : List Value) (x : Co) (w : World) (hR : RCo 0 w vs x) (hJ : FormsAt w) (hq : x.wt ≤ 1048576) :
    Calls Tryd.prog 104 #[.agg vs.toArray] w fun e w' => e = .returned (.bool (colB x)) ∧ Below w.heap.size w w' :=
  implColFits vs x w hJ hR hq _ rfl

set_option maxRecDepth 100000 in
set_option maxHeartbeats 1000000 in
theorem notC (vs : List Value) (x : Co) (nb : Nat) (w : World) (hR : RCo 0 w vs x) (hJ : FormsAt w) (hq : x.wt ≤ 1048576) (hnb : w.cell? ⟨nb, 0, none⟩ = some (.func (.func 104) #[] #[])) (hlt : nb < w.heap.size) :
    Calls Tryd.prog 152 #[.agg vs.toArray, .pointer (some ⟨nb, 0, none⟩)] w fun e w' => e = .returned (.bool (!colB x)) ∧ Below w.heap.size w w' := by
  have HO := Lib.hid (fun w2 (hb : Below w.heap.size w w2) => okC vs x w2 (goodCo.kept hR (Kept.below hb)) (hJ.call hb) hq)
  obtain ⟨a0, c0, rfl, _⟩ := hR
  have QN := Lib.hid ((World.cell?_alloc_lt w (.cells [.string x.name, .int .i64 x.ty.kind, .int .i64 x.ty.len, .string x.ty.name, .bool x.notNull, .slice a0 x.dflt.length c0].toArray 43) ⟨nb, 0, none⟩ hlt).trans hnb)
  clear hJ
  go_enter Tryd.func152, Tryd.ntmps152
  go_wp2_with fail
  refine (HO.out _ (by ((repeat (first | refine Below.alloc ?_ (by first | omega | (simp; done) | (simp; omega)) _ | refine Below.setCell ?_ (by first | omega | (simp; done) | (simp; omega)) _)); first | exact Below.refl _ _ | exact Below.refl _ _))).mono ?_
  rintro e w2 ⟨rfl, b2⟩
  have B2 := Lib.hid (show Below w.heap.size w w2 from Below.call b2 (by ((repeat (first | refine Below.alloc ?_ (by first | omega | (simp; done) | (simp; omega)) _ | refine Below.setCell ?_ (by first | omega | (simp; done) | (simp; omega)) _)); first | exact Below.refl _ _ | exact Below.refl _ _)))
  clear b2
  go_wp2_with fail
  go_ret
  exact ⟨rfl, B2.out⟩

set_option maxRecDepth 100000 in
set_option maxHeartbeats 2000000 in
theorem idxC (a : Option Addr) (c : Nat) (xs : List Co) (nb : Nat) (w : World) (hx : Sl 6 RCo 0 w a c xs) (hJ : FormsAt w) (hq : ∀ x ∈ xs, x.wt ≤ 1048576) (hnb : w.cell? ⟨nb, 0, none⟩ = some (.func (.func 104) #[] #[])) (hlt0 : nb < w.heap.size) :
    Calls Tryd.prog 126 #[.slice a xs.length c, .func (.func 152) #[] #[.pointer (some ⟨nb, 0, none⟩)]] w fun e w' =>
      ∃ r : Int, e = .returned (.int .i64 r) ∧ Hid (decide (0 ≤ r) = !xs.all colB) ∧ Below w.heap.size w w' := by
  have hl := hx.len
  have HX := Lib.hid (fun w' (hb : Below w.heap.size w w') => hx.kept goodCo (Kept.below hb))
  have HJ := Lib.hid (fun w' (hb : Below w.heap.size w w') => hJ.call hb)
  have HN := Lib.hid (fun w' (hb : Below w.heap.size w w') => (And.intro ((hb.cell (p := ⟨nb, 0, none⟩) hlt0).trans hnb) (Nat.lt_of_lt_of_le hlt0 hb.size)))
  have HQ := Lib.hid hq
  clear hx hJ hq
  go_enter Tryd.func126, Tryd.ntmps126
  go_wp2
  go_loopw [8] (fun i wr => ∃ k : Nat, k ≤ xs.length ∧ i = .int .i64 k ∧ Hid (∀ m (hm : m < xs.length), m < k → colB xs[m] = true) ∧ Below w.heap.size w wr) (fun i _ => xs.length - (intOf i).toNat)
  case atStart => exact ⟨0, Nat.zero_le _, rfl, fun m h hm => absurd hm (by omega), Below.refl _ _⟩
  case round =>
    obtain ⟨k, hk, rfl, hall, hb⟩ := hrel
    by_cases hlt : k < xs.length
    · obtain ⟨b, off, vs, rfl, hbl, hcs, hR⟩ := (HX.out _ hb).spot hlt
      obtain ⟨hn1, hn2⟩ := HN.out _ hb
      have HR := hR
      obtain ⟨a0, c0, rfl, _⟩ := hR
      have hc0 : wr.cell? ⟨b, off + k * 6, none⟩ = some (.string xs[k].name) := hcs 0 (by simp)
      have hc1 : wr.cell? ⟨b, off + k * 6 + 1, none⟩ = some (.int .i64 xs[k].ty.kind) := hcs 1 (by simp)
      have hc2 : wr.cell? ⟨b, off + k * 6 + 2, none⟩ = some (.int .i64 xs[k].ty.len) := hcs 2 (by simp)
      have hc3 : wr.cell? ⟨b, off + k * 6 + 3, none⟩ = some (.string xs[k].ty.name) := hcs 3 (by simp)
      have hc4 : wr.cell? ⟨b, off + k * 6 + 4, none⟩ = some (.bool xs[k].notNull) := hcs 4 (by simp)
      have hc5 : wr.cell? ⟨b, off + k * 6 + 5, none⟩ = some (.slice a0 xs[k].dflt.length c0) := hcs 5 (by simp)
      have HK := Lib.hid HR
      clear HR hcs
      go_wp2_with fail
      refine (notC _ xs[k] nb _ HK.out (HJ.out _ hb) (HQ.out _ (List.getElem_mem hlt)) hn1 hn2).mono ?_
      rintro e w2 ⟨rfl, hb2⟩
      have HB2 := Lib.hid (hb.trans (hb2.mono hb.size))
      clear hb2
      cases he : colB xs[k] with
      | false =>
        have HE := Lib.hid (all_hit colB xs k hlt he)
        clear he
        go_wp2_with fail
        go_ret
        exact ⟨k, rfl, by unfold Hid; rw [HE.out]; simp, HB2.out⟩
      | true =>
        have HE := Lib.hid he
        clear he
        go_wp2_with fail
        go_roundw
        case rel => exact ⟨k + 1, by omega, by go_num, fun m hm h1 => by
          rcases Nat.lt_or_ge m k with h2 | h2
          · exact hall.out m hm h2
          · obtain rfl : m = k := by omega
            exact HE.out, HB2.out⟩
        case measure => simp [intOf]; omega
    · have HE := Lib.hid (all_miss colB xs fun m hm => hall.out m hm (by omega))
      go_wp2_with fail
      go_ret
      exact ⟨-1, rfl, by unfold Hid; rw [HE.out]; rfl, hb⟩

set_option maxHeartbeats 1000000 in
theorem contC (a : Option Addr) (c : Nat) (xs : List Co) (nb : Nat) (w : World) (hx : Sl 6 RCo 0 w a c xs) (hJ : FormsAt w) (hq : ∀ x ∈ xs, x.wt ≤ 1048576) (hnb : w.cell? ⟨nb, 0, none⟩ = some (.func (.func 104) #[] #[])) (hlt0 : nb < w.heap.size) :
    Calls Tryd.prog 151 #[.slice a xs.length c, .func (.func 152) #[] #[.pointer (some ⟨nb, 0, none⟩)]] w fun e w' =>
      e = .returned (.bool (!xs.all colB)) ∧ Below w.heap.size w w' := by
  have HC := Lib.hid (idxC a c xs nb w hx hJ hq hnb hlt0)
  clear hx hJ hq hnb
  go_enter Tryd.func151, Tryd.ntmps151
  go_wp2_with fail
  refine HC.out.mono ?_
  rintro e w2 ⟨r, rfl, hr, b2⟩
  have B2 := Lib.hid b2
  clear b2
  go_wp2_with fail
  go_ret
  exact ⟨by rw [← hr.out]; rfl, B2.out⟩

set_option maxHeartbeats 1000000 in
theorem everyC (a : Option Addr) (c : Nat) (xs : List Co) (w : World) (hx : Sl 6 RCo 0 w a c xs) (hJ : FormsAt w) (hq : ∀ x ∈ xs, x.wt ≤ 1048576) (v : Bool) (hv : xs.all colB = v) :
    Calls Tryd.prog 133 #[.slice a xs.length c, .func (.func 104) #[] #[]] w fun e w' => e = .returned (.bool v) ∧ Below w.heap.size w w' := by
  have hmf : ∀ (fn : Fn) (first cap : Array Value) (w : World), (Instr.makeFunc fn first cap).run Tryd.prog w = .ok (.func fn first cap) w := fun _ _ _ _ => rfl
  have HX := Lib.hid (fun w' (hb : Below w.heap.size w w') => And.intro (hx.kept goodCo (Kept.below hb)) (hJ.call hb))
  have HQ := Lib.hid hq
  have HV := Lib.hid hv
  clear hx hJ hq hv
  go_enter Tryd.func133, Tryd.ntmps133
  go_wp2_with fail
  refine (contC a c xs w.heap.size _ (HX.out _ (by ((repeat (first | refine Below.alloc ?_ (by first | omega | (simp; done) | (simp; omega)) _ | refine Below.setCell ?_ (by first | omega | (simp; done) | (simp; omega)) _)); first | exact Below.refl _ _ | exact Below.refl _ _))).1 (HX.out _ (by ((repeat (first | refine Below.alloc ?_ (by first | omega | (simp; done) | (simp; omega)) _ | refine Below.setCell ?_ (by first | omega | (simp; done) | (simp; omega)) _)); first | exact Below.refl _ _ | exact Below.refl _ _))).2 HQ.out (by simp [go_sem]) (by simp)).mono ?_
  rintro e w2 ⟨rfl, b2⟩
  have B2 := Lib.hid (show Below w.heap.size w w2 from Below.call b2 (by ((repeat (first | refine Below.alloc ?_ (by first | omega | (simp; done) | (simp; omega)) _ | refine Below.setCell ?_ (by first | omega | (simp; done) | (simp; omega)) _)); first | exact Below.refl _ _ | exact Below.refl _ _)))
  clear b2
  go_wp2_with fail
  go_ret
  exact ⟨by rw [HV.out]; cases v <;> rfl, B2.out⟩

set_option maxHeartbeats 1000000 in
theorem fitsC (a : Option Addr) (c : Nat) (xs : List Co) (lo hi : Int) (w : World) (hx : Sl 6 RCo 0 w a c xs) (hJ : FormsAt w) (hq : ∀ x ∈ xs, x.wt ≤ 1048576) (v : Bool) (hv : (inI xs.length lo hi && xs.all colB) = v) :
    Calls Tryd.prog 103 #[.slice a xs.length c, .agg #[.int .i64 lo, .int .i64 hi], .func (.func 104) #[] #[]] w fun e w' => e = .returned (.bool v) ∧ Below w.heap.size w w' := by
  have hl := hx.len
  have HE := Lib.hid (fun w' (hb : Below w.heap.size w w') => everyC a c xs w' (hx.kept goodCo (Kept.below hb)) (hJ.call hb) hq _ rfl)
  clear hx hJ hq
  cases h1 : inI xs.length lo hi with
  | false =>
    have HV : Hid (v = false) := by unfold Hid; rw [← hv, h1]; rfl
    have HI := Lib.hid h1
    clear hv h1
    go_enter Tryd.func103, Tryd.ntmps103
    go_wp2_with fail
    refine (spanAllows lo hi xs.length _ false HI.out).mono ?_
    rintro e w1 ⟨rfl, b1⟩
    have B1 := Lib.hid (show Below w.heap.size w w1 from Below.call b1 (by ((repeat (first | refine Below.alloc ?_ (by first | omega | (simp; done) | (simp; omega)) _ | refine Below.setCell ?_ (by first | omega | (simp; done) | (simp; omega)) _)); first | exact Below.refl _ _ | exact Below.refl _ _)))
    clear b1
    go_wp2_with fail
    go_ret
    exact ⟨by rw [HV.out] <;> rfl, B1.out⟩
  | true =>
    have HV : Hid (xs.all colB = v) := by unfold Hid; rw [← hv, h1]; rfl
    have HI := Lib.hid h1
    clear hv h1
    go_enter Tryd.func103, Tryd.ntmps103
    go_wp2_with fail
    refine (spanAllows lo hi xs.length _ true HI.out).mono ?_
    rintro e w1 ⟨rfl, b1⟩
    have B1 := Lib.hid (show Below w.heap.size w w1 from Below.call b1 (by ((repeat (first | refine Below.alloc ?_ (by first | omega | (simp; done) | (simp; omega)) _ | refine Below.setCell ?_ (by first | omega | (simp; done) | (simp; omega)) _)); first | exact Below.refl _ _ | exact Below.refl _ _)))
    clear b1
    go_wp2_with fail
    refine (HE.out _ B1.out).mono ?_
    rintro e w2 ⟨rfl, b2⟩
    have B2 := Lib.hid (show Below w.heap.size w w2 from Below.call b2 B1.out)
    clear b2
    go_wp2_with fail
    go_ret
    exact ⟨by rw [HV.out] <;> rfl, B2.out⟩

end Go.Proofs.YtpdcmmhhgnackaaDoor

namespace Go.Proofs.YtpdcmmhhgnackaaDoor
open Go.RowKit

theorem okU (vs : List Value) (x : Ru) (w : World) (hR : RRu 0 w vs x) (hJ : FormR w) (hq : x.wt ≤ 1048576) :
    Calls Tryd.prog 106 #[.agg vs.toArray] w fun e w' => e = .returned (.bool (ruleB x)) ∧ Below w.heap.size w w' :=
  implRuleFits vs x w hJ hR hq _ rfl

set_option maxRecDepth 100000 in
set_option maxHeartbeats 1000000 in
theorem notU (vs : List Value) (x : Ru) (nb : Nat) (w : World) (hR : RRu 0 w vs x) (hJ : FormR w) (hq : x.wt ≤ 1048576) (hnb : w.cell? ⟨nb, 0, none⟩ = some (.func (.func 106) #[] #[])) (hlt : nb < w.heap.size) :
    Calls Tryd.prog 154 #[.agg vs.toArray, .pointer (some ⟨nb, 0, none⟩)] w fun e w' => e = .returned (.bool (!ruleB x)) ∧ Below w.heap.size w w' := by
  have HO := Lib.hid (fun w2 (hb : Below w.heap.size w w2) => okU vs x w2 (goodRu.kept hR (Kept.below hb)) (hJ.call hb) hq)
  obtain ⟨a0, c0, a1, c1, a2, c2, rfl, _⟩ := hR
  have QN := Lib.hid ((World.cell?_alloc_lt w (.cells [.string x.name, .int .i64 x.kind, .slice a0 x.cols.length c0, .slice a1 x.expr.length c1, .string x.table, .slice a2 x.to.length c2].toArray 152) ⟨nb, 0, none⟩ hlt).trans hnb)
  clear hJ
  go_enter Tryd.func154, Tryd.ntmps154
  go_wp2_with fail
  refine (HO.out _ (by ((repeat (first | refine Below.alloc ?_ (by first | omega | (simp; done) | (simp; omega)) _ | refine Below.setCell ?_ (by first | omega | (simp; done) | (simp; omega)) _)); first | exact Below.refl _ _ | exact Below.refl _ _))).mono ?_
  rintro e w2 ⟨rfl, b2⟩
  have B2 := Lib.hid (show Below w.heap.size w w2 from Below.call b2 (by ((repeat (first | refine Below.alloc ?_ (by first | omega | (simp; done) | (simp; omega)) _ | refine Below.setCell ?_ (by first | omega | (simp; done) | (simp; omega)) _)); first | exact Below.refl _ _ | exact Below.refl _ _)))
  clear b2
  go_wp2_with fail
  go_ret
  exact ⟨rfl, B2.out⟩

set_option maxRecDepth 100000 in
set_option maxHeartbeats 2000000 in
theorem idxU (a : Option Addr) (c : Nat) (xs : List Ru) (nb : Nat) (w : World) (hx : Sl 6 RRu 0 w a c xs) (hJ : FormR w) (hq : ∀ x ∈ xs, x.wt ≤ 1048576) (hnb : w.cell? ⟨nb, 0, none⟩ = some (.func (.func 106) #[] #[])) (hlt0 : nb < w.heap.size) :
    Calls Tryd.prog 162 #[.slice a xs.length c, .func (.func 154) #[] #[.pointer (some ⟨nb, 0, none⟩)]] w fun e w' =>
      ∃ r : Int, e = .returned (.int .i64 r) ∧ Hid (decide (0 ≤ r) = !xs.all ruleB) ∧ Below w.heap.size w w' := by
  have hl := hx.len
  have HX := Lib.hid (fun w' (hb : Below w.heap.size w w') => hx.kept goodRu (Kept.below hb))
  have HJ := Lib.hid (fun w' (hb : Below w.heap.size w w') => hJ.call hb)
  have HN := Lib.hid (fun w' (hb : Below w.heap.size w w') => (And.intro ((hb.cell (p := ⟨nb, 0, none⟩) hlt0).trans hnb) (Nat.lt_of_lt_of_le hlt0 hb.size)))
  have HQ := Lib.hid hq
  clear hx hJ hq
  go_enter Tryd.func162, Tryd.ntmps162
  go_wp2
  go_loopw [8] (fun i wr => ∃ k : Nat, k ≤ xs.length ∧ i = .int .i64 k ∧ Hid (∀ m (hm : m < xs.length), m < k → ruleB xs[m] = true) ∧ Below w.heap.size w wr) (fun i _ => xs.length - (intOf i).toNat)
  case atStart => exact ⟨0, Nat.zero_le _, rfl, fun m h hm => absurd hm (by omega), Below.refl _ _⟩
  case round =>
    obtain ⟨k, hk, rfl, hall, hb⟩ := hrel
    by_cases hlt : k < xs.length
    · obtain ⟨b, off, vs, rfl, hbl, hcs, hR⟩ := (HX.out _ hb).spot hlt
      obtain ⟨hn1, hn2⟩ := HN.out _ hb
      have HR := hR
      obtain ⟨a0, c0, a1, c1, a2, c2, rfl, _⟩ := hR
      have hc0 : wr.cell? ⟨b, off + k * 6, none⟩ = some (.string xs[k].name) := hcs 0 (by simp)
      have hc1 : wr.cell? ⟨b, off + k * 6 + 1, none⟩ = some (.int .i64 xs[k].kind) := hcs 1 (by simp)
      have hc2 : wr.cell? ⟨b, off + k * 6 + 2, none⟩ = some (.slice a0 xs[k].cols.length c0) := hcs 2 (by simp)
      have hc3 : wr.cell? ⟨b, off + k * 6 + 3, none⟩ = some (.slice a1 xs[k].expr.length c1) := hcs 3 (by simp)
      have hc4 : wr.cell? ⟨b, off + k * 6 + 4, none⟩ = some (.string xs[k].table) := hcs 4 (by simp)
      have hc5 : wr.cell? ⟨b, off + k * 6 + 5, none⟩ = some (.slice a2 xs[k].to.length c2) := hcs 5 (by simp)
      have HK := Lib.hid HR
      clear HR hcs
      go_wp2_with fail
      refine (notU _ xs[k] nb _ HK.out (HJ.out _ hb) (HQ.out _ (List.getElem_mem hlt)) hn1 hn2).mono ?_
      rintro e w2 ⟨rfl, hb2⟩
      have HB2 := Lib.hid (hb.trans (hb2.mono hb.size))
      clear hb2
      cases he : ruleB xs[k] with
      | false =>
        have HE := Lib.hid (all_hit ruleB xs k hlt he)
        clear he
        go_wp2_with fail
        go_ret
        exact ⟨k, rfl, by unfold Hid; rw [HE.out]; simp, HB2.out⟩
      | true =>
        have HE := Lib.hid he
        clear he
        go_wp2_with fail
        go_roundw
        case rel => exact ⟨k + 1, by omega, by go_num, fun m hm h1 => by
          rcases Nat.lt_or_ge m k with h2 | h2
          · exact hall.out m hm h2
          · obtain rfl : m = k := by omega
            exact HE.out, HB2.out⟩
        case measure => simp [intOf]; omega
    · have HE := Lib.hid (all_miss ruleB xs fun m hm => hall.out m hm (by omega))
      go_wp2_with fail
      go_ret
      exact ⟨-1, rfl, by unfold Hid; rw [HE.out]; rfl, hb⟩

set_option maxHeartbeats 1000000 in
theorem contU (a : Option Addr) (c : Nat) (xs : List Ru) (nb : Nat) (w : World) (hx : Sl 6 RRu 0 w a c xs) (hJ : FormR w) (hq : ∀ x ∈ xs, x.wt ≤ 1048576) (hnb : w.cell? ⟨nb, 0, none⟩ = some (.func (.func 106) #[] #[])) (hlt0 : nb < w.heap.size) :
    Calls Tryd.prog 153 #[.slice a xs.length c, .func (.func 154) #[] #[.pointer (some ⟨nb, 0, none⟩)]] w fun e w' =>
      e = .returned (.bool (!xs.all ruleB)) ∧ Below w.heap.size w w' := by
  have HC := Lib.hid (idxU a c xs nb w hx hJ hq hnb hlt0)
  clear hx hJ hq hnb
  go_enter Tryd.func153, Tryd.ntmps153
  go_wp2_with fail
  refine HC.out.mono ?_
  rintro e w2 ⟨r, rfl, hr, b2⟩
  have B2 := Lib.hid b2
  clear b2
  go_wp2_with fail
  go_ret
  exact ⟨by rw [← hr.out]; rfl, B2.out⟩

set_option maxHeartbeats 1000000 in
theorem everyU (a : Option Addr) (c : Nat) (xs : List Ru) (w : World) (hx : Sl 6 RRu 0 w a c xs) (hJ : FormR w) (hq : ∀ x ∈ xs, x.wt ≤ 1048576) (v : Bool) (hv : xs.all ruleB = v) :
    Calls Tryd.prog 134 #[.slice a xs.length c, .func (.func 106) #[] #[]] w fun e w' => e = .returned (.bool v) ∧ Below w.heap.size w w' := by
  have hmf : ∀ (fn : Fn) (first cap : Array Value) (w : World), (Instr.makeFunc fn first cap).run Tryd.prog w = .ok (.func fn first cap) w := fun _ _ _ _ => rfl
  have HX := Lib.hid (fun w' (hb : Below w.heap.size w w') => And.intro (hx.kept goodRu (Kept.below hb)) (hJ.call hb))
  have HQ := Lib.hid hq
  have HV := Lib.hid hv
  clear hx hJ hq hv
  go_enter Tryd.func134, Tryd.ntmps134
  go_wp2_with fail
  refine (contU a c xs w.heap.size _ (HX.out _ (by ((repeat (first | refine Below.alloc ?_ (by first | omega | (simp; done) | (simp; omega)) _ | refine Below.setCell ?_ (by first | omega | (simp; done) | (simp; omega)) _)); first | exact Below.refl _ _ | exact Below.refl _ _))).1 (HX.out _ (by ((repeat (first | refine Below.alloc ?_ (by first | omega | (simp; done) | (simp; omega)) _ | refine Below.setCell ?_ (by first | omega | (simp; done) | (simp; omega)) _)); first | exact Below.refl _ _ | exact Below.refl _ _))).2 HQ.out (by simp [go_sem]) (by simp)).mono ?_
  rintro e w2 ⟨rfl, b2⟩
  have B2 := Lib.hid (show Below w.heap.size w w2 from Below.call b2 (by ((repeat (first | refine Below.alloc ?_ (by first | omega | (simp; done) | (simp; omega)) _ | refine Below.setCell ?_ (by first | omega | (simp; done) | (simp; omega)) _)); first | exact Below.refl _ _ | exact Below.refl _ _)))
  clear b2
  go_wp2_with fail
  go_ret
  exact ⟨by rw [HV.out]; cases v <;> rfl, B2.out⟩

set_option maxHeartbeats 1000000 in
theorem fitsU (a : Option Addr) (c : Nat) (xs : List Ru) (lo hi : Int) (w : World) (hx : Sl 6 RRu 0 w a c xs) (hJ : FormR w) (hq : ∀ x ∈ xs, x.wt ≤ 1048576) (v : Bool) (hv : (inI xs.length lo hi && xs.all ruleB) = v) :
    Calls Tryd.prog 105 #[.slice a xs.length c, .agg #[.int .i64 lo, .int .i64 hi], .func (.func 106) #[] #[]] w fun e w' => e = .returned (.bool v) ∧ Below w.heap.size w w' := by
  have hl := hx.len
  have HE := Lib.hid (fun w' (hb : Below w.heap.size w w') => everyU a c xs w' (hx.kept goodRu (Kept.below hb)) (hJ.call hb) hq _ rfl)
  clear hx hJ hq
  cases h1 : inI xs.length lo hi with
  | false =>
    have HV : Hid (v = false) := by unfold Hid; rw [← hv, h1]; rfl
    have HI := Lib.hid h1
    clear hv h1
    go_enter Tryd.func105, Tryd.ntmps105
    go_wp2_with fail
    refine (spanAllows lo hi xs.length _ false HI.out).mono ?_
    rintro e w1 ⟨rfl, b1⟩
    have B1 := Lib.hid (show Below w.heap.size w w1 from Below.call b1 (by ((repeat (first | refine Below.alloc ?_ (by first | omega | (simp; done) | (simp; omega)) _ | refine Below.setCell ?_ (by first | omega | (simp; done) | (simp; omega)) _)); first | exact Below.refl _ _ | exact Below.refl _ _)))
    clear b1
    go_wp2_with fail
    go_ret
    exact ⟨by rw [HV.out] <;> rfl, B1.out⟩
  | true =>
    have HV : Hid (xs.all ruleB = v) := by unfold Hid; rw [← hv, h1]; rfl
    have HI := Lib.hid h1
    clear hv h1
    go_enter Tryd.func105, Tryd.ntmps105
    go_wp2_with fail
    refine (spanAllows lo hi xs.length _ true HI.out).mono ?_
    rintro e w1 ⟨rfl, b1⟩
    have B1 := Lib.hid (show Below w.heap.size w w1 from Below.call b1 (by ((repeat (first | refine Below.alloc ?_ (by first | omega | (simp; done) | (simp; omega)) _ | refine Below.setCell ?_ (by first | omega | (simp; done) | (simp; omega)) _)); first | exact Below.refl _ _ | exact Below.refl _ _)))
    clear b1
    go_wp2_with fail
    refine (HE.out _ B1.out).mono ?_
    rintro e w2 ⟨rfl, b2⟩
    have B2 := Lib.hid (show Below w.heap.size w w2 from Below.call b2 B1.out)
    clear b2
    go_wp2_with fail
    go_ret
    exact ⟨by rw [HV.out] <;> rfl, B2.out⟩

end Go.Proofs.YtpdcmmhhgnackaaDoor
