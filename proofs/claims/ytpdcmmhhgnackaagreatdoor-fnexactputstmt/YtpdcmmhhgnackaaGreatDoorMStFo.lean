/- The program's table of the forms of statements. Written by tools/gen_st.py. -/
/- impl.textsOf over impl.PutName. Written by tools/gen_every.py. -/
/- impl.textsOf over impl.PutExpr. Written by tools/gen_every.py. -/
/- impl.listFits over rules. Written by tools/gen_every.py. -/
import Derived.Test.YtpdcmmhhgnackaaGreatDoorMRuleI
import Derived.Deep.MidRow
import Derived.Deep.Cut
import Derived.Test.YtpdcmmhhgnackaaGreatDoorMTxtI
import Derived.Test.YtpdcmmhhgnackaaGreatDoorMStAg
import Derived.Test.YtpdcmmhhgnackaaGreatDoorMTxtJ
namespace Go.Proofs.YtpdcmmhhgnackaaGreatDoor
open Go.RowKit

def formsV : Array Value := #[.string (ByteArray.mk #[99, 114, 101, 97, 116, 101, 32, 116, 121, 112, 101]), .bool false, .int .i64 1, .int .i64 12, .int .i64 0, .int .i64 0, .bool false, .bool false, .int .i64 0, .int .i64 0, .int .i64 0, .int .i64 0, .int .i64 0, .int .i64 0, .string (ByteArray.mk #[100, 114, 111, 112, 32, 116, 121, 112, 101]), .bool false, .int .i64 0, .int .i64 0, .int .i64 0, .int .i64 0, .bool false, .bool false, .int .i64 0, .int .i64 0, .int .i64 0, .int .i64 0, .int .i64 0, .int .i64 0, .string (ByteArray.mk #[99, 114, 101, 97, 116, 101, 32, 115, 101, 113, 117, 101, 110, 99, 101]), .bool false, .int .i64 0, .int .i64 0, .int .i64 0, .int .i64 999999999, .bool false, .bool false, .int .i64 0, .int .i64 0, .int .i64 0, .int .i64 0, .int .i64 0, .int .i64 0, .string (ByteArray.mk #[100, 114, 111, 112, 32, 115, 101, 113, 117, 101, 110, 99, 101]), .bool false, .int .i64 0, .int .i64 0, .int .i64 0, .int .i64 0, .bool false, .bool false, .int .i64 0, .int .i64 0, .int .i64 0, .int .i64 0, .int .i64 0, .int .i64 0, .string (ByteArray.mk #[99, 114, 101, 97, 116, 101, 32, 116, 97, 98, 108, 101]), .bool false, .int .i64 0, .int .i64 0, .int .i64 0, .int .i64 0, .bool false, .bool false, .int .i64 0, .int .i64 12, .int .i64 0, .int .i64 8, .int .i64 0, .int .i64 0, .string (ByteArray.mk #[100, 114, 111, 112, 32, 116, 97, 98, 108, 101]), .bool false, .int .i64 0, .int .i64 0, .int .i64 0, .int .i64 0, .bool false, .bool false, .int .i64 0, .int .i64 0, .int .i64 0, .int .i64 0, .int .i64 0, .int .i64 0, .string (ByteArray.mk #[97, 108, 116, 101, 114, 32, 116, 97, 98, 108, 101]), .bool false, .int .i64 0, .int .i64 0, .int .i64 0, .int .i64 0, .bool false, .bool false, .int .i64 1, .int .i64 1, .int .i64 0, .int .i64 0, .int .i64 0, .int .i64 0, .string (ByteArray.mk #[97, 108, 116, 101, 114, 32, 116, 97, 98, 108, 101]), .bool true, .int .i64 0, .int .i64 0, .int .i64 0, .int .i64 0, .bool false, .bool false, .int .i64 0, .int .i64 0, .int .i64 0, .int .i64 0, .int .i64 0, .int .i64 0, .string (ByteArray.mk #[97, 108, 116, 101, 114, 32, 116, 97, 98, 108, 101]), .bool true, .int .i64 0, .int .i64 0, .int .i64 0, .int .i64 0, .bool false, .bool true, .int .i64 0, .int .i64 0, .int .i64 0, .int .i64 0, .int .i64 0, .int .i64 0, .string (ByteArray.mk #[97, 108, 116, 101, 114, 32, 116, 97, 98, 108, 101]), .bool true, .int .i64 0, .int .i64 0, .int .i64 0, .int .i64 0, .bool true, .bool false, .int .i64 0, .int .i64 0, .int .i64 0, .int .i64 0, .int .i64 0, .int .i64 0, .string (ByteArray.mk #[97, 108, 116, 101, 114, 32, 116, 97, 98, 108, 101]), .bool true, .int .i64 0, .int .i64 0, .int .i64 0, .int .i64 0, .bool false, .bool false, .int .i64 0, .int .i64 0, .int .i64 0, .int .i64 0, .int .i64 0, .int .i64 1, .string (ByteArray.mk #[97, 108, 116, 101, 114, 32, 116, 97, 98, 108, 101]), .bool false, .int .i64 0, .int .i64 0, .int .i64 0, .int .i64 0, .bool false, .bool false, .int .i64 0, .int .i64 0, .int .i64 1, .int .i64 1, .int .i64 0, .int .i64 0, .string (ByteArray.mk #[97, 108, 116, 101, 114, 32, 116, 97, 98, 108, 101]), .bool true, .int .i64 0, .int .i64 0, .int .i64 0, .int .i64 0, .bool false, .bool false, .int .i64 0, .int .i64 0, .int .i64 0, .int .i64 0, .int .i64 0, .int .i64 0, .string (ByteArray.mk #[99, 114, 101, 97, 116, 101, 32, 105, 110, 100, 101, 120]), .bool true, .int .i64 1, .int .i64 12, .int .i64 0, .int .i64 0, .bool true, .bool false, .int .i64 0, .int .i64 0, .int .i64 0, .int .i64 0, .int .i64 0, .int .i64 0, .string (ByteArray.mk #[100, 114, 111, 112, 32, 105, 110, 100, 101, 120]), .bool false, .int .i64 0, .int .i64 0, .int .i64 0, .int .i64 0, .bool false, .bool false, .int .i64 0, .int .i64 0, .int .i64 0, .int .i64 0, .int .i64 0, .int .i64 0, .string (ByteArray.mk #[99, 114, 101, 97, 116, 101, 32, 118, 105, 101, 119]), .bool true, .int .i64 1, .int .i64 12, .int .i64 0, .int .i64 0, .bool false, .bool false, .int .i64 0, .int .i64 0, .int .i64 0, .int .i64 0, .int .i64 0, .int .i64 1, .string (ByteArray.mk #[100, 114, 111, 112, 32, 118, 105, 101, 119]), .bool false, .int .i64 0, .int .i64 0, .int .i64 0, .int .i64 0, .bool false, .bool false, .int .i64 0, .int .i64 0, .int .i64 0, .int .i64 0, .int .i64 0, .int .i64 0]

def Sf.vs (f : Sf) : List Value := [.string (txt f.start), .bool f.on, .int .i64 f.l0, .int .i64 f.l1, .int .i64 f.n0, .int .i64 f.n1, .bool f.flag, .bool f.typed, .int .i64 f.c0, .int .i64 f.c1, .int .i64 f.r0, .int .i64 f.r1, .int .i64 f.e0, .int .i64 f.e1]

theorem belowCells2 {B : Nat} {a w : World} (h : Below B a w) {b : Nat} (hb : B ≤ b) : ∀ (o : Nat) (vs : List Value), Below B a (w.setCells b o vs)
  | _, [] => h
  | o, v :: r => by
    rw [World.setCells]
    exact belowCells2 (h.setCell (p := ⟨b, o, none⟩) hb v) hb (o + 1) r

theorem formsV_size : formsV.size = 238 := by kernel_rfl
theorem formsV_one : formsV.all (·.oneCell') = true := by kernel_rfl
theorem zeroForms : Tryz.zeroCells123.size = 238 := by kernel_rfl
theorem infoForms : (Tryz.prog.info? 123).map (·.size) = some 238 := by kernel_rfl

set_option maxRecDepth 100000 in
set_option maxHeartbeats 4000000 in
theorem implStmtForms (w : World) : Calls Tryz.prog 91 #[] w fun e w' => e = .returned (.agg formsV) ∧ Below w.heap.size w w' := by
  have r5 : (w.alloc (.cells Tryz.zeroCells123 123)).heap[w.heap.size]? = some (.cells Tryz.zeroCells123 123 (0, 0)) := heap_alloc_new w _
  have hthere : (w.alloc (.cells Tryz.zeroCells123 123)).there w.heap.size 0 formsV.size := fun j hj => by
    rw [cell_of_row _ _ _ _ _ _ r5]
    refine ⟨?_, frozen_of_row _ _ _ _ _ r5⟩
    have hj2 : j < 238 := by rw [formsV_size] at hj; exact hj
    simp
    omega
  go_enter Tryz.func91, Tryz.ntmps91
  go_wp2_with (refine wpList_store_mid rfl 123 (.tmp 0) (.tmp 28) rfl w.heap.size 0 formsV rfl rfl hthere (by rw [formsV_size]; exact infoForms) formsV_one ?_)
  have hres : (loadVar 123 ⟨w.heap.size, 0, none⟩).run Tryz.prog ((w.alloc (.cells Tryz.zeroCells123 123)).setCells w.heap.size 0 formsV.toList) = .ok (.agg formsV) ((w.alloc (.cells Tryz.zeroCells123 123)).setCells w.heap.size 0 formsV.toList) := by
    have := run_loadVar_mid (P := Tryz.prog) ((w.alloc (.cells Tryz.zeroCells123 123)).setCells w.heap.size 0 formsV.toList) w.heap.size 0 123 formsV.toList _ (World.rangeAt_setCells_same _ w.heap.size 0 formsV.toList (by simpa using hthere)) Tryz.underlying123 rfl (by rw [Array.length_toList, formsV_size]; exact infoForms)
    simpa using this
  exact bodyPost_ret (v := .agg formsV) (by simp [results, Tryz.results91, hres, Act.put, asAddr]) rfl ⟨rfl, belowCells2 ((Below.refl _ _).alloc (Nat.le_refl _) _) (Nat.le_refl _) _ _⟩

set_option maxRecDepth 100000 in
theorem formAt_0 (W : World) : (Instr.index 123 (.agg formsV) (.int .i64 0)).run Tryz.prog W = .ok (.agg #[.string (ByteArray.mk #[99, 114, 101, 97, 116, 101, 32, 116, 121, 112, 101]), .bool false, .int .i64 1, .int .i64 12, .int .i64 0, .int .i64 0, .bool false, .bool false, .int .i64 0, .int .i64 0, .int .i64 0, .int .i64 0, .int .i64 0, .int .i64 0]) W := by kernel_rfl

set_option maxRecDepth 100000 in
theorem formAt_1 (W : World) : (Instr.index 123 (.agg formsV) (.int .i64 1)).run Tryz.prog W = .ok (.agg #[.string (ByteArray.mk #[100, 114, 111, 112, 32, 116, 121, 112, 101]), .bool false, .int .i64 0, .int .i64 0, .int .i64 0, .int .i64 0, .bool false, .bool false, .int .i64 0, .int .i64 0, .int .i64 0, .int .i64 0, .int .i64 0, .int .i64 0]) W := by kernel_rfl

set_option maxRecDepth 100000 in
theorem formAt_2 (W : World) : (Instr.index 123 (.agg formsV) (.int .i64 2)).run Tryz.prog W = .ok (.agg #[.string (ByteArray.mk #[99, 114, 101, 97, 116, 101, 32, 115, 101, 113, 117, 101, 110, 99, 101]), .bool false, .int .i64 0, .int .i64 0, .int .i64 0, .int .i64 999999999, .bool false, .bool false, .int .i64 0, .int .i64 0, .int .i64 0, .int .i64 0, .int .i64 0, .int .i64 0]) W := by kernel_rfl

set_option maxRecDepth 100000 in
theorem formAt_3 (W : World) : (Instr.index 123 (.agg formsV) (.int .i64 3)).run Tryz.prog W = .ok (.agg #[.string (ByteArray.mk #[100, 114, 111, 112, 32, 115, 101, 113, 117, 101, 110, 99, 101]), .bool false, .int .i64 0, .int .i64 0, .int .i64 0, .int .i64 0, .bool false, .bool false, .int .i64 0, .int .i64 0, .int .i64 0, .int .i64 0, .int .i64 0, .int .i64 0]) W := by kernel_rfl

set_option maxRecDepth 100000 in
theorem formAt_4 (W : World) : (Instr.index 123 (.agg formsV) (.int .i64 4)).run Tryz.prog W = .ok (.agg #[.string (ByteArray.mk #[99, 114, 101, 97, 116, 101, 32, 116, 97, 98, 108, 101]), .bool false, .int .i64 0, .int .i64 0, .int .i64 0, .int .i64 0, .bool false, .bool false, .int .i64 0, .int .i64 12, .int .i64 0, .int .i64 8, .int .i64 0, .int .i64 0]) W := by kernel_rfl

set_option maxRecDepth 100000 in
theorem formAt_5 (W : World) : (Instr.index 123 (.agg formsV) (.int .i64 5)).run Tryz.prog W = .ok (.agg #[.string (ByteArray.mk #[100, 114, 111, 112, 32, 116, 97, 98, 108, 101]), .bool false, .int .i64 0, .int .i64 0, .int .i64 0, .int .i64 0, .bool false, .bool false, .int .i64 0, .int .i64 0, .int .i64 0, .int .i64 0, .int .i64 0, .int .i64 0]) W := by kernel_rfl

set_option maxRecDepth 100000 in
theorem formAt_6 (W : World) : (Instr.index 123 (.agg formsV) (.int .i64 6)).run Tryz.prog W = .ok (.agg #[.string (ByteArray.mk #[97, 108, 116, 101, 114, 32, 116, 97, 98, 108, 101]), .bool false, .int .i64 0, .int .i64 0, .int .i64 0, .int .i64 0, .bool false, .bool false, .int .i64 1, .int .i64 1, .int .i64 0, .int .i64 0, .int .i64 0, .int .i64 0]) W := by kernel_rfl

set_option maxRecDepth 100000 in
theorem formAt_7 (W : World) : (Instr.index 123 (.agg formsV) (.int .i64 7)).run Tryz.prog W = .ok (.agg #[.string (ByteArray.mk #[97, 108, 116, 101, 114, 32, 116, 97, 98, 108, 101]), .bool true, .int .i64 0, .int .i64 0, .int .i64 0, .int .i64 0, .bool false, .bool false, .int .i64 0, .int .i64 0, .int .i64 0, .int .i64 0, .int .i64 0, .int .i64 0]) W := by kernel_rfl

set_option maxRecDepth 100000 in
theorem formAt_8 (W : World) : (Instr.index 123 (.agg formsV) (.int .i64 8)).run Tryz.prog W = .ok (.agg #[.string (ByteArray.mk #[97, 108, 116, 101, 114, 32, 116, 97, 98, 108, 101]), .bool true, .int .i64 0, .int .i64 0, .int .i64 0, .int .i64 0, .bool false, .bool true, .int .i64 0, .int .i64 0, .int .i64 0, .int .i64 0, .int .i64 0, .int .i64 0]) W := by kernel_rfl

set_option maxRecDepth 100000 in
theorem formAt_9 (W : World) : (Instr.index 123 (.agg formsV) (.int .i64 9)).run Tryz.prog W = .ok (.agg #[.string (ByteArray.mk #[97, 108, 116, 101, 114, 32, 116, 97, 98, 108, 101]), .bool true, .int .i64 0, .int .i64 0, .int .i64 0, .int .i64 0, .bool true, .bool false, .int .i64 0, .int .i64 0, .int .i64 0, .int .i64 0, .int .i64 0, .int .i64 0]) W := by kernel_rfl

set_option maxRecDepth 100000 in
theorem formAt_10 (W : World) : (Instr.index 123 (.agg formsV) (.int .i64 10)).run Tryz.prog W = .ok (.agg #[.string (ByteArray.mk #[97, 108, 116, 101, 114, 32, 116, 97, 98, 108, 101]), .bool true, .int .i64 0, .int .i64 0, .int .i64 0, .int .i64 0, .bool false, .bool false, .int .i64 0, .int .i64 0, .int .i64 0, .int .i64 0, .int .i64 0, .int .i64 1]) W := by kernel_rfl

set_option maxRecDepth 100000 in
theorem formAt_11 (W : World) : (Instr.index 123 (.agg formsV) (.int .i64 11)).run Tryz.prog W = .ok (.agg #[.string (ByteArray.mk #[97, 108, 116, 101, 114, 32, 116, 97, 98, 108, 101]), .bool false, .int .i64 0, .int .i64 0, .int .i64 0, .int .i64 0, .bool false, .bool false, .int .i64 0, .int .i64 0, .int .i64 1, .int .i64 1, .int .i64 0, .int .i64 0]) W := by kernel_rfl

set_option maxRecDepth 100000 in
theorem formAt_12 (W : World) : (Instr.index 123 (.agg formsV) (.int .i64 12)).run Tryz.prog W = .ok (.agg #[.string (ByteArray.mk #[97, 108, 116, 101, 114, 32, 116, 97, 98, 108, 101]), .bool true, .int .i64 0, .int .i64 0, .int .i64 0, .int .i64 0, .bool false, .bool false, .int .i64 0, .int .i64 0, .int .i64 0, .int .i64 0, .int .i64 0, .int .i64 0]) W := by kernel_rfl

set_option maxRecDepth 100000 in
theorem formAt_13 (W : World) : (Instr.index 123 (.agg formsV) (.int .i64 13)).run Tryz.prog W = .ok (.agg #[.string (ByteArray.mk #[99, 114, 101, 97, 116, 101, 32, 105, 110, 100, 101, 120]), .bool true, .int .i64 1, .int .i64 12, .int .i64 0, .int .i64 0, .bool true, .bool false, .int .i64 0, .int .i64 0, .int .i64 0, .int .i64 0, .int .i64 0, .int .i64 0]) W := by kernel_rfl

set_option maxRecDepth 100000 in
theorem formAt_14 (W : World) : (Instr.index 123 (.agg formsV) (.int .i64 14)).run Tryz.prog W = .ok (.agg #[.string (ByteArray.mk #[100, 114, 111, 112, 32, 105, 110, 100, 101, 120]), .bool false, .int .i64 0, .int .i64 0, .int .i64 0, .int .i64 0, .bool false, .bool false, .int .i64 0, .int .i64 0, .int .i64 0, .int .i64 0, .int .i64 0, .int .i64 0]) W := by kernel_rfl

set_option maxRecDepth 100000 in
theorem formAt_15 (W : World) : (Instr.index 123 (.agg formsV) (.int .i64 15)).run Tryz.prog W = .ok (.agg #[.string (ByteArray.mk #[99, 114, 101, 97, 116, 101, 32, 118, 105, 101, 119]), .bool true, .int .i64 1, .int .i64 12, .int .i64 0, .int .i64 0, .bool false, .bool false, .int .i64 0, .int .i64 0, .int .i64 0, .int .i64 0, .int .i64 0, .int .i64 1]) W := by kernel_rfl

set_option maxRecDepth 100000 in
theorem formAt_16 (W : World) : (Instr.index 123 (.agg formsV) (.int .i64 16)).run Tryz.prog W = .ok (.agg #[.string (ByteArray.mk #[100, 114, 111, 112, 32, 118, 105, 101, 119]), .bool false, .int .i64 0, .int .i64 0, .int .i64 0, .int .i64 0, .bool false, .bool false, .int .i64 0, .int .i64 0, .int .i64 0, .int .i64 0, .int .i64 0, .int .i64 0]) W := by kernel_rfl

theorem formAt (k : Int) (h : 0 ≤ k ∧ k ≤ 16) (W : World) : (Instr.index 123 (.agg formsV) (.int .i64 k)).run Tryz.prog W = .ok (.agg (sf k).vs.toArray) W := by
  have hc : k = 0 ∨ k = 1 ∨ k = 2 ∨ k = 3 ∨ k = 4 ∨ k = 5 ∨ k = 6 ∨ k = 7 ∨ k = 8 ∨ k = 9 ∨ k = 10 ∨ k = 11 ∨ k = 12 ∨ k = 13 ∨ k = 14 ∨ k = 15 ∨ k = 16 := by omega
  rcases hc with rfl | rfl | rfl | rfl | rfl | rfl | rfl | rfl | rfl | rfl | rfl | rfl | rfl | rfl | rfl | rfl | rfl
  · exact formAt_0 W
  · exact formAt_1 W
  · exact formAt_2 W
  · exact formAt_3 W
  · exact formAt_4 W
  · exact formAt_5 W
  · exact formAt_6 W
  · exact formAt_7 W
  · exact formAt_8 W
  · exact formAt_9 W
  · exact formAt_10 W
  · exact formAt_11 W
  · exact formAt_12 W
  · exact formAt_13 W
  · exact formAt_14 W
  · exact formAt_15 W
  · exact formAt_16 W

end Go.Proofs.YtpdcmmhhgnackaaGreatDoor

namespace Go.Proofs.YtpdcmmhhgnackaaGreatDoor
open Go.RowKit

set_option maxRecDepth 100000 in
set_option maxHeartbeats 2000000 in
theorem textsN (a : Option Addr) (c : Nat) (xs : List ByteArray) (w : World) (hx : Sl 1 RNm 0 w a c xs) (hJ : AnyW w) (hq : ∀ x ∈ xs, x.size ≤ 1048576) (hn : xs.length ≤ 1000) (hz : ∀ x ∈ xs, (nameT x).size ≤ 4611686018427387903) :
    Calls Tryz.prog 45 #[.slice a xs.length c, .func (.func 30) #[] #[]] w fun e w' => ∃ a' c', e = .returned (.slice a' xs.length c') ∧ Own w' w.heap.size a' c' (xs.map nameT) ∧ Below w.heap.size w w' := by
  obtain ⟨i0, hi0, hi1⟩ := Option.map_eq_some_iff.1 Tryz.infoString
  have hz0 : i0.zero = some (.string ByteArray.empty) := (Prod.mk.inj hi1).1
  have hz1 : i0.size = 1 := (Prod.mk.inj (Prod.mk.inj hi1).2).1
  have hz2 : i0.bytes = 16 := (Prod.mk.inj (Prod.mk.inj hi1).2).2
  have hl := hx.len
  have HX := Lib.hid (fun w' (hb : Below w.heap.size w w') => hx.kept goodRNm (Kept.below hb))
  have HJ := Lib.hid (fun w' (hb : Below w.heap.size w w') => hJ.call hb)
  have HQ := Lib.hid hq
  have HZ := Lib.hid hz
  clear hx hJ hq hz
  go_enter Tryz.func45, Tryz.ntmps45
  go_wp2
  go_loopw [5, 10] (fun v i wr => ∃ (k : Nat) (a1 : Option Addr) (c1 : Nat) (l : List ByteArray), k ≤ xs.length ∧ i = .int .i64 k ∧ v = .slice a1 l.length c1 ∧ Hid (l = (xs.take k).map nameT ∧ Own wr w.heap.size a1 c1 l) ∧ Below w.heap.size w wr) (fun _ i _ => xs.length - (intOf i).toNat)
  case atStart => exact ⟨0, none, 0, [], Nat.zero_le _, rfl, rfl, ⟨rfl, Own.nil _ _⟩, Below.refl _ _⟩
  case round =>
    obtain ⟨k, a1, c1, l, hk, rfl, rfl, hown, hb⟩ := hrel
    have hsz := hb.size
    by_cases hlt : k < xs.length
    · obtain ⟨b, off, vs, rfl, hbl, hcs, hR⟩ := (HX.out _ hb).spot hlt
      have HR := hR
      obtain ⟨rfl, _⟩ := hR
      have hc0 : wr.cell? ⟨b, off + k, none⟩ = some (.string xs[k]) := by have := hcs 0 (by simp); simpa using this
      have HKx := Lib.hid HR
      have hll : l.length = k := by rw [hown.out.1]; simp; omega
      obtain ⟨N, hN⟩ : ∃ N, nameT xs[k] = N := ⟨_, rfl⟩
      have hNm : N.size ≤ maxLen := by rw [← hN]; have := HZ.out _ (List.getElem_mem hlt); unfold maxLen; omega
      have HNN := Lib.hid hN
      have HLN : Hid (l ++ [N] = (xs.take (k + 1)).map nameT) := by unfold Hid; rw [hown.out.1, List.take_succ_eq_append_getElem hlt, List.map_append, ← hN]; rfl
      have HO := Lib.hid hown.out.2
      have HL := Lib.hid hll
      clear hown hN hll HR hcs
      go_wp2_with fail
      refine (implPutName xs[k] _ (HQ.out _ (List.getElem_mem hlt)) N HNN.out).mono ?_
      rintro e w2 ⟨rfl, b2⟩
      have B2 := Lib.hid (show Below w.heap.size w w2 from hb.trans (b2.mono hsz))
      have HO2 := Lib.hid (HO.out.below b2)
      have hsz2 := B2.out.size
      clear b2
      go_wp2_with (at_builtin; refine wpAppendPh rfl _ _ rfl i0 hi0 hz0 hz1 hz2 w.heap.size a1 c1 l (some ⟨_, 0, none⟩) 1 [N] rfl (HO2.out.alloc _) rfl (strsOne _ _ hNm) (by have := HL.out; simp only [List.length_cons, List.length_nil]; omega) (by simp; omega) ?_; intro a3 c3 w3 hown3 hg3)
      have B3 := Lib.hid (appended B2.out (Nat.le_refl _) HO2.out hg3)
      have HO3 := Lib.hid hown3
      clear hown3 hg3
      go_roundw
      case rel => exact ⟨k + 1, a3, c3, l ++ [N], by omega, by go_num, by rw [List.length_append]; rfl, ⟨HLN.out, HO3.out⟩, B3.out⟩
      case measure => simp [intOf]; omega
    · obtain rfl : k = xs.length := by omega
      have hll : l = xs.map nameT := by have := hown.out.1; rwa [List.take_length] at this
      have hle : l.length = xs.length := by rw [hll, List.length_map]
      have HO : Hid (Own wr w.heap.size a1 c1 (xs.map nameT)) := by unfold Hid; rw [← hll]; exact hown.out.2
      rw [hle]
      clear hown hll hle
      go_wp2_with fail
      go_ret
      exact ⟨_, _, rfl, HO.out, hb⟩

end Go.Proofs.YtpdcmmhhgnackaaGreatDoor

namespace Go.Proofs.YtpdcmmhhgnackaaGreatDoor
open Go.RowKit

set_option maxRecDepth 100000 in
set_option maxHeartbeats 2000000 in
theorem textsX (d : Nat) (a : Option Addr) (c : Nat) (xs : List Ex) (w : World) (hx : Sl 4 (RE d) 0 w a c xs) (hJ : Tabs w) (hq : ∀ x ∈ xs, x.wt ≤ 1048576) (hn : xs.length ≤ 1000) (hz : ∀ x ∈ xs, (putT x).size ≤ 4611686018427387903) :
    Calls Tryz.prog 43 #[.slice a xs.length c, .func (.func 44) #[] #[]] w fun e w' => ∃ a' c', e = .returned (.slice a' xs.length c') ∧ Own w' w.heap.size a' c' (xs.map putT) ∧ Below w.heap.size w w' := by
  obtain ⟨i0, hi0, hi1⟩ := Option.map_eq_some_iff.1 Tryz.infoString
  have hz0 : i0.zero = some (.string ByteArray.empty) := (Prod.mk.inj hi1).1
  have hz1 : i0.size = 1 := (Prod.mk.inj (Prod.mk.inj hi1).2).1
  have hz2 : i0.bytes = 16 := (Prod.mk.inj (Prod.mk.inj hi1).2).2
  have hl := hx.len
  have HX := Lib.hid (fun w' (hb : Below w.heap.size w w') => hx.kept (goodRE d) (Kept.below hb))
  have HJ := Lib.hid (fun w' (hb : Below w.heap.size w w') => hJ.call hb)
  have HQ := Lib.hid hq
  have HZ := Lib.hid hz
  clear hx hJ hq hz
  go_enter Tryz.func43, Tryz.ntmps43
  go_wp2
  go_loopw [5, 10] (fun v i wr => ∃ (k : Nat) (a1 : Option Addr) (c1 : Nat) (l : List ByteArray), k ≤ xs.length ∧ i = .int .i64 k ∧ v = .slice a1 l.length c1 ∧ Hid (l = (xs.take k).map putT ∧ Own wr w.heap.size a1 c1 l) ∧ Below w.heap.size w wr) (fun _ i _ => xs.length - (intOf i).toNat)
  case atStart => exact ⟨0, none, 0, [], Nat.zero_le _, rfl, rfl, ⟨rfl, Own.nil _ _⟩, Below.refl _ _⟩
  case round =>
    obtain ⟨k, a1, c1, l, hk, rfl, rfl, hown, hb⟩ := hrel
    have hsz := hb.size
    by_cases hlt : k < xs.length
    · obtain ⟨b, off, vs, rfl, hbl, hcs, hR⟩ := (HX.out _ hb).spot hlt
      have HR := hR
      obtain ⟨a0, c0, rfl, _⟩ := hR
      have hc0 : wr.cell? ⟨b, off + k * 4, none⟩ = some (.int .i64 xs[k].kind) := hcs 0 (by simp)
      have hc1 : wr.cell? ⟨b, off + k * 4 + 1, none⟩ = some (.string xs[k].text) := hcs 1 (by simp)
      have hc2 : wr.cell? ⟨b, off + k * 4 + 2, none⟩ = some (.int .i64 xs[k].num) := hcs 2 (by simp)
      have hc3 : wr.cell? ⟨b, off + k * 4 + 3, none⟩ = some (.slice a0 xs[k].kids.length c0) := hcs 3 (by simp)
      have HKx := Lib.hid HR
      have hll : l.length = k := by rw [hown.out.1]; simp; omega
      obtain ⟨N, hN⟩ : ∃ N, putT xs[k] = N := ⟨_, rfl⟩
      have hNm : N.size ≤ maxLen := by rw [← hN]; have := HZ.out _ (List.getElem_mem hlt); unfold maxLen; omega
      have HNN := Lib.hid hN
      have HLN : Hid (l ++ [N] = (xs.take (k + 1)).map putT) := by unfold Hid; rw [hown.out.1, List.take_succ_eq_append_getElem hlt, List.map_append, ← hN]; rfl
      have HO := Lib.hid hown.out.2
      have HL := Lib.hid hll
      clear hown hN hll HR hcs
      go_wp2_with fail
      obtain ⟨pa, pc, hve, hfite, hkk⟩ := goodRE d |>.kept HKx.out (Kept.below ((Below.refl wr.heap.size wr).alloc (Nat.le_refl _) (.cells #[.int .i64 xs[k].kind, .string xs[k].text, .int .i64 xs[k].num, .slice a0 xs[k].kids.length c0] 66))); cases hve; refine (implPutExpr xs[k] _ _ d _ (HJ.out _ (hb.alloc hsz _)) hfite hkk.at (by have := nodes_wt xs[k]; have := HQ.out _ (List.getElem_mem hlt); omega) N HNN.out).mono ?_
      rintro e w2 ⟨rfl, b2⟩
      have B2 := Lib.hid (show Below w.heap.size w w2 from Below.call b2 (hb.alloc hsz _))
      have HO2 := Lib.hid ((HO.out.alloc _).below b2)
      have hsz2 := B2.out.size
      clear b2
      go_wp2_with (at_builtin; refine wpAppendPh rfl _ _ rfl i0 hi0 hz0 hz1 hz2 w.heap.size a1 c1 l (some ⟨_, 0, none⟩) 1 [N] rfl (HO2.out.alloc _) rfl (strsOne _ _ hNm) (by have := HL.out; simp only [List.length_cons, List.length_nil]; omega) (by simp; omega) ?_; intro a3 c3 w3 hown3 hg3)
      have B3 := Lib.hid (appended B2.out (Nat.le_refl _) HO2.out hg3)
      have HO3 := Lib.hid hown3
      clear hown3 hg3
      go_roundw
      case rel => exact ⟨k + 1, a3, c3, l ++ [N], by omega, by go_num, by rw [List.length_append]; rfl, ⟨HLN.out, HO3.out⟩, B3.out⟩
      case measure => simp [intOf]; omega
    · obtain rfl : k = xs.length := by omega
      have hll : l = xs.map putT := by have := hown.out.1; rwa [List.take_length] at this
      have hle : l.length = xs.length := by rw [hll, List.length_map]
      have HO : Hid (Own wr w.heap.size a1 c1 (xs.map putT)) := by unfold Hid; rw [← hll]; exact hown.out.2
      rw [hle]
      clear hown hll hle
      go_wp2_with fail
      go_ret
      exact ⟨_, _, rfl, HO.out, hb⟩

end Go.Proofs.YtpdcmmhhgnackaaGreatDoor

namespace Go.Proofs.YtpdcmmhhgnackaaGreatDoor
open Go.RowKit

theorem okU (vs : List Value) (x : Ru) (w : World) (hR : RRu 0 w vs x) (hJ : FormR w) (hq : x.wt ≤ 1048576) :
    Calls Tryz.prog 41 #[.agg vs.toArray] w fun e w' => e = .returned (.bool (ruleB x)) ∧ Below w.heap.size w w' :=
  implRuleFits vs x w hJ hR hq _ rfl

set_option maxRecDepth 100000 in
set_option maxHeartbeats 1000000 in
theorem notU (vs : List Value) (x : Ru) (nb : Nat) (w : World) (hR : RRu 0 w vs x) (hJ : FormR w) (hq : x.wt ≤ 1048576) (hnb : w.cell? ⟨nb, 0, none⟩ = some (.func (.func 41) #[] #[])) (hlt : nb < w.heap.size) :
    Calls Tryz.prog 157 #[.agg vs.toArray, .pointer (some ⟨nb, 0, none⟩)] w fun e w' => e = .returned (.bool (!ruleB x)) ∧ Below w.heap.size w w' := by
  have HO := Lib.hid (fun w2 (hb : Below w.heap.size w w2) => okU vs x w2 (goodRu.kept hR (Kept.below hb)) (hJ.call hb) hq)
  obtain ⟨a0, c0, a1, c1, a2, c2, rfl, _⟩ := hR
  have QN := Lib.hid ((World.cell?_alloc_lt w (.cells [.string x.name, .int .i64 x.kind, .slice a0 x.cols.length c0, .slice a1 x.expr.length c1, .string x.table, .slice a2 x.to.length c2].toArray 42) ⟨nb, 0, none⟩ hlt).trans hnb)
  clear hJ
  go_enter Tryz.func157, Tryz.ntmps157
  go_wp2_with fail
  refine (HO.out _ (by ((repeat (first | refine Below.alloc ?_ (by first | omega | (simp; done) | (simp; omega)) _ | refine Below.setCell ?_ (by first | omega | (simp; done) | (simp; omega)) _)); first | exact Below.refl _ _ | exact Below.refl _ _))).mono ?_
  rintro e w2 ⟨rfl, b2⟩
  have B2 := Lib.hid (show Below w.heap.size w w2 from Below.call b2 (by ((repeat (first | refine Below.alloc ?_ (by first | omega | (simp; done) | (simp; omega)) _ | refine Below.setCell ?_ (by first | omega | (simp; done) | (simp; omega)) _)); first | exact Below.refl _ _ | exact Below.refl _ _)))
  clear b2
  go_wp2_with fail
  go_ret
  exact ⟨rfl, B2.out⟩

set_option maxRecDepth 100000 in
set_option maxHeartbeats 2000000 in
theorem idxU (a : Option Addr) (c : Nat) (xs : List Ru) (nb : Nat) (w : World) (hx : Sl 6 RRu 0 w a c xs) (hJ : FormR w) (hq : ∀ x ∈ xs, x.wt ≤ 1048576) (hnb : w.cell? ⟨nb, 0, none⟩ = some (.func (.func 41) #[] #[])) (hlt0 : nb < w.heap.size) :
    Calls Tryz.prog 166 #[.slice a xs.length c, .func (.func 157) #[] #[.pointer (some ⟨nb, 0, none⟩)]] w fun e w' =>
      ∃ r : Int, e = .returned (.int .i64 r) ∧ Hid (decide (0 ≤ r) = !xs.all ruleB) ∧ Below w.heap.size w w' := by
  have hl := hx.len
  have HX := Lib.hid (fun w' (hb : Below w.heap.size w w') => hx.kept goodRu (Kept.below hb))
  have HJ := Lib.hid (fun w' (hb : Below w.heap.size w w') => hJ.call hb)
  have HN := Lib.hid (fun w' (hb : Below w.heap.size w w') => (And.intro ((hb.cell (p := ⟨nb, 0, none⟩) hlt0).trans hnb) (Nat.lt_of_lt_of_le hlt0 hb.size)))
  have HQ := Lib.hid hq
  clear hx hJ hq
  go_enter Tryz.func166, Tryz.ntmps166
  go_wp2
  go_loopw [8] (fun i wr => ∃ k : Nat, k ≤ xs.length ∧ i = .int .i64 k ∧ Hid (∀ m (hm : m < xs.length), m < k → ruleB xs[m] = true) ∧ Below w.heap.size w wr) (fun i _ => xs.length - (intOf i).toNat)
  case atStart => exact ⟨0, Nat.zero_le _, rfl, fun m h hm => absurd hm (by omega), Below.refl _ _⟩
  case round =>
    obtain ⟨k, hk, rfl, hall, hb⟩ := hrel
    by_cases hlt : k < xs.length
    · obtain ⟨b, off, vs, rfl, hbl, hcs, hR⟩ := (HX.out _ hb).spot hlt
      obtain ⟨hn1, hn2⟩ := HN.out _ hb
      have HR := hR
      obtain ⟨a0, c0, a1, c1, a2, c2, rfl, _⟩ := hR
      have hc0 : wr.cell? ⟨b, off + k * 6, none⟩ = some (.string xs[k].name) := hcs 0 (by simp)
      have hc1 : wr.cell? ⟨b, off + k * 6 + 1, none⟩ = some (.int .i64 xs[k].kind) := hcs 1 (by simp)
      have hc2 : wr.cell? ⟨b, off + k * 6 + 2, none⟩ = some (.slice a0 xs[k].cols.length c0) := hcs 2 (by simp)
      have hc3 : wr.cell? ⟨b, off + k * 6 + 3, none⟩ = some (.slice a1 xs[k].expr.length c1) := hcs 3 (by simp)
      have hc4 : wr.cell? ⟨b, off + k * 6 + 4, none⟩ = some (.string xs[k].table) := hcs 4 (by simp)
      have hc5 : wr.cell? ⟨b, off + k * 6 + 5, none⟩ = some (.slice a2 xs[k].to.length c2) := hcs 5 (by simp)
      have HK := Lib.hid HR
      clear HR hcs
      go_wp2_with fail
      refine (notU _ xs[k] nb _ HK.out (HJ.out _ hb) (HQ.out _ (List.getElem_mem hlt)) hn1 hn2).mono ?_
      rintro e w2 ⟨rfl, hb2⟩
      have HB2 := Lib.hid (hb.trans (hb2.mono hb.size))
      clear hb2
      cases he : ruleB xs[k] with
      | false =>
        have HE := Lib.hid (all_hit ruleB xs k hlt he)
        clear he
        go_wp2_with fail
        go_ret
        exact ⟨k, rfl, by unfold Hid; rw [HE.out]; simp, HB2.out⟩
      | true =>
        have HE := Lib.hid he
        clear he
        go_wp2_with fail
        go_roundw
        case rel => exact ⟨k + 1, by omega, by go_num, fun m hm h1 => by
          rcases Nat.lt_or_ge m k with h2 | h2
          · exact hall.out m hm h2
          · obtain rfl : m = k := by omega
            exact HE.out, HB2.out⟩
        case measure => simp [intOf]; omega
    · have HE := Lib.hid (all_miss ruleB xs fun m hm => hall.out m hm (by omega))
      go_wp2_with fail
      go_ret
      exact ⟨-1, rfl, by unfold Hid; rw [HE.out]; rfl, hb⟩

set_option maxHeartbeats 1000000 in
theorem contU (a : Option Addr) (c : Nat) (xs : List Ru) (nb : Nat) (w : World) (hx : Sl 6 RRu 0 w a c xs) (hJ : FormR w) (hq : ∀ x ∈ xs, x.wt ≤ 1048576) (hnb : w.cell? ⟨nb, 0, none⟩ = some (.func (.func 41) #[] #[])) (hlt0 : nb < w.heap.size) :
    Calls Tryz.prog 156 #[.slice a xs.length c, .func (.func 157) #[] #[.pointer (some ⟨nb, 0, none⟩)]] w fun e w' =>
      e = .returned (.bool (!xs.all ruleB)) ∧ Below w.heap.size w w' := by
  have HC := Lib.hid (idxU a c xs nb w hx hJ hq hnb hlt0)
  clear hx hJ hq hnb
  go_enter Tryz.func156, Tryz.ntmps156
  go_wp2_with fail
  refine HC.out.mono ?_
  rintro e w2 ⟨r, rfl, hr, b2⟩
  have B2 := Lib.hid b2
  clear b2
  go_wp2_with fail
  go_ret
  exact ⟨by rw [← hr.out]; rfl, B2.out⟩

set_option maxHeartbeats 1000000 in
theorem everyU (a : Option Addr) (c : Nat) (xs : List Ru) (w : World) (hx : Sl 6 RRu 0 w a c xs) (hJ : FormR w) (hq : ∀ x ∈ xs, x.wt ≤ 1048576) (v : Bool) (hv : xs.all ruleB = v) :
    Calls Tryz.prog 146 #[.slice a xs.length c, .func (.func 41) #[] #[]] w fun e w' => e = .returned (.bool v) ∧ Below w.heap.size w w' := by
  have hmf : ∀ (fn : Fn) (first cap : Array Value) (w : World), (Instr.makeFunc fn first cap).run Tryz.prog w = .ok (.func fn first cap) w := fun _ _ _ _ => rfl
  have HX := Lib.hid (fun w' (hb : Below w.heap.size w w') => And.intro (hx.kept goodRu (Kept.below hb)) (hJ.call hb))
  have HQ := Lib.hid hq
  have HV := Lib.hid hv
  clear hx hJ hq hv
  go_enter Tryz.func146, Tryz.ntmps146
  go_wp2_with fail
  refine (contU a c xs w.heap.size _ (HX.out _ (by ((repeat (first | refine Below.alloc ?_ (by first | omega | (simp; done) | (simp; omega)) _ | refine Below.setCell ?_ (by first | omega | (simp; done) | (simp; omega)) _)); first | exact Below.refl _ _ | exact Below.refl _ _))).1 (HX.out _ (by ((repeat (first | refine Below.alloc ?_ (by first | omega | (simp; done) | (simp; omega)) _ | refine Below.setCell ?_ (by first | omega | (simp; done) | (simp; omega)) _)); first | exact Below.refl _ _ | exact Below.refl _ _))).2 HQ.out (by simp [go_sem]) (by simp)).mono ?_
  rintro e w2 ⟨rfl, b2⟩
  have B2 := Lib.hid (show Below w.heap.size w w2 from Below.call b2 (by ((repeat (first | refine Below.alloc ?_ (by first | omega | (simp; done) | (simp; omega)) _ | refine Below.setCell ?_ (by first | omega | (simp; done) | (simp; omega)) _)); first | exact Below.refl _ _ | exact Below.refl _ _)))
  clear b2
  go_wp2_with fail
  go_ret
  exact ⟨by rw [HV.out]; cases v <;> rfl, B2.out⟩

set_option maxHeartbeats 1000000 in
theorem fitsU (a : Option Addr) (c : Nat) (xs : List Ru) (lo hi : Int) (w : World) (hx : Sl 6 RRu 0 w a c xs) (hJ : FormR w) (hq : ∀ x ∈ xs, x.wt ≤ 1048576) (v : Bool) (hv : (inI xs.length lo hi && xs.all ruleB) = v) :
    Calls Tryz.prog 129 #[.slice a xs.length c, .agg #[.int .i64 lo, .int .i64 hi], .func (.func 41) #[] #[]] w fun e w' => e = .returned (.bool v) ∧ Below w.heap.size w w' := by
  have hl := hx.len
  have HE := Lib.hid (fun w' (hb : Below w.heap.size w w') => everyU a c xs w' (hx.kept goodRu (Kept.below hb)) (hJ.call hb) hq _ rfl)
  clear hx hJ hq
  cases h1 : inI xs.length lo hi with
  | false =>
    have HV : Hid (v = false) := by unfold Hid; rw [← hv, h1]; rfl
    have HI := Lib.hid h1
    clear hv h1
    go_enter Tryz.func129, Tryz.ntmps129
    go_wp2_with fail
    refine (spanAllows lo hi xs.length _ false HI.out).mono ?_
    rintro e w1 ⟨rfl, b1⟩
    have B1 := Lib.hid (show Below w.heap.size w w1 from Below.call b1 (by ((repeat (first | refine Below.alloc ?_ (by first | omega | (simp; done) | (simp; omega)) _ | refine Below.setCell ?_ (by first | omega | (simp; done) | (simp; omega)) _)); first | exact Below.refl _ _ | exact Below.refl _ _)))
    clear b1
    go_wp2_with fail
    go_ret
    exact ⟨by rw [HV.out] <;> rfl, B1.out⟩
  | true =>
    have HV : Hid (xs.all ruleB = v) := by unfold Hid; rw [← hv, h1]; rfl
    have HI := Lib.hid h1
    clear hv h1
    go_enter Tryz.func129, Tryz.ntmps129
    go_wp2_with fail
    refine (spanAllows lo hi xs.length _ true HI.out).mono ?_
    rintro e w1 ⟨rfl, b1⟩
    have B1 := Lib.hid (show Below w.heap.size w w1 from Below.call b1 (by ((repeat (first | refine Below.alloc ?_ (by first | omega | (simp; done) | (simp; omega)) _ | refine Below.setCell ?_ (by first | omega | (simp; done) | (simp; omega)) _)); first | exact Below.refl _ _ | exact Below.refl _ _)))
    clear b1
    go_wp2_with fail
    refine (HE.out _ B1.out).mono ?_
    rintro e w2 ⟨rfl, b2⟩
    have B2 := Lib.hid (show Below w.heap.size w w2 from Below.call b2 B1.out)
    clear b2
    go_wp2_with fail
    go_ret
    exact ⟨by rw [HV.out] <;> rfl, B2.out⟩

end Go.Proofs.YtpdcmmhhgnackaaGreatDoor
