/- The program's writers of statements, and what PutStmt does with the phrase of one. Written by tools/gen_put.py. -/
import Derived.Test.YtpdcmmhhgnackaaGreatDoorMPhB
import Derived.Test.YtpdcmmhhgnackaaGreatDoorMStmtI
namespace Go.Proofs.YtpdcmmhhgnackaaGreatDoor
open Go.RowKit

def writersV : Array Value := #[.func (.func 93) #[] #[], .func (.func 94) #[] #[], .func (.func 95) #[] #[], .func (.func 94) #[] #[], .func (.func 96) #[] #[], .func (.func 94) #[] #[], .func (.func 97) #[] #[], .func (.func 98) #[] #[], .func (.func 99) #[] #[], .func (.func 100) #[] #[], .func (.func 101) #[] #[], .func (.func 102) #[] #[], .func (.func 103) #[] #[], .func (.func 104) #[] #[], .func (.func 94) #[] #[], .func (.func 105) #[] #[], .func (.func 94) #[] #[]]

theorem writerAt_0 (W : World) : (Instr.index 93 (.agg writersV) (.int .i64 0)).run Tryz.prog W = .ok (.func (.func 93) #[] #[]) W := by kernel_rfl

theorem writerAt_1 (W : World) : (Instr.index 93 (.agg writersV) (.int .i64 1)).run Tryz.prog W = .ok (.func (.func 94) #[] #[]) W := by kernel_rfl

theorem writerAt_2 (W : World) : (Instr.index 93 (.agg writersV) (.int .i64 2)).run Tryz.prog W = .ok (.func (.func 95) #[] #[]) W := by kernel_rfl

theorem writerAt_3 (W : World) : (Instr.index 93 (.agg writersV) (.int .i64 3)).run Tryz.prog W = .ok (.func (.func 94) #[] #[]) W := by kernel_rfl

theorem writerAt_4 (W : World) : (Instr.index 93 (.agg writersV) (.int .i64 4)).run Tryz.prog W = .ok (.func (.func 96) #[] #[]) W := by kernel_rfl

theorem writerAt_5 (W : World) : (Instr.index 93 (.agg writersV) (.int .i64 5)).run Tryz.prog W = .ok (.func (.func 94) #[] #[]) W := by kernel_rfl

theorem writerAt_6 (W : World) : (Instr.index 93 (.agg writersV) (.int .i64 6)).run Tryz.prog W = .ok (.func (.func 97) #[] #[]) W := by kernel_rfl

theorem writerAt_7 (W : World) : (Instr.index 93 (.agg writersV) (.int .i64 7)).run Tryz.prog W = .ok (.func (.func 98) #[] #[]) W := by kernel_rfl

theorem writerAt_8 (W : World) : (Instr.index 93 (.agg writersV) (.int .i64 8)).run Tryz.prog W = .ok (.func (.func 99) #[] #[]) W := by kernel_rfl

theorem writerAt_9 (W : World) : (Instr.index 93 (.agg writersV) (.int .i64 9)).run Tryz.prog W = .ok (.func (.func 100) #[] #[]) W := by kernel_rfl

theorem writerAt_10 (W : World) : (Instr.index 93 (.agg writersV) (.int .i64 10)).run Tryz.prog W = .ok (.func (.func 101) #[] #[]) W := by kernel_rfl

theorem writerAt_11 (W : World) : (Instr.index 93 (.agg writersV) (.int .i64 11)).run Tryz.prog W = .ok (.func (.func 102) #[] #[]) W := by kernel_rfl

theorem writerAt_12 (W : World) : (Instr.index 93 (.agg writersV) (.int .i64 12)).run Tryz.prog W = .ok (.func (.func 103) #[] #[]) W := by kernel_rfl

theorem writerAt_13 (W : World) : (Instr.index 93 (.agg writersV) (.int .i64 13)).run Tryz.prog W = .ok (.func (.func 104) #[] #[]) W := by kernel_rfl

theorem writerAt_14 (W : World) : (Instr.index 93 (.agg writersV) (.int .i64 14)).run Tryz.prog W = .ok (.func (.func 94) #[] #[]) W := by kernel_rfl

theorem writerAt_15 (W : World) : (Instr.index 93 (.agg writersV) (.int .i64 15)).run Tryz.prog W = .ok (.func (.func 105) #[] #[]) W := by kernel_rfl

theorem writerAt_16 (W : World) : (Instr.index 93 (.agg writersV) (.int .i64 16)).run Tryz.prog W = .ok (.func (.func 94) #[] #[]) W := by kernel_rfl

theorem writersV_size : writersV.size = 17 := by kernel_rfl
theorem writersV_one : writersV.all (·.oneCell') = true := by kernel_rfl
theorem infoWriters : (Tryz.prog.info? 93).map (fun i => i.size) = some 17 := by kernel_rfl

set_option maxRecDepth 100000 in
set_option maxHeartbeats 4000000 in
theorem implStmtWriters (w : World) : Calls Tryz.prog 55 #[] w fun e w' => e = .returned (.agg writersV) ∧ Below w.heap.size w w' := by
  have r5 : (w.alloc (.cells #[.nilFunc, .nilFunc, .nilFunc, .nilFunc, .nilFunc, .nilFunc, .nilFunc, .nilFunc, .nilFunc, .nilFunc, .nilFunc, .nilFunc, .nilFunc, .nilFunc, .nilFunc, .nilFunc, .nilFunc] 93)).heap[w.heap.size]? = some (.cells #[.nilFunc, .nilFunc, .nilFunc, .nilFunc, .nilFunc, .nilFunc, .nilFunc, .nilFunc, .nilFunc, .nilFunc, .nilFunc, .nilFunc, .nilFunc, .nilFunc, .nilFunc, .nilFunc, .nilFunc] 93 (0, 0)) := heap_alloc_new w _
  have hthere : (w.alloc (.cells #[.nilFunc, .nilFunc, .nilFunc, .nilFunc, .nilFunc, .nilFunc, .nilFunc, .nilFunc, .nilFunc, .nilFunc, .nilFunc, .nilFunc, .nilFunc, .nilFunc, .nilFunc, .nilFunc, .nilFunc] 93)).there w.heap.size 0 writersV.size := fun j hj => by
    rw [cell_of_row _ _ _ _ _ _ r5]
    refine ⟨?_, frozen_of_row _ _ _ _ _ r5⟩
    have hj2 : j < 17 := by rw [writersV_size] at hj; exact hj
    simp
    omega
  go_enter Tryz.func55, Tryz.ntmps55
  go_wp2_with (refine wpList_store_mid rfl 93 (.tmp 0) (.tmp 1) rfl w.heap.size 0 writersV rfl rfl hthere (by rw [writersV_size]; exact infoWriters) writersV_one ?_)
  have hres : (loadVar 93 ⟨w.heap.size, 0, none⟩).run Tryz.prog ((w.alloc (.cells #[.nilFunc, .nilFunc, .nilFunc, .nilFunc, .nilFunc, .nilFunc, .nilFunc, .nilFunc, .nilFunc, .nilFunc, .nilFunc, .nilFunc, .nilFunc, .nilFunc, .nilFunc, .nilFunc, .nilFunc] 93)).setCells w.heap.size 0 writersV.toList) = .ok (.agg writersV) ((w.alloc (.cells #[.nilFunc, .nilFunc, .nilFunc, .nilFunc, .nilFunc, .nilFunc, .nilFunc, .nilFunc, .nilFunc, .nilFunc, .nilFunc, .nilFunc, .nilFunc, .nilFunc, .nilFunc, .nilFunc, .nilFunc] 93)).setCells w.heap.size 0 writersV.toList) := by
    have := run_loadVar_mid (P := Tryz.prog) ((w.alloc (.cells #[.nilFunc, .nilFunc, .nilFunc, .nilFunc, .nilFunc, .nilFunc, .nilFunc, .nilFunc, .nilFunc, .nilFunc, .nilFunc, .nilFunc, .nilFunc, .nilFunc, .nilFunc, .nilFunc, .nilFunc] 93)).setCells w.heap.size 0 writersV.toList) w.heap.size 0 93 writersV.toList _ (World.rangeAt_setCells_same _ w.heap.size 0 writersV.toList (by simpa using hthere)) Tryz.underlying93 rfl (by rw [Array.length_toList, writersV_size]; exact infoWriters)
    simpa using this
  exact bodyPost_ret (v := .agg writersV) (by simp [results, Tryz.results55, hres, Act.put, asAddr]) rfl ⟨rfl, belowCells2 ((Below.refl _ _).alloc (Nat.le_refl _) _) (Nat.le_refl _) _ _⟩

end Go.Proofs.YtpdcmmhhgnackaaGreatDoor
