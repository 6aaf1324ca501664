/- impl.TypeOk. -/
import Derived.Test.YtndbmnnomokfkaaDoorTypeOk
import Derived.Deep.RegionHeld3
namespace Go.Proofs.YtndbmnnomokfkaaDoor
open Go.RowKit

theorem drew_heap (W : World) : W.drew.heap = W.heap := rfl

theorem blockCells {W w1 : World} (hb : Below W.heap.size W w1) : (∀ b o, b < W.heap.size → w1.cell? ⟨b, o, none⟩ = W.cell? ⟨b, o, none⟩) ∧ (∀ b o, b < W.heap.size → w1.frozen? ⟨b, o, none⟩ = W.frozen? ⟨b, o, none⟩) :=
  ⟨fun b o h => hb.cell (p := ⟨b, o, none⟩) h, fun b o h => hb.frozen (p := ⟨b, o, none⟩) h⟩

theorem below_setCell {B : Nat} {w0 w : World} (h : Below B w0 w) {q j : Nat} {v : Value} (hB : B ≤ w.heap.size) (hq : B ≤ q) : Below B w0 (w.setCell ⟨q, j, none⟩ v) :=
  h.grown (row := some q) ⟨rfl, rfl, rfl, by simp [World.setCell], fun k _ hne => Below.heap_setCell _ _ _ _ (fun e => hne (by rw [e]))⟩ hB (fun k hk => by cases hk; exact hq)

theorem size_setCell (w : World) (a : Addr) (v : Value) : (w.setCell a v).heap.size = w.heap.size := by simp [World.setCell]

end Go.Proofs.YtndbmnnomokfkaaDoor
