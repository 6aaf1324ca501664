/- A range over a function: what a round keeps; slices of texts under it. -/
import Derived.Test.YtdggcgipchijjaaMem
import Derived.RangeFuncNested
import Derived.RangeFuncBound
import Derived.RangeFuncCalls
import Derived.RangeFuncLeaves
import Derived.Shelf.Abstract
import Derived.Shelf.RegionOpen
import Derived.OwnWalkIn
import Derived.TacticsInMore
import Derived.LoopNIn
import Derived.LoopIn
namespace Go.Proofs.Ytdggcgipchijjaa
open Go.RowKit Go.Shelf

/-- The blocks p lie as they lay. -/
def KeepP (p : Nat → Prop) (W W' : World) : Prop := ∀ k, p k → W'.heap[k]? = W.heap[k]?

theorem KeepP.refl (p : Nat → Prop) (W : World) : KeepP p W W := fun _ _ => rfl
theorem KeepP.trans {p : Nat → Prop} {A B C : World} (h : KeepP p A B) (k : KeepP p B C) : KeepP p A C := fun i hi => (k i hi).trans (h i hi)
theorem KeepP.cell {p : Nat → Prop} {W W' : World} (h : KeepP p W W') {q : Addr} (hq : p q.block) : W'.cell? q = W.cell? q := World.cell?_of_block (w := W) (h _ hq)
theorem KeepP.put {p : Nat → Prop} {w : World} (hp : ∀ k, p k → k < w.heap.size) (W : World) (l : Nat) (o o' : Obj) (hl : w.heap.size ≤ l) (_ : W.heap[l]? = some o) (_ : o.isCells = false) (_ : o.isWalk = false) : KeepP p W (W.putObj l o') :=
  fun k hk => World.putObj_heap_other (by have := hp k hk; omega)
theorem KeepP.of_below {p : Nat → Prop} {W W' : World} {B : Nat} (hb : Below B W W') (hp : ∀ k, p k → k < B) : KeepP p W W' := fun k hk => hb.block k (hp k hk)

/-- The texts of a slice, in blocks p. -/
def Txts (p : Nat → Prop) (w : World) (a : Option Addr) (xs : List ByteArray) : Prop :=
  0 < xs.length → ∃ b off, a = some ⟨b, off, none⟩ ∧ p b ∧ ∀ (i : Nat) (h : i < xs.length), w.cell? ⟨b, off + i, none⟩ = some (.string xs[i])

theorem Txts.keep {p : Nat → Prop} {w w' : World} {a : Option Addr} {xs : List ByteArray} (h : Txts p w a xs) (hk : KeepP p w w') : Txts p w' a xs := fun hp => by
  obtain ⟨b, off, ha, hb, hc⟩ := h hp
  exact ⟨b, off, ha, hb, fun i hi => (hk.cell (q := ⟨b, off + i, none⟩) hb).trans (hc i hi)⟩

theorem Strs.txts {w : World} {a : Option Addr} {c : Nat} {xs : List ByteArray} (h : Strs w a c xs) {p : Nat → Prop} (hp : ∀ k, k < w.heap.size → p k) : Txts p w a xs := fun h0 => by
  obtain ⟨b, off, ha, hb, hc⟩ := h.2.2.2.2 h0
  exact ⟨b, off, ha, hp b hb, hc⟩

theorem Txts.spot {p : Nat → Prop} {w : World} {a : Option Addr} {xs : List ByteArray} (h : Txts p w a xs) {k : Nat} (hk : k < xs.length) :
    ∃ b off, a = some ⟨b, off, none⟩ ∧ p b ∧ ∀ (i : Nat) (h : i < xs.length), w.cell? ⟨b, off + i, none⟩ = some (.string xs[i]) := h (by omega)

/-- Yes or no, in one word. -/
theorem yesOrNo {e : Ending} {A B : Prop} (h : (e = .returned (.bool true) ∧ A) ∨ (e = .returned (.bool false) ∧ B)) : ∃ r, e = .returned (.bool r) ∧ ((r = true ∧ A) ∨ (r = false ∧ B)) := by
  rcases h with ⟨rfl, h⟩ | ⟨rfl, h⟩
  · exact ⟨true, rfl, .inl ⟨rfl, h⟩⟩
  · exact ⟨false, rfl, .inr ⟨rfl, h⟩⟩

theorem newCell (W : World) (v : Value) (t : TypeId) : (W.alloc (.cells #[v] t)).cell? ⟨W.heap.size, 0, none⟩ = some v ∧ (W.alloc (.cells #[v] t)).frozen? ⟨W.heap.size, 0, none⟩ = false := by
  have h := heap_alloc_new W (.cells #[v] t)
  exact ⟨by rw [cell_of_row _ _ _ _ _ _ h]; rfl, frozen_of_row _ _ _ _ _ h⟩

theorem cellAlloc {W : World} {a : Addr} {v : Value} (o : Obj) (h : W.cell? a = some v) : (W.alloc o).cell? a = some v :=
  cell_kept h (World.grownBy_alloc W o none) (fun r e => by cases e)

theorem frozenAlloc {W : World} {a : Addr} {v : Value} (o : Obj) (h : W.cell? a = some v) (hf : W.frozen? a = false) : (W.alloc o).frozen? a = false :=
  (frozen_kept h (World.grownBy_alloc W o none) (fun r e => by cases e)).trans hf

end Go.Proofs.Ytdggcgipchijjaa
