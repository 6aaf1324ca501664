/- The laws' own helpers over types: the size and the copy. -/
import Derived.Test.YtefjjcoaeanagaaDoorTyp
namespace Go.Proofs.YtefjjcoaeanagaaDoor
open Go.RowKit

set_option maxHeartbeats 1000000 in
theorem szTy (k l : Int) (s : ByteArray) (n : Int) (w : World) (hs : s.size ≤ maxLen) (h0 : 0 ≤ n) (h1 : n ≤ 1048576) :
    Calls Tryd.prog 16 #[.agg #[.int .i64 k, .int .i64 l, .string s], .int .i64 n] w fun e w' => e = .returned (.int .i64 (if n - s.size < 0 then -1 else n - s.size)) ∧ Below w.heap.size w w' := by
  unfold maxLen at hs
  by_cases h : n - (s.size : Int) < 0
  · rw [if_pos h]
    go_enter Tryd.func16, Tryd.ntmps16
    go_wp2
    go_ret
    exact ⟨rfl, (Below.refl _ _).alloc (Nat.le_refl _) _⟩
  · rw [if_neg h]
    have hd : decide (n - (s.size : Int) < 0) = false := by simpa using h
    go_enter Tryd.func16, Tryd.ntmps16
    go_wp2
    go_ret
    exact ⟨rfl, (Below.refl _ _).alloc (Nat.le_refl _) _⟩

set_option maxHeartbeats 1000000 in
theorem toTy (k l : Int) (s : ByteArray) (w : World) :
    Calls Tryd.prog 19 #[.agg #[.int .i64 k, .int .i64 l, .string s]] w fun e w' => e = .returned (.agg #[.int .i64 k, .int .i64 l, .string s]) ∧ Below w.heap.size w w' := by
  go_enter Tryd.func19, Tryd.ntmps19
  go_wp2
  refine bodyPost_ret (v := .agg #[.int .i64 k, .int .i64 l, .string s]) (by simp [results, Tryd.results19, go_sem]) rfl ⟨rfl, ?_⟩
  exact (((Below.refl _ _).alloc (Nat.le_refl _) _).alloc (by simp) _).alloc (by simp; omega) _

/-- Two types lie in the blocks p and q. -/
def Lie2 (p q : Nat) (k l : Int) (s : ByteArray) (k' l' : Int) (s' : ByteArray) (w : World) : Prop :=
  w.cell? ⟨p, 0, none⟩ = some (.int .i64 k) ∧ w.cell? ⟨p, 1, none⟩ = some (.int .i64 l) ∧ w.cell? ⟨p, 2, none⟩ = some (.string s) ∧
  w.cell? ⟨q, 0, none⟩ = some (.int .i64 k') ∧ w.cell? ⟨q, 1, none⟩ = some (.int .i64 l') ∧ w.cell? ⟨q, 2, none⟩ = some (.string s')

theorem Lie2.below {p q : Nat} {k l : Int} {s : ByteArray} {k' l' : Int} {s' : ByteArray} {w w' : World} (h : Lie2 p q k l s k' l' s' w) (hp : p < w.heap.size) (hq : q < w.heap.size) (hb : Below w.heap.size w w') : Lie2 p q k l s k' l' s' w' := by
  obtain ⟨h1, h2, h3, h4, h5, h6⟩ := h
  exact ⟨(hb.cell (p := ⟨p, 0, none⟩) hp).trans h1, (hb.cell (p := ⟨p, 1, none⟩) hp).trans h2, (hb.cell (p := ⟨p, 2, none⟩) hp).trans h3,
    (hb.cell (p := ⟨q, 0, none⟩) hq).trans h4, (hb.cell (p := ⟨q, 1, none⟩) hq).trans h5, (hb.cell (p := ⟨q, 2, none⟩) hq).trans h6⟩

theorem lie2_new (w : World) (T T' : TypeId) (k l : Int) (s : ByteArray) (k' l' : Int) (s' : ByteArray) :
    Lie2 w.heap.size (w.heap.size + 1) k l s k' l' s' ((w.alloc (.cells #[.int .i64 k, .int .i64 l, .string s] T)).alloc (.cells #[.int .i64 k', .int .i64 l', .string s'] T')) := by
  have h1 : ∀ o, ((w.alloc (.cells #[.int .i64 k, .int .i64 l, .string s] T)).alloc (.cells #[.int .i64 k', .int .i64 l', .string s'] T')).cell? ⟨w.heap.size, o, none⟩ = (w.alloc (.cells #[.int .i64 k, .int .i64 l, .string s] T)).cell? ⟨w.heap.size, o, none⟩ :=
    fun o => World.cell?_alloc_lt _ _ _ (by simp)
  have h2 : (w.alloc (.cells #[.int .i64 k, .int .i64 l, .string s] T)).heap.size = w.heap.size + 1 := by simp
  unfold Lie2
  rw [h1, h1, h1, cell_of_row _ _ _ _ _ _ (heap_alloc_new w _), cell_of_row _ _ _ _ _ _ (heap_alloc_new w _), cell_of_row _ _ _ _ _ _ (heap_alloc_new w _), ← h2,
    cell_of_row _ _ _ _ _ _ (heap_alloc_new _ _), cell_of_row _ _ _ _ _ _ (heap_alloc_new _ _), cell_of_row _ _ _ _ _ _ (heap_alloc_new _ _)]
  exact ⟨rfl, rfl, rfl, rfl, rfl, rfl⟩

/-- .. behind the world w0, in blocks that are there. -/
def Lay2 (w0 : World) (p q : Nat) (k l : Int) (s : ByteArray) (k' l' : Int) (s' : ByteArray) (w : World) : Prop :=
  Lie2 p q k l s k' l' s' w ∧ p < w.heap.size ∧ q < w.heap.size ∧ Below w0.heap.size w0 w

theorem Lay2.below {w0 : World} {p q : Nat} {k l : Int} {s : ByteArray} {k' l' : Int} {s' : ByteArray} {w w' : World} (h : Lay2 w0 p q k l s k' l' s' w) (hb : Below w.heap.size w w') : Lay2 w0 p q k l s k' l' s' w' :=
  ⟨h.1.below h.2.1 h.2.2.1 hb, Nat.lt_of_lt_of_le h.2.1 hb.size, Nat.lt_of_lt_of_le h.2.2.1 hb.size, h.2.2.2.trans (hb.mono h.2.2.2.size)⟩

theorem Lay2.drew {w0 : World} {p q : Nat} {k l : Int} {s : ByteArray} {k' l' : Int} {s' : ByteArray} {w : World} (h : Lay2 w0 p q k l s k' l' s' w) : Lay2 w0 p q k l s k' l' s' w.drew :=
  h.below ⟨rfl, rfl, rfl, Nat.le_refl _, fun _ _ => rfl⟩

theorem lay2_new (w : World) (T T' : TypeId) (k l : Int) (s : ByteArray) (k' l' : Int) (s' : ByteArray) :
    Lay2 w w.heap.size (w.heap.size + 1) k l s k' l' s' ((w.alloc (.cells #[.int .i64 k, .int .i64 l, .string s] T)).alloc (.cells #[.int .i64 k', .int .i64 l', .string s'] T')) :=
  ⟨lie2_new w T T' k l s k' l' s', by simp; omega, by simp, below2 w _ _⟩

/-- A type lies in the block p, behind the world w0. -/
def Lay1 (w0 : World) (p : Nat) (k l : Int) (s : ByteArray) (w : World) : Prop :=
  (w.cell? ⟨p, 0, none⟩ = some (.int .i64 k) ∧ w.cell? ⟨p, 1, none⟩ = some (.int .i64 l) ∧ w.cell? ⟨p, 2, none⟩ = some (.string s)) ∧ p < w.heap.size ∧ Below w0.heap.size w0 w

theorem Lay1.below {w0 : World} {p : Nat} {k l : Int} {s : ByteArray} {w w' : World} (h : Lay1 w0 p k l s w) (hb : Below w.heap.size w w') : Lay1 w0 p k l s w' :=
  ⟨⟨(hb.cell (p := ⟨p, 0, none⟩) h.2.1).trans h.1.1, (hb.cell (p := ⟨p, 1, none⟩) h.2.1).trans h.1.2.1, (hb.cell (p := ⟨p, 2, none⟩) h.2.1).trans h.1.2.2⟩,
    Nat.lt_of_lt_of_le h.2.1 hb.size, h.2.2.trans (hb.mono h.2.2.size)⟩

theorem Lay1.drew {w0 : World} {p : Nat} {k l : Int} {s : ByteArray} {w : World} (h : Lay1 w0 p k l s w) : Lay1 w0 p k l s w.drew := h.below ⟨rfl, rfl, rfl, Nat.le_refl _, fun _ _ => rfl⟩

theorem Lay1.alloc {w0 : World} {p : Nat} {k l : Int} {s : ByteArray} {w : World} (h : Lay1 w0 p k l s w) (o : Obj) : Lay1 w0 p k l s (w.alloc o) := h.below ((Below.refl _ _).alloc (Nat.le_refl _) _)

theorem lay1_new (w : World) (T : TypeId) (k l : Int) (s : ByteArray) : Lay1 w w.heap.size k l s (w.alloc (.cells #[.int .i64 k, .int .i64 l, .string s] T)) := by
  refine ⟨?_, by simp, (Below.refl _ _).alloc (Nat.le_refl _) _⟩
  rw [cell_of_row _ _ _ _ _ _ (heap_alloc_new w _), cell_of_row _ _ _ _ _ _ (heap_alloc_new w _), cell_of_row _ _ _ _ _ _ (heap_alloc_new w _)]
  exact ⟨rfl, rfl, rfl⟩

end Go.Proofs.YtefjjcoaeanagaaDoor
