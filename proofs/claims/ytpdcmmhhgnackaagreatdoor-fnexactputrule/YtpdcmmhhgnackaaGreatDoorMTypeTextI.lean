/- impl.TypeText. -/
/- impl.TypeText: the types with a length or a name. -/
/- impl.TypeText, all of its cases, in a world that holds the tables. -/
import Derived.Test.YtpdcmmhhgnackaaGreatDoorMBuilder
import Derived.Test.YtpdcmmhhgnackaaGreatDoorMOkI
namespace Go.Proofs.YtpdcmmhhgnackaaGreatDoor
open Go.RowKit

/-- A type lies in block p and a form in block q, behind the world w0. -/
def LayTF (w0 : World) (p q : Nat) (k l : Int) (s f : ByteArray) (mn mx : Int) (nm : Bool) (w : World) : Prop :=
  Lay1 w0 p k l s w ∧ q < w.heap.size ∧ w.heap[q]? = some (.cells #[.string f, .int .i64 mn, .int .i64 mx, .bool nm] 114 (0, 0))

theorem LayTF.below {w0 : World} {p q : Nat} {k l : Int} {s f : ByteArray} {mn mx : Int} {nm : Bool} {w w' : World} (h : LayTF w0 p q k l s f mn mx nm w) (hb : Below w.heap.size w w') : LayTF w0 p q k l s f mn mx nm w' :=
  ⟨h.1.below hb, Nat.lt_of_lt_of_le h.2.1 hb.size, (hb.block q h.2.1).trans h.2.2⟩

theorem formCells {w : World} {q : Nat} {f : ByteArray} {mn mx : Int} {nm : Bool} {T : TypeId} (h : w.heap[q]? = some (.cells #[.string f, .int .i64 mn, .int .i64 mx, .bool nm] T (0, 0))) :
    w.cell? ⟨q, 0, none⟩ = some (.string f) ∧ w.cell? ⟨q, 1, none⟩ = some (.int .i64 mn) ∧ w.cell? ⟨q, 2, none⟩ = some (.int .i64 mx) ∧ w.cell? ⟨q, 3, none⟩ = some (.bool nm) := by
  rw [cell_of_row _ _ _ _ _ _ h, cell_of_row _ _ _ _ _ _ h, cell_of_row _ _ _ _ _ _ h, cell_of_row _ _ _ _ _ _ h]
  exact ⟨rfl, rfl, rfl, rfl⟩

theorem row_set {w : World} {q j : Nat} {cs : Array Value} {T : TypeId} (h : w.heap[q]? = some (.cells cs T (0, 0))) (v : Value) : (w.setCell ⟨q, j, none⟩ v).heap[q]? = some (.cells (cs.setIfInBounds j v) T (0, 0)) := by
  simp [World.setCell, Array.getElem?_modify, h]

theorem LayTF.set4 {w0 w : World} {p q : Nat} {k l : Int} {s f : ByteArray} {mn mx : Int} {nm : Bool} (h : Lay1 w0 p k l s w) (hr : w.heap[q]? = some (.cells #[.string ⟨#[]⟩, .int .i64 0, .int .i64 0, .bool false] 114 (0, 0))) (hpq : p ≠ q) (hq : w0.heap.size ≤ q) :
    LayTF w0 p q k l s f mn mx nm ((((w.setCell ⟨q, 0, none⟩ (.string f)).setCell ⟨q, 1, none⟩ (.int .i64 mn)).setCell ⟨q, 2, none⟩ (.int .i64 mx)).setCell ⟨q, 3, none⟩ (.bool nm)) := by
  have st : ∀ {w : World} (h : Lay1 w0 p k l s w) (j : Nat) (v : Value), Lay1 w0 p k l s (w.setCell ⟨q, j, none⟩ v) := fun {w} h j v => by
    have hc : ∀ o, (w.setCell ⟨q, j, none⟩ v).cell? ⟨p, o, none⟩ = w.cell? ⟨p, o, none⟩ := fun o => World.cell?_of_block (w := w) (w' := w.setCell ⟨q, j, none⟩ v) (a := ⟨p, o, none⟩) (Below.heap_setCell _ _ _ _ hpq)
    exact ⟨⟨(hc 0).trans h.1.1, (hc 1).trans h.1.2.1, (hc 2).trans h.1.2.2⟩, by rw [size_setCell]; exact h.2.1, below_setCell h.2.2 h.2.2.size hq⟩
  have hlt : q < w.heap.size := by
    rcases Nat.lt_or_ge q w.heap.size with h' | h'
    · exact h'
    · rw [Array.getElem?_eq_none h'] at hr; cases hr
  refine ⟨st (st (st (st h 0 _) 1 _) 2 _) 3 _, by simpa only [size_setCell] using hlt, ?_⟩
  rw [row_set (row_set (row_set (row_set hr (.string f)) (.int .i64 mn)) (.int .i64 mx)) (.bool nm)]
  rfl

theorem below_drewL {w w' : World} (h : Below w.drew.heap.size w.drew w') : Below w.heap.size w w' := ⟨h.os, h.tape, h.output, h.size, h.block⟩
theorem below_toDrew {B : Nat} {w w' : World} (h : Below B w w') : Below B w w'.drew := ⟨h.os, h.tape, h.output, h.size, h.block⟩
theorem implDecIs (n : Int) (w : World) (h0 : -9223372036854775808 ≤ n) (h1 : n ≤ 9223372036854775807) (ht : Lib.TabIs Tryz.prog w "internal/strconv.uint64pow10" .u64 Lib.pow10Tab) (D : ByteArray) (hD : dec n = D) :
    Calls Tryz.prog 82 #[.int .i64 n] w fun e w' => e = .returned (.string D) ∧ Below w.heap.size w w' := hD ▸ implDecText n w h0 h1 ht

set_option maxHeartbeats 8000000 in
theorem typeTextNone (k l : Int) (s : ByteArray) (w : World) (hs : s.size ≤ 1048576) (f : ByteArray) (mn mx : Int) (nm : Bool) (hfz : f.size ≤ 10) (r : ByteArray)
    (HL : Hid (∀ (W : World) (b : Nat), W.ownsMap Tryz.prog 3 formR b 5 formsD → (Instr.lookup 116 (.map (some b)) (.int .i64 k) true).run Tryz.prog W = .ok (.tuple #[.agg #[.string f, .int .i64 mn, .int .i64 mx, .bool nm], .bool false]) W))
    (HR : Hid (r = ⟨#[]⟩))
    : Calls Tryz.prog 31 #[.agg #[.int .i64 k, .int .i64 l, .string s]] w fun e w' => e = .returned (.string r) ∧ Below w.heap.size w w' := by
  have hlay := Lib.hid (lay1_new w 29 k l s)
  go_enter Tryz.func31, Tryz.ntmps31
  go_wp2_with fail
  generalize w.alloc (.cells #[.int .i64 k, .int .i64 l, .string s] 29) = W0 at hlay ⊢
  obtain ⟨⟨c0, c1, c2⟩, hlt0, hb0⟩ := hlay.out
  have hne : ¬ W0.heap.size = w.heap.size := by omega
  have hne' : ¬ w.heap.size = W0.heap.size := by omega
  have hst : Hid (∀ a b : World, W0.heap.size ≤ a.heap.size → (a.cell? ⟨w.heap.size, 0, none⟩ = some (.int .i64 k) ∧ a.cell? ⟨w.heap.size, 1, none⟩ = some (.int .i64 l) ∧ a.cell? ⟨w.heap.size, 2, none⟩ = some (.string s)) → Below a.heap.size a b → (b.cell? ⟨w.heap.size, 0, none⟩ = some (.int .i64 k) ∧ b.cell? ⟨w.heap.size, 1, none⟩ = some (.int .i64 l) ∧ b.cell? ⟨w.heap.size, 2, none⟩ = some (.string s))) :=
    fun a b hle h hb => ⟨(hb.cell (p := ⟨w.heap.size, 0, none⟩) (Nat.lt_of_lt_of_le hlt0 hle)).trans h.1, (hb.cell (p := ⟨w.heap.size, 1, none⟩) (Nat.lt_of_lt_of_le hlt0 hle)).trans h.2.1, (hb.cell (p := ⟨w.heap.size, 2, none⟩) (Nat.lt_of_lt_of_le hlt0 hle)).trans h.2.2⟩
  have HB0 := Lib.hid hb0
  clear hb0
  go_region_held3 (fun w' => w'.cell? ⟨w.heap.size, 0, none⟩ = some (.int .i64 k) ∧ w'.cell? ⟨w.heap.size, 1, none⟩ = some (.int .i64 l) ∧ w'.cell? ⟨w.heap.size, 2, none⟩ = some (.string s))
    (go_keep)
    ((go_at_call 80; refine (implForms _).mono ?_; rintro e w1 ⟨rfl, o1, b1⟩; have q1 := HL.out _ _ o1; have q2 := fun o => HL.out _ _ (World.ownsMap.alloc o1 o); obtain ⟨hcw, hfw⟩ := blockCells b1; (try simp only [World.size_alloc, drew_heap] at q1 q2); obtain ⟨d0, d1, d2⟩ := hst.out _ _ (by simp) (by assumption) b1; have O1 := Lib.hid o1; have B1 := Lib.hid b1; clear o1 b1))
  · have LF : LayTF w w.heap.size w1.heap.size k l s f mn mx nm (w1.alloc (.cells #[.string f, .int .i64 mn, .int .i64 mx, .bool nm] 114)) := by
      have h0 := HB0.out.drew
      have h1 : Below w.heap.size w w1 := h0.trans (B1.out.mono h0.size)
      have hw1 : W0.heap.size ≤ w1.heap.size := B1.out.size
      have hl1 : Lay1 w w.heap.size k l s w1 := ⟨⟨d0, d1, d2⟩, Nat.lt_of_lt_of_le hlt0 hw1, h1⟩
      exact ⟨hl1.alloc _, by simp, heap_alloc_new _ _⟩
    generalize w1.alloc (.cells #[.string f, .int .i64 mn, .int .i64 mx, .bool nm] 114) = W2 at LF ⊢
    generalize w1.heap.size = q at LF ⊢
    have HLF := Lib.hid LF
    obtain ⟨⟨⟨c0', c1', c2'⟩, _⟩, _, hrq⟩ := LF
    obtain ⟨f0, f1, f2, f3⟩ := formCells hrq
    clear hrq c0 c1 c2 hcw hfw d0 d1 d2 q1 q2
    go_wp2_with fail
    go_ret
    exact ⟨by rw [HR.out]; rfl, HLF.out.1.2.2⟩
  · have LF : LayTF w w.heap.size w1.heap.size k l s f mn mx nm (w1.alloc (.cells #[.string f, .int .i64 mn, .int .i64 mx, .bool nm] 114)) := by
      have h0 := HB0.out.drew
      have h1 : Below w.heap.size w w1 := h0.trans (B1.out.mono h0.size)
      have hw1 : W0.heap.size ≤ w1.heap.size := B1.out.size
      have hl1 : Lay1 w w.heap.size k l s w1 := ⟨⟨d0, d1, d2⟩, Nat.lt_of_lt_of_le hlt0 hw1, h1⟩
      exact ⟨hl1.alloc _, by simp, heap_alloc_new _ _⟩
    generalize w1.alloc (.cells #[.string f, .int .i64 mn, .int .i64 mx, .bool nm] 114) = W2 at LF ⊢
    generalize w1.heap.size = q at LF ⊢
    have HLF := Lib.hid LF
    obtain ⟨⟨⟨c0', c1', c2'⟩, _⟩, _, hrq⟩ := LF
    obtain ⟨f0, f1, f2, f3⟩ := formCells hrq
    clear hrq c0 c1 c2 hcw hfw d0 d1 d2 q1 q2
    go_wp2_with fail
    go_ret
    exact ⟨by rw [HR.out]; rfl, HLF.out.1.2.2⟩
  · have LF : LayTF w w.heap.size W0.heap.size k l s f mn mx nm ((((w1.setCell ⟨W0.heap.size, 0, none⟩ (.string f)).setCell ⟨W0.heap.size, 1, none⟩ (.int .i64 mn)).setCell ⟨W0.heap.size, 2, none⟩ (.int .i64 mx)).setCell ⟨W0.heap.size, 3, none⟩ (.bool nm)) := by
      have h0 := HB0.out.drew
      have h0a := h0.alloc h0.size (.cells #[.string ⟨#[]⟩, .int .i64 0, .int .i64 0, .bool false] 114)
      have h1 : Below w.heap.size w w1 := h0a.trans (B1.out.mono h0a.size)
      have hw1 : W0.heap.size + 1 ≤ w1.heap.size := by have := B1.out.size; simpa using this
      have hq : w.heap.size ≤ W0.heap.size := Nat.le_of_lt hlt0
      have hl1 : Lay1 w w.heap.size k l s w1 := ⟨⟨d0, d1, d2⟩, by omega, h1⟩
      have hrow : w1.heap[W0.heap.size]? = some (.cells #[.string ⟨#[]⟩, .int .i64 0, .int .i64 0, .bool false] 114 (0, 0)) := (B1.out.block W0.heap.size (by simp)).trans (heap_alloc_new W0.drew _)
      exact LayTF.set4 hl1 hrow (by omega) hq
    generalize (((w1.setCell ⟨W0.heap.size, 0, none⟩ (.string f)).setCell ⟨W0.heap.size, 1, none⟩ (.int .i64 mn)).setCell ⟨W0.heap.size, 2, none⟩ (.int .i64 mx)).setCell ⟨W0.heap.size, 3, none⟩ (.bool nm) = W2 at LF ⊢
    generalize W0.heap.size = q at LF ⊢
    have HLF := Lib.hid LF
    obtain ⟨⟨⟨c0', c1', c2'⟩, _⟩, _, hrq⟩ := LF
    obtain ⟨f0, f1, f2, f3⟩ := formCells hrq
    clear hrq c0 c1 c2 hcw hfw d0 d1 d2 q1 q2
    go_wp2_with fail
    go_ret
    exact ⟨by rw [HR.out]; rfl, HLF.out.1.2.2⟩

set_option maxHeartbeats 8000000 in
theorem typeTextBad (k l : Int) (s : ByteArray) (w : World) (hs : s.size ≤ 1048576) (f : ByteArray) (mn mx : Int) (nm : Bool) (hfz : f.size ≤ 10) (r : ByteArray)
    (HL : Hid (∀ (W : World) (b : Nat), W.ownsMap Tryz.prog 3 formR b 5 formsD → (Instr.lookup 116 (.map (some b)) (.int .i64 k) true).run Tryz.prog W = .ok (.tuple #[.agg #[.string f, .int .i64 mn, .int .i64 mx, .bool nm], .bool true]) W))
    (HF : Hid (fitsB mn mx nm l s = false)) (HR : Hid (r = ⟨#[]⟩))
    : Calls Tryz.prog 31 #[.agg #[.int .i64 k, .int .i64 l, .string s]] w fun e w' => e = .returned (.string r) ∧ Below w.heap.size w w' := by
  have hlay := Lib.hid (lay1_new w 29 k l s)
  go_enter Tryz.func31, Tryz.ntmps31
  go_wp2_with fail
  generalize w.alloc (.cells #[.int .i64 k, .int .i64 l, .string s] 29) = W0 at hlay ⊢
  obtain ⟨⟨c0, c1, c2⟩, hlt0, hb0⟩ := hlay.out
  have hne : ¬ W0.heap.size = w.heap.size := by omega
  have hne' : ¬ w.heap.size = W0.heap.size := by omega
  have hst : Hid (∀ a b : World, W0.heap.size ≤ a.heap.size → (a.cell? ⟨w.heap.size, 0, none⟩ = some (.int .i64 k) ∧ a.cell? ⟨w.heap.size, 1, none⟩ = some (.int .i64 l) ∧ a.cell? ⟨w.heap.size, 2, none⟩ = some (.string s)) → Below a.heap.size a b → (b.cell? ⟨w.heap.size, 0, none⟩ = some (.int .i64 k) ∧ b.cell? ⟨w.heap.size, 1, none⟩ = some (.int .i64 l) ∧ b.cell? ⟨w.heap.size, 2, none⟩ = some (.string s))) :=
    fun a b hle h hb => ⟨(hb.cell (p := ⟨w.heap.size, 0, none⟩) (Nat.lt_of_lt_of_le hlt0 hle)).trans h.1, (hb.cell (p := ⟨w.heap.size, 1, none⟩) (Nat.lt_of_lt_of_le hlt0 hle)).trans h.2.1, (hb.cell (p := ⟨w.heap.size, 2, none⟩) (Nat.lt_of_lt_of_le hlt0 hle)).trans h.2.2⟩
  have HB0 := Lib.hid hb0
  clear hb0
  go_region_held3 (fun w' => w'.cell? ⟨w.heap.size, 0, none⟩ = some (.int .i64 k) ∧ w'.cell? ⟨w.heap.size, 1, none⟩ = some (.int .i64 l) ∧ w'.cell? ⟨w.heap.size, 2, none⟩ = some (.string s))
    (go_keep)
    ((go_at_call 80; refine (implForms _).mono ?_; rintro e w1 ⟨rfl, o1, b1⟩; have q1 := HL.out _ _ o1; have q2 := fun o => HL.out _ _ (World.ownsMap.alloc o1 o); obtain ⟨hcw, hfw⟩ := blockCells b1; (try simp only [World.size_alloc, drew_heap] at q1 q2); obtain ⟨d0, d1, d2⟩ := hst.out _ _ (by simp) (by assumption) b1; have O1 := Lib.hid o1; have B1 := Lib.hid b1; clear o1 b1))
  · have LF : LayTF w w.heap.size w1.heap.size k l s f mn mx nm (w1.alloc (.cells #[.string f, .int .i64 mn, .int .i64 mx, .bool nm] 114)) := by
      have h0 := HB0.out.drew
      have h1 : Below w.heap.size w w1 := h0.trans (B1.out.mono h0.size)
      have hw1 : W0.heap.size ≤ w1.heap.size := B1.out.size
      have hl1 : Lay1 w w.heap.size k l s w1 := ⟨⟨d0, d1, d2⟩, Nat.lt_of_lt_of_le hlt0 hw1, h1⟩
      exact ⟨hl1.alloc _, by simp, heap_alloc_new _ _⟩
    generalize w1.alloc (.cells #[.string f, .int .i64 mn, .int .i64 mx, .bool nm] 114) = W2 at LF ⊢
    generalize w1.heap.size = q at LF ⊢
    have HLF := Lib.hid LF
    obtain ⟨⟨⟨c0', c1', c2'⟩, _⟩, _, hrq⟩ := LF
    obtain ⟨f0, f1, f2, f3⟩ := formCells hrq
    clear hrq c0 c1 c2 hcw hfw d0 d1 d2 q1 q2
    go_wp2_with fail
    refine (implFits f mn mx nm k l s _ false HF.out).mono ?_
    rintro e w9 ⟨rfl, b9⟩
    have L9 := Lib.hid (HLF.out.below b9)
    clear c0' c1' c2' f0 f1 f2 f3 b9
    obtain ⟨⟨⟨c0, c1, c2⟩, _⟩, _, hr9⟩ := L9.out
    obtain ⟨f0, f1, f2, f3⟩ := formCells hr9
    clear hr9
    go_wp2_with fail
    go_ret
    exact ⟨by rw [HR.out]; rfl, L9.out.1.2.2⟩
  · have LF : LayTF w w.heap.size w1.heap.size k l s f mn mx nm (w1.alloc (.cells #[.string f, .int .i64 mn, .int .i64 mx, .bool nm] 114)) := by
      have h0 := HB0.out.drew
      have h1 : Below w.heap.size w w1 := h0.trans (B1.out.mono h0.size)
      have hw1 : W0.heap.size ≤ w1.heap.size := B1.out.size
      have hl1 : Lay1 w w.heap.size k l s w1 := ⟨⟨d0, d1, d2⟩, Nat.lt_of_lt_of_le hlt0 hw1, h1⟩
      exact ⟨hl1.alloc _, by simp, heap_alloc_new _ _⟩
    generalize w1.alloc (.cells #[.string f, .int .i64 mn, .int .i64 mx, .bool nm] 114) = W2 at LF ⊢
    generalize w1.heap.size = q at LF ⊢
    have HLF := Lib.hid LF
    obtain ⟨⟨⟨c0', c1', c2'⟩, _⟩, _, hrq⟩ := LF
    obtain ⟨f0, f1, f2, f3⟩ := formCells hrq
    clear hrq c0 c1 c2 hcw hfw d0 d1 d2 q1 q2
    go_wp2_with fail
    refine (implFits f mn mx nm k l s _ false HF.out).mono ?_
    rintro e w9 ⟨rfl, b9⟩
    have L9 := Lib.hid (HLF.out.below b9)
    clear c0' c1' c2' f0 f1 f2 f3 b9
    obtain ⟨⟨⟨c0, c1, c2⟩, _⟩, _, hr9⟩ := L9.out
    obtain ⟨f0, f1, f2, f3⟩ := formCells hr9
    clear hr9
    go_wp2_with fail
    go_ret
    exact ⟨by rw [HR.out]; rfl, L9.out.1.2.2⟩
  · have LF : LayTF w w.heap.size W0.heap.size k l s f mn mx nm ((((w1.setCell ⟨W0.heap.size, 0, none⟩ (.string f)).setCell ⟨W0.heap.size, 1, none⟩ (.int .i64 mn)).setCell ⟨W0.heap.size, 2, none⟩ (.int .i64 mx)).setCell ⟨W0.heap.size, 3, none⟩ (.bool nm)) := by
      have h0 := HB0.out.drew
      have h0a := h0.alloc h0.size (.cells #[.string ⟨#[]⟩, .int .i64 0, .int .i64 0, .bool false] 114)
      have h1 : Below w.heap.size w w1 := h0a.trans (B1.out.mono h0a.size)
      have hw1 : W0.heap.size + 1 ≤ w1.heap.size := by have := B1.out.size; simpa using this
      have hq : w.heap.size ≤ W0.heap.size := Nat.le_of_lt hlt0
      have hl1 : Lay1 w w.heap.size k l s w1 := ⟨⟨d0, d1, d2⟩, by omega, h1⟩
      have hrow : w1.heap[W0.heap.size]? = some (.cells #[.string ⟨#[]⟩, .int .i64 0, .int .i64 0, .bool false] 114 (0, 0)) := (B1.out.block W0.heap.size (by simp)).trans (heap_alloc_new W0.drew _)
      exact LayTF.set4 hl1 hrow (by omega) hq
    generalize (((w1.setCell ⟨W0.heap.size, 0, none⟩ (.string f)).setCell ⟨W0.heap.size, 1, none⟩ (.int .i64 mn)).setCell ⟨W0.heap.size, 2, none⟩ (.int .i64 mx)).setCell ⟨W0.heap.size, 3, none⟩ (.bool nm) = W2 at LF ⊢
    generalize W0.heap.size = q at LF ⊢
    have HLF := Lib.hid LF
    obtain ⟨⟨⟨c0', c1', c2'⟩, _⟩, _, hrq⟩ := LF
    obtain ⟨f0, f1, f2, f3⟩ := formCells hrq
    clear hrq c0 c1 c2 hcw hfw d0 d1 d2 q1 q2
    go_wp2_with fail
    refine (implFits f mn mx nm k l s _ false HF.out).mono ?_
    rintro e w9 ⟨rfl, b9⟩
    have L9 := Lib.hid (HLF.out.below b9)
    clear c0' c1' c2' f0 f1 f2 f3 b9
    obtain ⟨⟨⟨c0, c1, c2⟩, _⟩, _, hr9⟩ := L9.out
    obtain ⟨f0, f1, f2, f3⟩ := formCells hr9
    clear hr9
    go_wp2_with fail
    go_ret
    exact ⟨by rw [HR.out]; rfl, L9.out.1.2.2⟩

set_option maxHeartbeats 8000000 in
theorem typeTextWord (k l : Int) (s : ByteArray) (w : World) (hs : s.size ≤ 1048576) (f : ByteArray) (mn mx : Int) (hfz : f.size ≤ 10) (r : ByteArray)
    (HL : Hid (∀ (W : World) (b : Nat), W.ownsMap Tryz.prog 3 formR b 5 formsD → (Instr.lookup 116 (.map (some b)) (.int .i64 k) true).run Tryz.prog W = .ok (.tuple #[.agg #[.string f, .int .i64 mn, .int .i64 mx, .bool false], .bool true]) W))
    (HF : Hid (fitsB mn mx false l s = true)) (hmx : decide (0 < mx) = false) (HR : Hid (r = f))
    : Calls Tryz.prog 31 #[.agg #[.int .i64 k, .int .i64 l, .string s]] w fun e w' => e = .returned (.string r) ∧ Below w.heap.size w w' := by
  have hlay := Lib.hid (lay1_new w 29 k l s)
  go_enter Tryz.func31, Tryz.ntmps31
  go_wp2_with fail
  generalize w.alloc (.cells #[.int .i64 k, .int .i64 l, .string s] 29) = W0 at hlay ⊢
  obtain ⟨⟨c0, c1, c2⟩, hlt0, hb0⟩ := hlay.out
  have hne : ¬ W0.heap.size = w.heap.size := by omega
  have hne' : ¬ w.heap.size = W0.heap.size := by omega
  have hst : Hid (∀ a b : World, W0.heap.size ≤ a.heap.size → (a.cell? ⟨w.heap.size, 0, none⟩ = some (.int .i64 k) ∧ a.cell? ⟨w.heap.size, 1, none⟩ = some (.int .i64 l) ∧ a.cell? ⟨w.heap.size, 2, none⟩ = some (.string s)) → Below a.heap.size a b → (b.cell? ⟨w.heap.size, 0, none⟩ = some (.int .i64 k) ∧ b.cell? ⟨w.heap.size, 1, none⟩ = some (.int .i64 l) ∧ b.cell? ⟨w.heap.size, 2, none⟩ = some (.string s))) :=
    fun a b hle h hb => ⟨(hb.cell (p := ⟨w.heap.size, 0, none⟩) (Nat.lt_of_lt_of_le hlt0 hle)).trans h.1, (hb.cell (p := ⟨w.heap.size, 1, none⟩) (Nat.lt_of_lt_of_le hlt0 hle)).trans h.2.1, (hb.cell (p := ⟨w.heap.size, 2, none⟩) (Nat.lt_of_lt_of_le hlt0 hle)).trans h.2.2⟩
  have HB0 := Lib.hid hb0
  clear hb0
  go_region_held3 (fun w' => w'.cell? ⟨w.heap.size, 0, none⟩ = some (.int .i64 k) ∧ w'.cell? ⟨w.heap.size, 1, none⟩ = some (.int .i64 l) ∧ w'.cell? ⟨w.heap.size, 2, none⟩ = some (.string s))
    (go_keep)
    ((go_at_call 80; refine (implForms _).mono ?_; rintro e w1 ⟨rfl, o1, b1⟩; have q1 := HL.out _ _ o1; have q2 := fun o => HL.out _ _ (World.ownsMap.alloc o1 o); obtain ⟨hcw, hfw⟩ := blockCells b1; (try simp only [World.size_alloc, drew_heap] at q1 q2); obtain ⟨d0, d1, d2⟩ := hst.out _ _ (by simp) (by assumption) b1; have O1 := Lib.hid o1; have B1 := Lib.hid b1; clear o1 b1))
  · have LF : LayTF w w.heap.size w1.heap.size k l s f mn mx false (w1.alloc (.cells #[.string f, .int .i64 mn, .int .i64 mx, .bool false] 114)) := by
      have h0 := HB0.out.drew
      have h1 : Below w.heap.size w w1 := h0.trans (B1.out.mono h0.size)
      have hw1 : W0.heap.size ≤ w1.heap.size := B1.out.size
      have hl1 : Lay1 w w.heap.size k l s w1 := ⟨⟨d0, d1, d2⟩, Nat.lt_of_lt_of_le hlt0 hw1, h1⟩
      exact ⟨hl1.alloc _, by simp, heap_alloc_new _ _⟩
    generalize w1.alloc (.cells #[.string f, .int .i64 mn, .int .i64 mx, .bool false] 114) = W2 at LF ⊢
    generalize w1.heap.size = q at LF ⊢
    have HLF := Lib.hid LF
    obtain ⟨⟨⟨c0', c1', c2'⟩, _⟩, _, hrq⟩ := LF
    obtain ⟨f0, f1, f2, f3⟩ := formCells hrq
    clear hrq c0 c1 c2 hcw hfw d0 d1 d2 q1 q2
    go_wp2_with fail
    refine (implFits f mn mx false k l s _ true HF.out).mono ?_
    rintro e w9 ⟨rfl, b9⟩
    have L9 := Lib.hid (HLF.out.below b9)
    clear c0' c1' c2' f0 f1 f2 f3 b9
    obtain ⟨⟨⟨c0, c1, c2⟩, _⟩, _, hr9⟩ := L9.out
    obtain ⟨f0, f1, f2, f3⟩ := formCells hr9
    clear hr9
    go_wp2_with fail
    go_ret
    exact ⟨by rw [HR.out]; rfl, L9.out.1.2.2⟩
  · have LF : LayTF w w.heap.size w1.heap.size k l s f mn mx false (w1.alloc (.cells #[.string f, .int .i64 mn, .int .i64 mx, .bool false] 114)) := by
      have h0 := HB0.out.drew
      have h1 : Below w.heap.size w w1 := h0.trans (B1.out.mono h0.size)
      have hw1 : W0.heap.size ≤ w1.heap.size := B1.out.size
      have hl1 : Lay1 w w.heap.size k l s w1 := ⟨⟨d0, d1, d2⟩, Nat.lt_of_lt_of_le hlt0 hw1, h1⟩
      exact ⟨hl1.alloc _, by simp, heap_alloc_new _ _⟩
    generalize w1.alloc (.cells #[.string f, .int .i64 mn, .int .i64 mx, .bool false] 114) = W2 at LF ⊢
    generalize w1.heap.size = q at LF ⊢
    have HLF := Lib.hid LF
    obtain ⟨⟨⟨c0', c1', c2'⟩, _⟩, _, hrq⟩ := LF
    obtain ⟨f0, f1, f2, f3⟩ := formCells hrq
    clear hrq c0 c1 c2 hcw hfw d0 d1 d2 q1 q2
    go_wp2_with fail
    refine (implFits f mn mx false k l s _ true HF.out).mono ?_
    rintro e w9 ⟨rfl, b9⟩
    have L9 := Lib.hid (HLF.out.below b9)
    clear c0' c1' c2' f0 f1 f2 f3 b9
    obtain ⟨⟨⟨c0, c1, c2⟩, _⟩, _, hr9⟩ := L9.out
    obtain ⟨f0, f1, f2, f3⟩ := formCells hr9
    clear hr9
    go_wp2_with fail
    go_ret
    exact ⟨by rw [HR.out]; rfl, L9.out.1.2.2⟩
  · have LF : LayTF w w.heap.size W0.heap.size k l s f mn mx false ((((w1.setCell ⟨W0.heap.size, 0, none⟩ (.string f)).setCell ⟨W0.heap.size, 1, none⟩ (.int .i64 mn)).setCell ⟨W0.heap.size, 2, none⟩ (.int .i64 mx)).setCell ⟨W0.heap.size, 3, none⟩ (.bool false)) := by
      have h0 := HB0.out.drew
      have h0a := h0.alloc h0.size (.cells #[.string ⟨#[]⟩, .int .i64 0, .int .i64 0, .bool false] 114)
      have h1 : Below w.heap.size w w1 := h0a.trans (B1.out.mono h0a.size)
      have hw1 : W0.heap.size + 1 ≤ w1.heap.size := by have := B1.out.size; simpa using this
      have hq : w.heap.size ≤ W0.heap.size := Nat.le_of_lt hlt0
      have hl1 : Lay1 w w.heap.size k l s w1 := ⟨⟨d0, d1, d2⟩, by omega, h1⟩
      have hrow : w1.heap[W0.heap.size]? = some (.cells #[.string ⟨#[]⟩, .int .i64 0, .int .i64 0, .bool false] 114 (0, 0)) := (B1.out.block W0.heap.size (by simp)).trans (heap_alloc_new W0.drew _)
      exact LayTF.set4 hl1 hrow (by omega) hq
    generalize (((w1.setCell ⟨W0.heap.size, 0, none⟩ (.string f)).setCell ⟨W0.heap.size, 1, none⟩ (.int .i64 mn)).setCell ⟨W0.heap.size, 2, none⟩ (.int .i64 mx)).setCell ⟨W0.heap.size, 3, none⟩ (.bool false) = W2 at LF ⊢
    generalize W0.heap.size = q at LF ⊢
    have HLF := Lib.hid LF
    obtain ⟨⟨⟨c0', c1', c2'⟩, _⟩, _, hrq⟩ := LF
    obtain ⟨f0, f1, f2, f3⟩ := formCells hrq
    clear hrq c0 c1 c2 hcw hfw d0 d1 d2 q1 q2
    go_wp2_with fail
    refine (implFits f mn mx false k l s _ true HF.out).mono ?_
    rintro e w9 ⟨rfl, b9⟩
    have L9 := Lib.hid (HLF.out.below b9)
    clear c0' c1' c2' f0 f1 f2 f3 b9
    obtain ⟨⟨⟨c0, c1, c2⟩, _⟩, _, hr9⟩ := L9.out
    obtain ⟨f0, f1, f2, f3⟩ := formCells hr9
    clear hr9
    go_wp2_with fail
    go_ret
    exact ⟨by rw [HR.out]; rfl, L9.out.1.2.2⟩

end Go.Proofs.YtpdcmmhhgnackaaGreatDoor

namespace Go.Proofs.YtpdcmmhhgnackaaGreatDoor
open Go.RowKit

set_option maxHeartbeats 8000000 in
theorem typeTextEnum (k l : Int) (s : ByteArray) (w : World) (hs : s.size ≤ 1048576) (f : ByteArray) (mn mx : Int) (hfz : f.size ≤ 10) (r : ByteArray)
    (HL : Hid (∀ (W : World) (b : Nat), W.ownsMap Tryz.prog 3 formR b 5 formsD → (Instr.lookup 116 (.map (some b)) (.int .i64 k) true).run Tryz.prog W = .ok (.tuple #[.agg #[.string f, .int .i64 mn, .int .i64 mx, .bool true], .bool true]) W))
    (HF : Hid (fitsB mn mx true l s = true)) (hmx : decide (0 < mx) = false) (N : ByteArray) (hz : N.size ≤ 2 * s.size + 2) (hN : Hid (nameT s = N)) (HR : Hid (r = f ++ ⟨#[32]⟩ ++ N))
    : Calls Tryz.prog 31 #[.agg #[.int .i64 k, .int .i64 l, .string s]] w fun e w' => e = .returned (.string r) ∧ Below w.heap.size w w' := by
  have hlay := Lib.hid (lay1_new w 29 k l s)
  have ad1 : ∀ w, (Op.stringOp .add f ⟨#[32]⟩).run Tryz.prog w = .ok (.string (f ++ ⟨#[32]⟩)) w := fun w => run_string_add_sum w _ _ (by have o1 : (ByteArray.mk #[32]).size = 1 := rfl; have o2 : (ByteArray.mk #[40]).size = 1 := rfl; have o3 : (ByteArray.mk #[41]).size = 1 := rfl; (try rw [ByteArray.size_append]); (try rw [ByteArray.size_append]); omega)
  have ad2 : ∀ w, (Op.stringOp .add (f ++ ⟨#[32]⟩) N).run Tryz.prog w = .ok (.string (f ++ ⟨#[32]⟩ ++ N)) w := fun w => run_string_add_sum w _ _ (by have o1 : (ByteArray.mk #[32]).size = 1 := rfl; have o2 : (ByteArray.mk #[40]).size = 1 := rfl; have o3 : (ByteArray.mk #[41]).size = 1 := rfl; (try rw [ByteArray.size_append]); (try rw [ByteArray.size_append]); omega)
  have ae1 : ∀ w, (binOp .add 9 (.string f) (.string ⟨#[32]⟩)).run Tryz.prog w = .ok (.string (f ++ ⟨#[32]⟩)) w := fun w => by simp [binOp, ad1]
  have ae2 : ∀ w, (binOp .add 9 (.string (f ++ ⟨#[32]⟩)) (.string N)).run Tryz.prog w = .ok (.string (f ++ ⟨#[32]⟩ ++ N)) w := fun w => by simp [binOp, ad2]
  go_enter Tryz.func31, Tryz.ntmps31
  go_wp2_with fail
  generalize w.alloc (.cells #[.int .i64 k, .int .i64 l, .string s] 29) = W0 at hlay ⊢
  obtain ⟨⟨c0, c1, c2⟩, hlt0, hb0⟩ := hlay.out
  have hne : ¬ W0.heap.size = w.heap.size := by omega
  have hne' : ¬ w.heap.size = W0.heap.size := by omega
  have hst : Hid (∀ a b : World, W0.heap.size ≤ a.heap.size → (a.cell? ⟨w.heap.size, 0, none⟩ = some (.int .i64 k) ∧ a.cell? ⟨w.heap.size, 1, none⟩ = some (.int .i64 l) ∧ a.cell? ⟨w.heap.size, 2, none⟩ = some (.string s)) → Below a.heap.size a b → (b.cell? ⟨w.heap.size, 0, none⟩ = some (.int .i64 k) ∧ b.cell? ⟨w.heap.size, 1, none⟩ = some (.int .i64 l) ∧ b.cell? ⟨w.heap.size, 2, none⟩ = some (.string s))) :=
    fun a b hle h hb => ⟨(hb.cell (p := ⟨w.heap.size, 0, none⟩) (Nat.lt_of_lt_of_le hlt0 hle)).trans h.1, (hb.cell (p := ⟨w.heap.size, 1, none⟩) (Nat.lt_of_lt_of_le hlt0 hle)).trans h.2.1, (hb.cell (p := ⟨w.heap.size, 2, none⟩) (Nat.lt_of_lt_of_le hlt0 hle)).trans h.2.2⟩
  have HB0 := Lib.hid hb0
  clear hb0
  go_region_held3 (fun w' => w'.cell? ⟨w.heap.size, 0, none⟩ = some (.int .i64 k) ∧ w'.cell? ⟨w.heap.size, 1, none⟩ = some (.int .i64 l) ∧ w'.cell? ⟨w.heap.size, 2, none⟩ = some (.string s))
    (go_keep)
    ((go_at_call 80; refine (implForms _).mono ?_; rintro e w1 ⟨rfl, o1, b1⟩; have q1 := HL.out _ _ o1; have q2 := fun o => HL.out _ _ (World.ownsMap.alloc o1 o); obtain ⟨hcw, hfw⟩ := blockCells b1; (try simp only [World.size_alloc, drew_heap] at q1 q2); obtain ⟨d0, d1, d2⟩ := hst.out _ _ (by simp) (by assumption) b1; have O1 := Lib.hid o1; have B1 := Lib.hid b1; clear o1 b1))
  · have LF : LayTF w w.heap.size w1.heap.size k l s f mn mx true (w1.alloc (.cells #[.string f, .int .i64 mn, .int .i64 mx, .bool true] 114)) := by
      have h0 := HB0.out.drew
      have h1 : Below w.heap.size w w1 := h0.trans (B1.out.mono h0.size)
      have hw1 : W0.heap.size ≤ w1.heap.size := B1.out.size
      have hl1 : Lay1 w w.heap.size k l s w1 := ⟨⟨d0, d1, d2⟩, Nat.lt_of_lt_of_le hlt0 hw1, h1⟩
      exact ⟨hl1.alloc _, by simp, heap_alloc_new _ _⟩
    generalize w1.alloc (.cells #[.string f, .int .i64 mn, .int .i64 mx, .bool true] 114) = W2 at LF ⊢
    generalize w1.heap.size = q at LF ⊢
    have HLF := Lib.hid LF
    obtain ⟨⟨⟨c0', c1', c2'⟩, _⟩, _, hrq⟩ := LF
    obtain ⟨f0, f1, f2, f3⟩ := formCells hrq
    clear hrq c0 c1 c2 hcw hfw d0 d1 d2 q1 q2
    go_wp2_with fail
    refine (implFits f mn mx true k l s _ true HF.out).mono ?_
    rintro e w9 ⟨rfl, b9⟩
    have L9 := Lib.hid (HLF.out.below b9)
    clear c0' c1' c2' f0 f1 f2 f3 b9
    obtain ⟨⟨⟨c0, c1, c2⟩, _⟩, _, hr9⟩ := L9.out
    obtain ⟨f0, f1, f2, f3⟩ := formCells hr9
    clear hr9
    go_wp2_with fail
    go_region_held3 (fun w' => w'.cell? ⟨w.heap.size, 2, none⟩ = some (.string s) ∧ w'.cell? ⟨q, 0, none⟩ = some (.string f))
      (go_keep)
      ((go_at_call 30; refine (implPutName s _ hs N hN.out).mono ?_; rintro e w10 ⟨rfl, b10⟩; have L10 := Lib.hid (L9.out.below (below_drewL b10)); obtain ⟨⟨⟨g0, g1, g2⟩, _⟩, _, hr10⟩ := L10.out; obtain ⟨e0, e1, e2, e3⟩ := formCells hr10; clear hr10 b10))
    go_wp2_with fail
    go_ret
    exact ⟨by rw [HR.out]; rfl, L10.out.1.2.2⟩
  · have LF : LayTF w w.heap.size w1.heap.size k l s f mn mx true (w1.alloc (.cells #[.string f, .int .i64 mn, .int .i64 mx, .bool true] 114)) := by
      have h0 := HB0.out.drew
      have h1 : Below w.heap.size w w1 := h0.trans (B1.out.mono h0.size)
      have hw1 : W0.heap.size ≤ w1.heap.size := B1.out.size
      have hl1 : Lay1 w w.heap.size k l s w1 := ⟨⟨d0, d1, d2⟩, Nat.lt_of_lt_of_le hlt0 hw1, h1⟩
      exact ⟨hl1.alloc _, by simp, heap_alloc_new _ _⟩
    generalize w1.alloc (.cells #[.string f, .int .i64 mn, .int .i64 mx, .bool true] 114) = W2 at LF ⊢
    generalize w1.heap.size = q at LF ⊢
    have HLF := Lib.hid LF
    obtain ⟨⟨⟨c0', c1', c2'⟩, _⟩, _, hrq⟩ := LF
    obtain ⟨f0, f1, f2, f3⟩ := formCells hrq
    clear hrq c0 c1 c2 hcw hfw d0 d1 d2 q1 q2
    go_wp2_with fail
    refine (implFits f mn mx true k l s _ true HF.out).mono ?_
    rintro e w9 ⟨rfl, b9⟩
    have L9 := Lib.hid (HLF.out.below b9)
    clear c0' c1' c2' f0 f1 f2 f3 b9
    obtain ⟨⟨⟨c0, c1, c2⟩, _⟩, _, hr9⟩ := L9.out
    obtain ⟨f0, f1, f2, f3⟩ := formCells hr9
    clear hr9
    go_wp2_with fail
    go_region_held3 (fun w' => w'.cell? ⟨w.heap.size, 2, none⟩ = some (.string s) ∧ w'.cell? ⟨q, 0, none⟩ = some (.string f))
      (go_keep)
      ((go_at_call 30; refine (implPutName s _ hs N hN.out).mono ?_; rintro e w10 ⟨rfl, b10⟩; have L10 := Lib.hid (L9.out.below (below_drewL b10)); obtain ⟨⟨⟨g0, g1, g2⟩, _⟩, _, hr10⟩ := L10.out; obtain ⟨e0, e1, e2, e3⟩ := formCells hr10; clear hr10 b10))
    go_wp2_with fail
    go_ret
    exact ⟨by rw [HR.out]; rfl, L10.out.1.2.2⟩
  · have LF : LayTF w w.heap.size W0.heap.size k l s f mn mx true ((((w1.setCell ⟨W0.heap.size, 0, none⟩ (.string f)).setCell ⟨W0.heap.size, 1, none⟩ (.int .i64 mn)).setCell ⟨W0.heap.size, 2, none⟩ (.int .i64 mx)).setCell ⟨W0.heap.size, 3, none⟩ (.bool true)) := by
      have h0 := HB0.out.drew
      have h0a := h0.alloc h0.size (.cells #[.string ⟨#[]⟩, .int .i64 0, .int .i64 0, .bool false] 114)
      have h1 : Below w.heap.size w w1 := h0a.trans (B1.out.mono h0a.size)
      have hw1 : W0.heap.size + 1 ≤ w1.heap.size := by have := B1.out.size; simpa using this
      have hq : w.heap.size ≤ W0.heap.size := Nat.le_of_lt hlt0
      have hl1 : Lay1 w w.heap.size k l s w1 := ⟨⟨d0, d1, d2⟩, by omega, h1⟩
      have hrow : w1.heap[W0.heap.size]? = some (.cells #[.string ⟨#[]⟩, .int .i64 0, .int .i64 0, .bool false] 114 (0, 0)) := (B1.out.block W0.heap.size (by simp)).trans (heap_alloc_new W0.drew _)
      exact LayTF.set4 hl1 hrow (by omega) hq
    generalize (((w1.setCell ⟨W0.heap.size, 0, none⟩ (.string f)).setCell ⟨W0.heap.size, 1, none⟩ (.int .i64 mn)).setCell ⟨W0.heap.size, 2, none⟩ (.int .i64 mx)).setCell ⟨W0.heap.size, 3, none⟩ (.bool true) = W2 at LF ⊢
    generalize W0.heap.size = q at LF ⊢
    have HLF := Lib.hid LF
    obtain ⟨⟨⟨c0', c1', c2'⟩, _⟩, _, hrq⟩ := LF
    obtain ⟨f0, f1, f2, f3⟩ := formCells hrq
    clear hrq c0 c1 c2 hcw hfw d0 d1 d2 q1 q2
    go_wp2_with fail
    refine (implFits f mn mx true k l s _ true HF.out).mono ?_
    rintro e w9 ⟨rfl, b9⟩
    have L9 := Lib.hid (HLF.out.below b9)
    clear c0' c1' c2' f0 f1 f2 f3 b9
    obtain ⟨⟨⟨c0, c1, c2⟩, _⟩, _, hr9⟩ := L9.out
    obtain ⟨f0, f1, f2, f3⟩ := formCells hr9
    clear hr9
    go_wp2_with fail
    go_region_held3 (fun w' => w'.cell? ⟨w.heap.size, 2, none⟩ = some (.string s) ∧ w'.cell? ⟨q, 0, none⟩ = some (.string f))
      (go_keep)
      ((go_at_call 30; refine (implPutName s _ hs N hN.out).mono ?_; rintro e w10 ⟨rfl, b10⟩; have L10 := Lib.hid (L9.out.below (below_drewL b10)); obtain ⟨⟨⟨g0, g1, g2⟩, _⟩, _, hr10⟩ := L10.out; obtain ⟨e0, e1, e2, e3⟩ := formCells hr10; clear hr10 b10))
    go_wp2_with fail
    go_ret
    exact ⟨by rw [HR.out]; rfl, L10.out.1.2.2⟩

set_option maxHeartbeats 8000000 in
theorem typeTextChar (k l : Int) (s : ByteArray) (w : World) (hs : s.size ≤ 1048576) (f : ByteArray) (mn mx : Int) (nm : Bool) (hfz : f.size ≤ 10) (r : ByteArray)
    (HL : Hid (∀ (W : World) (b : Nat), W.ownsMap Tryz.prog 3 formR b 5 formsD → (Instr.lookup 116 (.map (some b)) (.int .i64 k) true).run Tryz.prog W = .ok (.tuple #[.agg #[.string f, .int .i64 mn, .int .i64 mx, .bool nm], .bool true]) W))
    (HF : Hid (fitsB mn mx nm l s = true)) (hmx : decide (0 < mx) = true) (h0 : -9223372036854775808 ≤ l) (h1 : l ≤ 9223372036854775807) (D : ByteArray) (hz : D.size ≤ 21) (hN : Hid (dec l = D)) (HR : Hid (r = f ++ ⟨#[40]⟩ ++ D ++ ⟨#[41]⟩))
    (HT : Hid (∀ W : World, Below w.heap.size w W → Lib.TabIs Tryz.prog W "internal/strconv.uint64pow10" .u64 Lib.pow10Tab))
    : Calls Tryz.prog 31 #[.agg #[.int .i64 k, .int .i64 l, .string s]] w fun e w' => e = .returned (.string r) ∧ Below w.heap.size w w' := by
  have hlay := Lib.hid (lay1_new w 29 k l s)
  have ad1 : ∀ w, (Op.stringOp .add f ⟨#[40]⟩).run Tryz.prog w = .ok (.string (f ++ ⟨#[40]⟩)) w := fun w => run_string_add_sum w _ _ (by have o1 : (ByteArray.mk #[32]).size = 1 := rfl; have o2 : (ByteArray.mk #[40]).size = 1 := rfl; have o3 : (ByteArray.mk #[41]).size = 1 := rfl; (try rw [ByteArray.size_append]); (try rw [ByteArray.size_append]); omega)
  have ad2 : ∀ w, (Op.stringOp .add (f ++ ⟨#[40]⟩) D).run Tryz.prog w = .ok (.string (f ++ ⟨#[40]⟩ ++ D)) w := fun w => run_string_add_sum w _ _ (by have o1 : (ByteArray.mk #[32]).size = 1 := rfl; have o2 : (ByteArray.mk #[40]).size = 1 := rfl; have o3 : (ByteArray.mk #[41]).size = 1 := rfl; (try rw [ByteArray.size_append]); (try rw [ByteArray.size_append]); omega)
  have ad3 : ∀ w, (Op.stringOp .add (f ++ ⟨#[40]⟩ ++ D) ⟨#[41]⟩).run Tryz.prog w = .ok (.string (f ++ ⟨#[40]⟩ ++ D ++ ⟨#[41]⟩)) w := fun w => run_string_add_sum w _ _ (by have o1 : (ByteArray.mk #[32]).size = 1 := rfl; have o2 : (ByteArray.mk #[40]).size = 1 := rfl; have o3 : (ByteArray.mk #[41]).size = 1 := rfl; (try rw [ByteArray.size_append]); (try rw [ByteArray.size_append]); omega)
  have ae1 : ∀ w, (binOp .add 9 (.string f) (.string ⟨#[40]⟩)).run Tryz.prog w = .ok (.string (f ++ ⟨#[40]⟩)) w := fun w => by simp [binOp, ad1]
  have ae2 : ∀ w, (binOp .add 9 (.string (f ++ ⟨#[40]⟩)) (.string D)).run Tryz.prog w = .ok (.string (f ++ ⟨#[40]⟩ ++ D)) w := fun w => by simp [binOp, ad2]
  have ae3 : ∀ w, (binOp .add 9 (.string (f ++ ⟨#[40]⟩ ++ D)) (.string ⟨#[41]⟩)).run Tryz.prog w = .ok (.string (f ++ ⟨#[40]⟩ ++ D ++ ⟨#[41]⟩)) w := fun w => by simp [binOp, ad3]
  go_enter Tryz.func31, Tryz.ntmps31
  go_wp2_with fail
  generalize w.alloc (.cells #[.int .i64 k, .int .i64 l, .string s] 29) = W0 at hlay ⊢
  obtain ⟨⟨c0, c1, c2⟩, hlt0, hb0⟩ := hlay.out
  have hne : ¬ W0.heap.size = w.heap.size := by omega
  have hne' : ¬ w.heap.size = W0.heap.size := by omega
  have hst : Hid (∀ a b : World, W0.heap.size ≤ a.heap.size → (a.cell? ⟨w.heap.size, 0, none⟩ = some (.int .i64 k) ∧ a.cell? ⟨w.heap.size, 1, none⟩ = some (.int .i64 l) ∧ a.cell? ⟨w.heap.size, 2, none⟩ = some (.string s)) → Below a.heap.size a b → (b.cell? ⟨w.heap.size, 0, none⟩ = some (.int .i64 k) ∧ b.cell? ⟨w.heap.size, 1, none⟩ = some (.int .i64 l) ∧ b.cell? ⟨w.heap.size, 2, none⟩ = some (.string s))) :=
    fun a b hle h hb => ⟨(hb.cell (p := ⟨w.heap.size, 0, none⟩) (Nat.lt_of_lt_of_le hlt0 hle)).trans h.1, (hb.cell (p := ⟨w.heap.size, 1, none⟩) (Nat.lt_of_lt_of_le hlt0 hle)).trans h.2.1, (hb.cell (p := ⟨w.heap.size, 2, none⟩) (Nat.lt_of_lt_of_le hlt0 hle)).trans h.2.2⟩
  have HB0 := Lib.hid hb0
  clear hb0
  go_region_held3 (fun w' => w'.cell? ⟨w.heap.size, 0, none⟩ = some (.int .i64 k) ∧ w'.cell? ⟨w.heap.size, 1, none⟩ = some (.int .i64 l) ∧ w'.cell? ⟨w.heap.size, 2, none⟩ = some (.string s))
    (go_keep)
    ((go_at_call 80; refine (implForms _).mono ?_; rintro e w1 ⟨rfl, o1, b1⟩; have q1 := HL.out _ _ o1; have q2 := fun o => HL.out _ _ (World.ownsMap.alloc o1 o); obtain ⟨hcw, hfw⟩ := blockCells b1; (try simp only [World.size_alloc, drew_heap] at q1 q2); obtain ⟨d0, d1, d2⟩ := hst.out _ _ (by simp) (by assumption) b1; have O1 := Lib.hid o1; have B1 := Lib.hid b1; clear o1 b1))
  · have LF : LayTF w w.heap.size w1.heap.size k l s f mn mx nm (w1.alloc (.cells #[.string f, .int .i64 mn, .int .i64 mx, .bool nm] 114)) := by
      have h0 := HB0.out.drew
      have h1 : Below w.heap.size w w1 := h0.trans (B1.out.mono h0.size)
      have hw1 : W0.heap.size ≤ w1.heap.size := B1.out.size
      have hl1 : Lay1 w w.heap.size k l s w1 := ⟨⟨d0, d1, d2⟩, Nat.lt_of_lt_of_le hlt0 hw1, h1⟩
      exact ⟨hl1.alloc _, by simp, heap_alloc_new _ _⟩
    generalize w1.alloc (.cells #[.string f, .int .i64 mn, .int .i64 mx, .bool nm] 114) = W2 at LF ⊢
    generalize w1.heap.size = q at LF ⊢
    have HLF := Lib.hid LF
    obtain ⟨⟨⟨c0', c1', c2'⟩, _⟩, _, hrq⟩ := LF
    obtain ⟨f0, f1, f2, f3⟩ := formCells hrq
    clear hrq c0 c1 c2 hcw hfw d0 d1 d2 q1 q2
    go_wp2_with fail
    refine (implFits f mn mx nm k l s _ true HF.out).mono ?_
    rintro e w9 ⟨rfl, b9⟩
    have L9 := Lib.hid (HLF.out.below b9)
    clear c0' c1' c2' f0 f1 f2 f3 b9
    obtain ⟨⟨⟨c0, c1, c2⟩, _⟩, _, hr9⟩ := L9.out
    obtain ⟨f0, f1, f2, f3⟩ := formCells hr9
    clear hr9
    go_wp2_with fail
    go_region_held3 (fun w' => w'.cell? ⟨w.heap.size, 1, none⟩ = some (.int .i64 l) ∧ w'.cell? ⟨q, 0, none⟩ = some (.string f))
      (go_keep)
      ((go_at_call 82; refine (implDecIs l _ h0 h1 (HT.out _ (below_toDrew L9.out.1.2.2)) D hN.out).mono ?_; rintro e w10 ⟨rfl, b10⟩; have L10 := Lib.hid (L9.out.below (below_drewL b10)); obtain ⟨⟨⟨g0, g1, g2⟩, _⟩, _, hr10⟩ := L10.out; obtain ⟨e0, e1, e2, e3⟩ := formCells hr10; clear hr10 b10))
    go_wp2_with fail
    go_ret
    exact ⟨by rw [HR.out]; rfl, L10.out.1.2.2⟩
  · have LF : LayTF w w.heap.size w1.heap.size k l s f mn mx nm (w1.alloc (.cells #[.string f, .int .i64 mn, .int .i64 mx, .bool nm] 114)) := by
      have h0 := HB0.out.drew
      have h1 : Below w.heap.size w w1 := h0.trans (B1.out.mono h0.size)
      have hw1 : W0.heap.size ≤ w1.heap.size := B1.out.size
      have hl1 : Lay1 w w.heap.size k l s w1 := ⟨⟨d0, d1, d2⟩, Nat.lt_of_lt_of_le hlt0 hw1, h1⟩
      exact ⟨hl1.alloc _, by simp, heap_alloc_new _ _⟩
    generalize w1.alloc (.cells #[.string f, .int .i64 mn, .int .i64 mx, .bool nm] 114) = W2 at LF ⊢
    generalize w1.heap.size = q at LF ⊢
    have HLF := Lib.hid LF
    obtain ⟨⟨⟨c0', c1', c2'⟩, _⟩, _, hrq⟩ := LF
    obtain ⟨f0, f1, f2, f3⟩ := formCells hrq
    clear hrq c0 c1 c2 hcw hfw d0 d1 d2 q1 q2
    go_wp2_with fail
    refine (implFits f mn mx nm k l s _ true HF.out).mono ?_
    rintro e w9 ⟨rfl, b9⟩
    have L9 := Lib.hid (HLF.out.below b9)
    clear c0' c1' c2' f0 f1 f2 f3 b9
    obtain ⟨⟨⟨c0, c1, c2⟩, _⟩, _, hr9⟩ := L9.out
    obtain ⟨f0, f1, f2, f3⟩ := formCells hr9
    clear hr9
    go_wp2_with fail
    go_region_held3 (fun w' => w'.cell? ⟨w.heap.size, 1, none⟩ = some (.int .i64 l) ∧ w'.cell? ⟨q, 0, none⟩ = some (.string f))
      (go_keep)
      ((go_at_call 82; refine (implDecIs l _ h0 h1 (HT.out _ (below_toDrew L9.out.1.2.2)) D hN.out).mono ?_; rintro e w10 ⟨rfl, b10⟩; have L10 := Lib.hid (L9.out.below (below_drewL b10)); obtain ⟨⟨⟨g0, g1, g2⟩, _⟩, _, hr10⟩ := L10.out; obtain ⟨e0, e1, e2, e3⟩ := formCells hr10; clear hr10 b10))
    go_wp2_with fail
    go_ret
    exact ⟨by rw [HR.out]; rfl, L10.out.1.2.2⟩
  · have LF : LayTF w w.heap.size W0.heap.size k l s f mn mx nm ((((w1.setCell ⟨W0.heap.size, 0, none⟩ (.string f)).setCell ⟨W0.heap.size, 1, none⟩ (.int .i64 mn)).setCell ⟨W0.heap.size, 2, none⟩ (.int .i64 mx)).setCell ⟨W0.heap.size, 3, none⟩ (.bool nm)) := by
      have h0 := HB0.out.drew
      have h0a := h0.alloc h0.size (.cells #[.string ⟨#[]⟩, .int .i64 0, .int .i64 0, .bool false] 114)
      have h1 : Below w.heap.size w w1 := h0a.trans (B1.out.mono h0a.size)
      have hw1 : W0.heap.size + 1 ≤ w1.heap.size := by have := B1.out.size; simpa using this
      have hq : w.heap.size ≤ W0.heap.size := Nat.le_of_lt hlt0
      have hl1 : Lay1 w w.heap.size k l s w1 := ⟨⟨d0, d1, d2⟩, by omega, h1⟩
      have hrow : w1.heap[W0.heap.size]? = some (.cells #[.string ⟨#[]⟩, .int .i64 0, .int .i64 0, .bool false] 114 (0, 0)) := (B1.out.block W0.heap.size (by simp)).trans (heap_alloc_new W0.drew _)
      exact LayTF.set4 hl1 hrow (by omega) hq
    generalize (((w1.setCell ⟨W0.heap.size, 0, none⟩ (.string f)).setCell ⟨W0.heap.size, 1, none⟩ (.int .i64 mn)).setCell ⟨W0.heap.size, 2, none⟩ (.int .i64 mx)).setCell ⟨W0.heap.size, 3, none⟩ (.bool nm) = W2 at LF ⊢
    generalize W0.heap.size = q at LF ⊢
    have HLF := Lib.hid LF
    obtain ⟨⟨⟨c0', c1', c2'⟩, _⟩, _, hrq⟩ := LF
    obtain ⟨f0, f1, f2, f3⟩ := formCells hrq
    clear hrq c0 c1 c2 hcw hfw d0 d1 d2 q1 q2
    go_wp2_with fail
    refine (implFits f mn mx nm k l s _ true HF.out).mono ?_
    rintro e w9 ⟨rfl, b9⟩
    have L9 := Lib.hid (HLF.out.below b9)
    clear c0' c1' c2' f0 f1 f2 f3 b9
    obtain ⟨⟨⟨c0, c1, c2⟩, _⟩, _, hr9⟩ := L9.out
    obtain ⟨f0, f1, f2, f3⟩ := formCells hr9
    clear hr9
    go_wp2_with fail
    go_region_held3 (fun w' => w'.cell? ⟨w.heap.size, 1, none⟩ = some (.int .i64 l) ∧ w'.cell? ⟨q, 0, none⟩ = some (.string f))
      (go_keep)
      ((go_at_call 82; refine (implDecIs l _ h0 h1 (HT.out _ (below_toDrew L9.out.1.2.2)) D hN.out).mono ?_; rintro e w10 ⟨rfl, b10⟩; have L10 := Lib.hid (L9.out.below (below_drewL b10)); obtain ⟨⟨⟨g0, g1, g2⟩, _⟩, _, hr10⟩ := L10.out; obtain ⟨e0, e1, e2, e3⟩ := formCells hr10; clear hr10 b10))
    go_wp2_with fail
    go_ret
    exact ⟨by rw [HR.out]; rfl, L10.out.1.2.2⟩

end Go.Proofs.YtpdcmmhhgnackaaGreatDoor

namespace Go.Proofs.YtpdcmmhhgnackaaGreatDoor
open Go.RowKit

theorem implTypeTextW (k l : Int) (s : ByteArray) (w : World) (hs : s.size ≤ 1048576) (hk : (Lit.int .i64 k).wf = true)
    (HT : Hid (∀ W : World, Below w.heap.size w W → Lib.TabIs Tryz.prog W "internal/strconv.uint64pow10" .u64 Lib.pow10Tab)) (r : ByteArray) (hr : typeTextT k l s = r) :
    Calls Tryz.prog 31 #[.agg #[.int .i64 k, .int .i64 l, .string s]] w fun e w' => e = .returned (.string r) ∧ Below w.heap.size w w' := by
  by_cases hin : 0 ≤ k ∧ k ≤ 4
  · obtain ⟨f, mn, mx, nm, hf, hfit, hfz, hch, htx⟩ := typeText_eq k l s hin
    have hd : decide (0 ≤ k ∧ k ≤ 4) = true := decide_eq_true hin
    have HL : Hid (∀ (W : World) (b : Nat), W.ownsMap Tryz.prog 3 formR b 5 formsD → (Instr.lookup 116 (.map (some b)) (.int .i64 k) true).run Tryz.prog W = .ok (.tuple #[.agg #[.string f, .int .i64 mn, .int .i64 mx, .bool nm], .bool true]) W) :=
      fun W b h => by rw [lookForm h k hk, hf, hd]
    cases hok : typeOkB k l s with
    | false =>
      exact typeTextBad k l s w hs f mn mx nm hfz r HL (hfit.trans hok) (by unfold Hid; rw [← hr, typeTextT, if_pos hok])
    | true =>
      have ht := htx hok
      rw [hr] at ht
      unfold formText at ht
      by_cases hm : 0 < mx
      · have hl := hch hm hok
        rw [if_pos hm] at ht
        exact typeTextChar k l s w hs f mn mx nm hfz r HL (hfit.trans hok) (decide_eq_true hm) (by omega) (by omega) _ (dec_size l (by omega) (by omega)) rfl ht.symm HT
      · rw [if_neg hm] at ht
        cases nm with
        | true => exact typeTextEnum k l s w hs f mn mx hfz r HL (hfit.trans hok) (decide_eq_false hm) _ (nameT_size s) rfl ht.symm
        | false => exact typeTextWord k l s w hs f mn mx hfz r HL (hfit.trans hok) (decide_eq_false hm) ht.symm
  · have hd : decide (0 ≤ k ∧ k ≤ 4) = false := decide_eq_false hin
    have hf : formOf k = .agg #[.string ⟨#[]⟩, .int .i64 0, .int .i64 0, .bool false] := by
      unfold formOf
      rw [if_neg (by omega), if_neg (by omega), if_neg (by omega), if_neg (by omega), if_neg (by omega)]
      rfl
    have hok : typeOkB k l s = false := by rw [typeOkB, if_neg (by omega), if_neg (by omega), if_neg (by omega)]
    exact typeTextNone k l s w hs ⟨#[]⟩ 0 0 false (by decide) r (fun W b h => by rw [lookForm h k hk, hf, hd]) (by unfold Hid; rw [← hr, typeTextT, if_pos hok])

theorem implTypeTextC (t : Ty) (w : World) (hs : t.name.size ≤ 1048576) (hk : (Lit.int .i64 t.kind).wf = true) (hT : Tabs w) (r : ByteArray) (hr : tyT t = r) :
    Calls Tryz.prog 31 #[.agg #[.int .i64 t.kind, .int .i64 t.len, .string t.name]] w fun e w' => e = .returned (.string r) ∧ Below w.heap.size w w' :=
  implTypeTextW t.kind t.len t.name w hs hk (fun _ hb => (hT.call hb).pow) r hr

end Go.Proofs.YtpdcmmhhgnackaaGreatDoor
