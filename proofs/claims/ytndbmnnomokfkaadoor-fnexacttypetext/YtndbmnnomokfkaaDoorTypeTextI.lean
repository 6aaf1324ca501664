/- impl.TypeText. -/
import Derived.Test.YtndbmnnomokfkaaDoorTypeText
namespace Go.Proofs.YtndbmnnomokfkaaDoor
open Go.RowKit

/-- A type lies in block p and a form in block q, behind the world w0. -/
def LayTF (w0 : World) (p q : Nat) (k l : Int) (s f : ByteArray) (mn mx : Int) (nm : Bool) (w : World) : Prop :=
  Lay1 w0 p k l s w ∧ q < w.heap.size ∧ w.heap[q]? = some (.cells #[.string f, .int .i64 mn, .int .i64 mx, .bool nm] 33 (0, 0))

theorem LayTF.below {w0 : World} {p q : Nat} {k l : Int} {s f : ByteArray} {mn mx : Int} {nm : Bool} {w w' : World} (h : LayTF w0 p q k l s f mn mx nm w) (hb : Below w.heap.size w w') : LayTF w0 p q k l s f mn mx nm w' :=
  ⟨h.1.below hb, Nat.lt_of_lt_of_le h.2.1 hb.size, (hb.block q h.2.1).trans h.2.2⟩

theorem formCells {w : World} {q : Nat} {f : ByteArray} {mn mx : Int} {nm : Bool} {T : TypeId} (h : w.heap[q]? = some (.cells #[.string f, .int .i64 mn, .int .i64 mx, .bool nm] T (0, 0))) :
    w.cell? ⟨q, 0, none⟩ = some (.string f) ∧ w.cell? ⟨q, 1, none⟩ = some (.int .i64 mn) ∧ w.cell? ⟨q, 2, none⟩ = some (.int .i64 mx) ∧ w.cell? ⟨q, 3, none⟩ = some (.bool nm) := by
  rw [cell_of_row _ _ _ _ _ _ h, cell_of_row _ _ _ _ _ _ h, cell_of_row _ _ _ _ _ _ h, cell_of_row _ _ _ _ _ _ h]
  exact ⟨rfl, rfl, rfl, rfl⟩

theorem row_set {w : World} {q j : Nat} {cs : Array Value} {T : TypeId} (h : w.heap[q]? = some (.cells cs T (0, 0))) (v : Value) : (w.setCell ⟨q, j, none⟩ v).heap[q]? = some (.cells (cs.setIfInBounds j v) T (0, 0)) := by
  simp [World.setCell, Array.getElem?_modify, h]

theorem LayTF.set4 {w0 w : World} {p q : Nat} {k l : Int} {s f : ByteArray} {mn mx : Int} {nm : Bool} (h : Lay1 w0 p k l s w) (hr : w.heap[q]? = some (.cells #[.string ⟨#[]⟩, .int .i64 0, .int .i64 0, .bool false] 33 (0, 0))) (hpq : p ≠ q) (hq : w0.heap.size ≤ q) :
    LayTF w0 p q k l s f mn mx nm ((((w.setCell ⟨q, 0, none⟩ (.string f)).setCell ⟨q, 1, none⟩ (.int .i64 mn)).setCell ⟨q, 2, none⟩ (.int .i64 mx)).setCell ⟨q, 3, none⟩ (.bool nm)) := by
  have st : ∀ {w : World} (h : Lay1 w0 p k l s w) (j : Nat) (v : Value), Lay1 w0 p k l s (w.setCell ⟨q, j, none⟩ v) := fun {w} h j v => by
    have hc : ∀ o, (w.setCell ⟨q, j, none⟩ v).cell? ⟨p, o, none⟩ = w.cell? ⟨p, o, none⟩ := fun o => World.cell?_of_block (w := w) (w' := w.setCell ⟨q, j, none⟩ v) (a := ⟨p, o, none⟩) (Below.heap_setCell _ _ _ _ hpq)
    exact ⟨⟨(hc 0).trans h.1.1, (hc 1).trans h.1.2.1, (hc 2).trans h.1.2.2⟩, by rw [size_setCell]; exact h.2.1, below_setCell h.2.2 h.2.2.size hq⟩
  have hlt : q < w.heap.size := by
    rcases Nat.lt_or_ge q w.heap.size with h' | h'
    · exact h'
    · rw [Array.getElem?_eq_none h'] at hr; cases hr
  refine ⟨st (st (st (st h 0 _) 1 _) 2 _) 3 _, by simpa only [size_setCell] using hlt, ?_⟩
  rw [row_set (row_set (row_set (row_set hr (.string f)) (.int .i64 mn)) (.int .i64 mx)) (.bool nm)]
  rfl

theorem below_drewL {w w' : World} (h : Below w.drew.heap.size w.drew w') : Below w.heap.size w w' := ⟨h.os, h.tape, h.output, h.size, h.block⟩
theorem below_toDrew {B : Nat} {w w' : World} (h : Below B w w') : Below B w w'.drew := ⟨h.os, h.tape, h.output, h.size, h.block⟩
theorem implDecIs (n : Int) (w : World) (h0 : -9223372036854775808 ≤ n) (h1 : n ≤ 9223372036854775807) (ht : Lib.TabIs Tryd.prog w "internal/strconv.uint64pow10" .u64 Lib.pow10Tab) (D : ByteArray) (hD : dec n = D) :
    Calls Tryd.prog 13 #[.int .i64 n] w fun e w' => e = .returned (.string D) ∧ Below w.heap.size w w' := hD ▸ implDecText n w h0 h1 ht

set_option maxHeartbeats 8000000 in
theorem typeTextNone (k l : Int) (s : ByteArray) (w : World) (hs : s.size ≤ 1048576) (f : ByteArray) (mn mx : Int) (nm : Bool) (hfz : f.size ≤ 10) (r : ByteArray)
    (HL : Hid (∀ (W : World) (b : Nat), W.ownsMap Tryd.prog 3 formR b 5 formsD → (Instr.lookup 35 (.map (some b)) (.int .i64 k) true).run Tryd.prog W = .ok (.tuple #[.agg #[.string f, .int .i64 mn, .int .i64 mx, .bool nm], .bool false]) W))
    (HR : Hid (r = ⟨#[]⟩))
    : Calls Tryd.prog 7 #[.agg #[.int .i64 k, .int .i64 l, .string s]] w fun e w' => e = .returned (.string r) ∧ Below w.heap.size w w' := by
  have hlay := Lib.hid (lay1_new w 26 k l s)
  go_enter Tryd.func7, Tryd.ntmps7
  go_wp2_with fail
  generalize w.alloc (.cells #[.int .i64 k, .int .i64 l, .string s] 26) = W0 at hlay ⊢
  obtain ⟨⟨c0, c1, c2⟩, hlt0, hb0⟩ := hlay.out
  have hne : ¬ W0.heap.size = w.heap.size := by omega
  have hne' : ¬ w.heap.size = W0.heap.size := by omega
  have hst : Hid (∀ a b : World, W0.heap.size ≤ a.heap.size → (a.cell? ⟨w.heap.size, 0, none⟩ = some (.int .i64 k) ∧ a.cell? ⟨w.heap.size, 1, none⟩ = some (.int .i64 l) ∧ a.cell? ⟨w.heap.size, 2, none⟩ = some (.string s)) → Below a.heap.size a b → (b.cell? ⟨w.heap.size, 0, none⟩ = some (.int .i64 k) ∧ b.cell? ⟨w.heap.size, 1, none⟩ = some (.int .i64 l) ∧ b.cell? ⟨w.heap.size, 2, none⟩ = some (.string s))) :=
    fun a b hle h hb => ⟨(hb.cell (p := ⟨w.heap.size, 0, none⟩) (Nat.lt_of_lt_of_le hlt0 hle)).trans h.1, (hb.cell (p := ⟨w.heap.size, 1, none⟩) (Nat.lt_of_lt_of_le hlt0 hle)).trans h.2.1, (hb.cell (p := ⟨w.heap.size, 2, none⟩) (Nat.lt_of_lt_of_le hlt0 hle)).trans h.2.2⟩
  have HB0 := Lib.hid hb0
  clear hb0
  go_region_held3 (fun w' => w'.cell? ⟨w.heap.size, 0, none⟩ = some (.int .i64 k) ∧ w'.cell? ⟨w.heap.size, 1, none⟩ = some (.int .i64 l) ∧ w'.cell? ⟨w.heap.size, 2, none⟩ = some (.string s))
    (go_keep)
    ((go_at_call 11; refine (implForms _).mono ?_; rintro e w1 ⟨rfl, o1, b1⟩; have q1 := HL.out _ _ o1; have q2 := fun o => HL.out _ _ (World.ownsMap.alloc o1 o); obtain ⟨hcw, hfw⟩ := blockCells b1; (try simp only [World.size_alloc, drew_heap] at q1 q2); obtain ⟨d0, d1, d2⟩ := hst.out _ _ (by simp) (by assumption) b1; have O1 := Lib.hid o1; have B1 := Lib.hid b1; clear o1 b1))
  · have LF : LayTF w w.heap.size w1.heap.size k l s f mn mx nm (w1.alloc (.cells #[.string f, .int .i64 mn, .int .i64 mx, .bool nm] 33)) := by
      have h0 := HB0.out.drew
      have h1 : Below w.heap.size w w1 := h0.trans (B1.out.mono h0.size)
      have hw1 : W0.heap.size ≤ w1.heap.size := B1.out.size
      have hl1 : Lay1 w w.heap.size k l s w1 := ⟨⟨d0, d1, d2⟩, Nat.lt_of_lt_of_le hlt0 hw1, h1⟩
      exact ⟨hl1.alloc _, by simp, heap_alloc_new _ _⟩
    generalize w1.alloc (.cells #[.string f, .int .i64 mn, .int .i64 mx, .bool nm] 33) = W2 at LF ⊢
    generalize w1.heap.size = q at LF ⊢
    have HLF := Lib.hid LF
    obtain ⟨⟨⟨c0', c1', c2'⟩, _⟩, _, hrq⟩ := LF
    obtain ⟨f0, f1, f2, f3⟩ := formCells hrq
    clear hrq c0 c1 c2 hcw hfw d0 d1 d2 q1 q2
    go_wp2_with fail
    go_ret
    exact ⟨by rw [HR.out]; rfl, HLF.out.1.2.2⟩
  · have LF : LayTF w w.heap.size w1.heap.size k l s f mn mx nm (w1.alloc (.cells #[.string f, .int .i64 mn, .int .i64 mx, .bool nm] 33)) := by
      have h0 := HB0.out.drew
      have h1 : Below w.heap.size w w1 := h0.trans (B1.out.mono h0.size)
      have hw1 : W0.heap.size ≤ w1.heap.size := B1.out.size
      have hl1 : Lay1 w w.heap.size k l s w1 := ⟨⟨d0, d1, d2⟩, Nat.lt_of_lt_of_le hlt0 hw1, h1⟩
      exact ⟨hl1.alloc _, by simp, heap_alloc_new _ _⟩
    generalize w1.alloc (.cells #[.string f, .int .i64 mn, .int .i64 mx, .bool nm] 33) = W2 at LF ⊢
    generalize w1.heap.size = q at LF ⊢
    have HLF := Lib.hid LF
    obtain ⟨⟨⟨c0', c1', c2'⟩, _⟩, _, hrq⟩ := LF
    obtain ⟨f0, f1, f2, f3⟩ := formCells hrq
    clear hrq c0 c1 c2 hcw hfw d0 d1 d2 q1 q2
    go_wp2_with fail
    go_ret
    exact ⟨by rw [HR.out]; rfl, HLF.out.1.2.2⟩
  · have LF : LayTF w w.heap.size W0.heap.size k l s f mn mx nm ((((w1.setCell ⟨W0.heap.size, 0, none⟩ (.string f)).setCell ⟨W0.heap.size, 1, none⟩ (.int .i64 mn)).setCell ⟨W0.heap.size, 2, none⟩ (.int .i64 mx)).setCell ⟨W0.heap.size, 3, none⟩ (.bool nm)) := by
      have h0 := HB0.out.drew
      have h0a := h0.alloc h0.size (.cells #[.string ⟨#[]⟩, .int .i64 0, .int .i64 0, .bool false] 33)
      have h1 : Below w.heap.size w w1 := h0a.trans (B1.out.mono h0a.size)
      have hw1 : W0.heap.size + 1 ≤ w1.heap.size := by have := B1.out.size; simpa using this
      have hq : w.heap.size ≤ W0.heap.size := Nat.le_of_lt hlt0
      have hl1 : Lay1 w w.heap.size k l s w1 := ⟨⟨d0, d1, d2⟩, by omega, h1⟩
      have hrow : w1.heap[W0.heap.size]? = some (.cells #[.string ⟨#[]⟩, .int .i64 0, .int .i64 0, .bool false] 33 (0, 0)) := (B1.out.block W0.heap.size (by simp)).trans (heap_alloc_new W0.drew _)
      exact LayTF.set4 hl1 hrow (by omega) hq
    generalize (((w1.setCell ⟨W0.heap.size, 0, none⟩ (.string f)).setCell ⟨W0.heap.size, 1, none⟩ (.int .i64 mn)).setCell ⟨W0.heap.size, 2, none⟩ (.int .i64 mx)).setCell ⟨W0.heap.size, 3, none⟩ (.bool nm) = W2 at LF ⊢
    generalize W0.heap.size = q at LF ⊢
    have HLF := Lib.hid LF
    obtain ⟨⟨⟨c0', c1', c2'⟩, _⟩, _, hrq⟩ := LF
    obtain ⟨f0, f1, f2, f3⟩ := formCells hrq
    clear hrq c0 c1 c2 hcw hfw d0 d1 d2 q1 q2
    go_wp2_with fail
    go_ret
    exact ⟨by rw [HR.out]; rfl, HLF.out.1.2.2⟩

set_option maxHeartbeats 8000000 in
theorem typeTextBad (k l : Int) (s : ByteArray) (w : World) (hs : s.size ≤ 1048576) (f : ByteArray) (mn mx : Int) (nm : Bool) (hfz : f.size ≤ 10) (r : ByteArray)
    (HL : Hid (∀ (W : World) (b : Nat), W.ownsMap Tryd.prog 3 formR b 5 formsD → (Instr.lookup 35 (.map (some b)) (.int .i64 k) true).run Tryd.prog W = .ok (.tuple #[.agg #[.string f, .int .i64 mn, .int .i64 mx, .bool nm], .bool true]) W))
    (HF : Hid (fitsB mn mx nm l s = false)) (HR : Hid (r = ⟨#[]⟩))
    : Calls Tryd.prog 7 #[.agg #[.int .i64 k, .int .i64 l, .string s]] w fun e w' => e = .returned (.string r) ∧ Below w.heap.size w w' := by
  have hlay := Lib.hid (lay1_new w 26 k l s)
  go_enter Tryd.func7, Tryd.ntmps7
  go_wp2_with fail
  generalize w.alloc (.cells #[.int .i64 k, .int .i64 l, .string s] 26) = W0 at hlay ⊢
  obtain ⟨⟨c0, c1, c2⟩, hlt0, hb0⟩ := hlay.out
  have hne : ¬ W0.heap.size = w.heap.size := by omega
  have hne' : ¬ w.heap.size = W0.heap.size := by omega
  have hst : Hid (∀ a b : World, W0.heap.size ≤ a.heap.size → (a.cell? ⟨w.heap.size, 0, none⟩ = some (.int .i64 k) ∧ a.cell? ⟨w.heap.size, 1, none⟩ = some (.int .i64 l) ∧ a.cell? ⟨w.heap.size, 2, none⟩ = some (.string s)) → Below a.heap.size a b → (b.cell? ⟨w.heap.size, 0, none⟩ = some (.int .i64 k) ∧ b.cell? ⟨w.heap.size, 1, none⟩ = some (.int .i64 l) ∧ b.cell? ⟨w.heap.size, 2, none⟩ = some (.string s))) :=
    fun a b hle h hb => ⟨(hb.cell (p := ⟨w.heap.size, 0, none⟩) (Nat.lt_of_lt_of_le hlt0 hle)).trans h.1, (hb.cell (p := ⟨w.heap.size, 1, none⟩) (Nat.lt_of_lt_of_le hlt0 hle)).trans h.2.1, (hb.cell (p := ⟨w.heap.size, 2, none⟩) (Nat.lt_of_lt_of_le hlt0 hle)).trans h.2.2⟩
  have HB0 := Lib.hid hb0
  clear hb0
  go_region_held3 (fun w' => w'.cell? ⟨w.heap.size, 0, none⟩ = some (.int .i64 k) ∧ w'.cell? ⟨w.heap.size, 1, none⟩ = some (.int .i64 l) ∧ w'.cell? ⟨w.heap.size, 2, none⟩ = some (.string s))
    (go_keep)
    ((go_at_call 11; refine (implForms _).mono ?_; rintro e w1 ⟨rfl, o1, b1⟩; have q1 := HL.out _ _ o1; have q2 := fun o => HL.out _ _ (World.ownsMap.alloc o1 o); obtain ⟨hcw, hfw⟩ := blockCells b1; (try simp only [World.size_alloc, drew_heap] at q1 q2); obtain ⟨d0, d1, d2⟩ := hst.out _ _ (by simp) (by assumption) b1; have O1 := Lib.hid o1; have B1 := Lib.hid b1; clear o1 b1))
  · have LF : LayTF w w.heap.size w1.heap.size k l s f mn mx nm (w1.alloc (.cells #[.string f, .int .i64 mn, .int .i64 mx, .bool nm] 33)) := by
      have h0 := HB0.out.drew
      have h1 : Below w.heap.size w w1 := h0.trans (B1.out.mono h0.size)
      have hw1 : W0.heap.size ≤ w1.heap.size := B1.out.size
      have hl1 : Lay1 w w.heap.size k l s w1 := ⟨⟨d0, d1, d2⟩, Nat.lt_of_lt_of_le hlt0 hw1, h1⟩
      exact ⟨hl1.alloc _, by simp, heap_alloc_new _ _⟩
    generalize w1.alloc (.cells #[.string f, .int .i64 mn, .int .i64 mx, .bool nm] 33) = W2 at LF ⊢
    generalize w1.heap.size = q at LF ⊢
    have HLF := Lib.hid LF
    obtain ⟨⟨⟨c0', c1', c2'⟩, _⟩, _, hrq⟩ := LF
    obtain ⟨f0, f1, f2, f3⟩ := formCells hrq
    clear hrq c0 c1 c2 hcw hfw d0 d1 d2 q1 q2
    go_wp2_with fail
    refine (implFits f mn mx nm k l s _ false HF.out).mono ?_
    rintro e w9 ⟨rfl, b9⟩
    have L9 := Lib.hid (HLF.out.below b9)
    clear c0' c1' c2' f0 f1 f2 f3 b9
    obtain ⟨⟨⟨c0, c1, c2⟩, _⟩, _, hr9⟩ := L9.out
    obtain ⟨f0, f1, f2, f3⟩ := formCells hr9
    clear hr9
    go_wp2_with fail
    go_ret
    exact ⟨by rw [HR.out]; rfl, L9.out.1.2.2⟩
  · have LF : LayTF w w.heap.size w1.heap.size k l s f mn mx nm (w1.alloc (.cells #[.string f, .int .i64 mn, .int .i64 mx, .bool nm] 33)) := by
      have h0 := HB0.out.drew
      have h1 : Below w.heap.size w w1 := h0.trans (B1.out.mono h0.size)
      have hw1 : W0.heap.size ≤ w1.heap.size := B1.out.size
      have hl1 : Lay1 w w.heap.size k l s w1 := ⟨⟨d0, d1, d2⟩, Nat.lt_of_lt_of_le hlt0 hw1, h1⟩
      exact ⟨hl1.alloc _, by simp, heap_alloc_new _ _⟩
    generalize w1.alloc (.cells #[.string f, .int .i64 mn, .int .i64 mx, .bool nm] 33) = W2 at LF ⊢
    generalize w1.heap.size = q at LF ⊢
    have HLF := Lib.hid LF
    obtain ⟨⟨⟨c0', c1', c2'⟩, _⟩, _, hrq⟩ := LF
    obtain ⟨f0, f1, f2, f3⟩ := formCells hrq
    clear hrq c0 c1 c2 hcw hfw d0 d1 d2 q1 q2
    go_wp2_with fail
    refine (implFits f mn mx nm k l s _ false HF.out).mono ?_
    rintro e w9 ⟨rfl, b9⟩
    have L9 := Lib.hid (HLF.out.below b9)
    clear c0' c1' c2' f0 f1 f2 f3 b9
    obtain ⟨⟨⟨c0, c1, c2⟩, _⟩, _, hr9⟩ := L9.out
    obtain ⟨f0, f1, f2, f3⟩ := formCells hr9
    clear hr9
    go_wp2_with fail
    go_ret
    exact ⟨by rw [HR.out]; rfl, L9.out.1.2.2⟩
  · have LF : LayTF w w.heap.size W0.heap.size k l s f mn mx nm ((((w1.setCell ⟨W0.heap.size, 0, none⟩ (.string f)).setCell ⟨W0.heap.size, 1, none⟩ (.int .i64 mn)).setCell ⟨W0.heap.size, 2, none⟩ (.int .i64 mx)).setCell ⟨W0.heap.size, 3, none⟩ (.bool nm)) := by
      have h0 := HB0.out.drew
      have h0a := h0.alloc h0.size (.cells #[.string ⟨#[]⟩, .int .i64 0, .int .i64 0, .bool false] 33)
      have h1 : Below w.heap.size w w1 := h0a.trans (B1.out.mono h0a.size)
      have hw1 : W0.heap.size + 1 ≤ w1.heap.size := by have := B1.out.size; simpa using this
      have hq : w.heap.size ≤ W0.heap.size := Nat.le_of_lt hlt0
      have hl1 : Lay1 w w.heap.size k l s w1 := ⟨⟨d0, d1, d2⟩, by omega, h1⟩
      have hrow : w1.heap[W0.heap.size]? = some (.cells #[.string ⟨#[]⟩, .int .i64 0, .int .i64 0, .bool false] 33 (0, 0)) := (B1.out.block W0.heap.size (by simp)).trans (heap_alloc_new W0.drew _)
      exact LayTF.set4 hl1 hrow (by omega) hq
    generalize (((w1.setCell ⟨W0.heap.size, 0, none⟩ (.string f)).setCell ⟨W0.heap.size, 1, none⟩ (.int .i64 mn)).setCell ⟨W0.heap.size, 2, none⟩ (.int .i64 mx)).setCell ⟨W0.heap.size, 3, none⟩ (.bool nm) = W2 at LF ⊢
    generalize W0.heap.size = q at LF ⊢
    have HLF := Lib.hid LF
    obtain ⟨⟨⟨c0', c1', c2'⟩, _⟩, _, hrq⟩ := LF
    obtain ⟨f0, f1, f2, f3⟩ := formCells hrq
    clear hrq c0 c1 c2 hcw hfw d0 d1 d2 q1 q2
    go_wp2_with fail
    refine (implFits f mn mx nm k l s _ false HF.out).mono ?_
    rintro e w9 ⟨rfl, b9⟩
    have L9 := Lib.hid (HLF.out.below b9)
    clear c0' c1' c2' f0 f1 f2 f3 b9
    obtain ⟨⟨⟨c0, c1, c2⟩, _⟩, _, hr9⟩ := L9.out
    obtain ⟨f0, f1, f2, f3⟩ := formCells hr9
    clear hr9
    go_wp2_with fail
    go_ret
    exact ⟨by rw [HR.out]; rfl, L9.out.1.2.2⟩

set_option maxHeartbeats 8000000 in
theorem typeTextWord (k l : Int) (s : ByteArray) (w : World) (hs : s.size ≤ 1048576) (f : ByteArray) (mn mx : Int) (hfz : f.size ≤ 10) (r : ByteArray)
    (HL : Hid (∀ (W : World) (b : Nat), W.ownsMap Tryd.prog 3 formR b 5 formsD → (Instr.lookup 35 (.map (some b)) (.int .i64 k) true).run Tryd.prog W = .ok (.tuple #[.agg #[.string f, .int .i64 mn, .int .i64 mx, .bool false], .bool true]) W))
    (HF : Hid (fitsB mn mx false l s = true)) (hmx : decide (0 < mx) = false) (HR : Hid (r = f))
    : Calls Tryd.prog 7 #[.agg #[.int .i64 k, .int .i64 l, .string s]] w fun e w' => e = .returned (.string r) ∧ Below w.heap.size w w' := by
  have hlay := Lib.hid (lay1_new w 26 k l s)
  go_enter Tryd.func7, Tryd.ntmps7
  go_wp2_with fail
  generalize w.alloc (.cells #[.int .i64 k, .int .i64 l, .string s] 26) = W0 at hlay ⊢
  obtain ⟨⟨c0, c1, c2⟩, hlt0, hb0⟩ := hlay.out
  have hne : ¬ W0.heap.size = w.heap.size := by omega
  have hne' : ¬ w.heap.size = W0.heap.size := by omega
  have hst : Hid (∀ a b : World, W0.heap.size ≤ a.heap.size → (a.cell? ⟨w.heap.size, 0, none⟩ = some (.int .i64 k) ∧ a.cell? ⟨w.heap.size, 1, none⟩ = some (.int .i64 l) ∧ a.cell? ⟨w.heap.size, 2, none⟩ = some (.string s)) → Below a.heap.size a b → (b.cell? ⟨w.heap.size, 0, none⟩ = some (.int .i64 k) ∧ b.cell? ⟨w.heap.size, 1, none⟩ = some (.int .i64 l) ∧ b.cell? ⟨w.heap.size, 2, none⟩ = some (.string s))) :=
    fun a b hle h hb => ⟨(hb.cell (p := ⟨w.heap.size, 0, none⟩) (Nat.lt_of_lt_of_le hlt0 hle)).trans h.1, (hb.cell (p := ⟨w.heap.size, 1, none⟩) (Nat.lt_of_lt_of_le hlt0 hle)).trans h.2.1, (hb.cell (p := ⟨w.heap.size, 2, none⟩) (Nat.lt_of_lt_of_le hlt0 hle)).trans h.2.2⟩
  have HB0 := Lib.hid hb0
  clear hb0
  go_region_held3 (fun w' => w'.cell? ⟨w.heap.size, 0, none⟩ = some (.int .i64 k) ∧ w'.cell? ⟨w.heap.size, 1, none⟩ = some (.int .i64 l) ∧ w'.cell? ⟨w.heap.size, 2, none⟩ = some (.string s))
    (go_keep)
    ((go_at_call 11; refine (implForms _).mono ?_; rintro e w1 ⟨rfl, o1, b1⟩; have q1 := HL.out _ _ o1; have q2 := fun o => HL.out _ _ (World.ownsMap.alloc o1 o); obtain ⟨hcw, hfw⟩ := blockCells b1; (try simp only [World.size_alloc, drew_heap] at q1 q2); obtain ⟨d0, d1, d2⟩ := hst.out _ _ (by simp) (by assumption) b1; have O1 := Lib.hid o1; have B1 := Lib.hid b1; clear o1 b1))
  · have LF : LayTF w w.heap.size w1.heap.size k l s f mn mx false (w1.alloc (.cells #[.string f, .int .i64 mn, .int .i64 mx, .bool false] 33)) := by
      have h0 := HB0.out.drew
      have h1 : Below w.heap.size w w1 := h0.trans (B1.out.mono h0.size)
      have hw1 : W0.heap.size ≤ w1.heap.size := B1.out.size
      have hl1 : Lay1 w w.heap.size k l s w1 := ⟨⟨d0, d1, d2⟩, Nat.lt_of_lt_of_le hlt0 hw1, h1⟩
      exact ⟨hl1.alloc _, by simp, heap_alloc_new _ _⟩
    generalize w1.alloc (.cells #[.string f, .int .i64 mn, .int .i64 mx, .bool false] 33) = W2 at LF ⊢
    generalize w1.heap.size = q at LF ⊢
    have HLF := Lib.hid LF
    obtain ⟨⟨⟨c0', c1', c2'⟩, _⟩, _, hrq⟩ := LF
    obtain ⟨f0, f1, f2, f3⟩ := formCells hrq
    clear hrq c0 c1 c2 hcw hfw d0 d1 d2 q1 q2
    go_wp2_with fail
    refine (implFits f mn mx false k l s _ true HF.out).mono ?_
    rintro e w9 ⟨rfl, b9⟩
    have L9 := Lib.hid (HLF.out.below b9)
    clear c0' c1' c2' f0 f1 f2 f3 b9
    obtain ⟨⟨⟨c0, c1, c2⟩, _⟩, _, hr9⟩ := L9.out
    obtain ⟨f0, f1, f2, f3⟩ := formCells hr9
    clear hr9
    go_wp2_with fail
    go_ret
    exact ⟨by rw [HR.out]; rfl, L9.out.1.2.2⟩
  · have LF : LayTF w w.heap.size w1.heap.size k l s f mn mx false (w1.alloc (.cells #[.string f, .int .i64 mn, .int .i64 mx, .bool false] 33)) := by
      have h0 := HB0.out.drew
      have h1 : Below w.heap.size w w1 := h0.trans (B1.out.mono h0.size)
      have hw1 : W0.heap.size ≤ w1.heap.size := B1.out.size
      have hl1 : Lay1 w w.heap.size k l s w1 := ⟨⟨d0, d1, d2⟩, Nat.lt_of_lt_of_le hlt0 hw1, h1⟩
      exact ⟨hl1.alloc _, by simp, heap_alloc_new _ _⟩
    generalize w1.alloc (.cells #[.string f, .int .i64 mn, .int .i64 mx, .bool false] 33) = W2 at LF ⊢
    generalize w1.heap.size = q at LF ⊢
    have HLF := Lib.hid LF
    obtain ⟨⟨⟨c0', c1', c2'⟩, _⟩, _, hrq⟩ := LF
    obtain ⟨f0, f1, f2, f3⟩ := formCells hrq
    clear hrq c0 c1 c2 hcw hfw d0 d1 d2 q1 q2
    go_wp2_with fail
    refine (implFits f mn mx false k l s _ true HF.out).mono ?_
    rintro e w9 ⟨rfl, b9⟩
    have L9 := Lib.hid (HLF.out.below b9)
    clear c0' c1' c2' f0 f1 f2 f3 b9
    obtain ⟨⟨⟨c0, c1, c2⟩, _⟩, _, hr9⟩ := L9.out
    obtain ⟨f0, f1, f2, f3⟩ := formCells hr9
    clear hr9
    go_wp2_with fail
    go_ret
    exact ⟨by rw [HR.out]; rfl, L9.out.1.2.2⟩
  · have LF : LayTF w w.heap.size W0.heap.size k l s f mn mx false ((((w1.setCell ⟨W0.heap.size, 0, none⟩ (.string f)).setCell ⟨W0.heap.size, 1, none⟩ (.int .i64 mn)).setCell ⟨W0.heap.size, 2, none⟩ (.int .i64 mx)).setCell ⟨W0.heap.size, 3, none⟩ (.bool false)) := by
      have h0 := HB0.out.drew
      have h0a := h0.alloc h0.size (.cells #[.string ⟨#[]⟩, .int .i64 0, .int .i64 0, .bool false] 33)
      have h1 : Below w.heap.size w w1 := h0a.trans (B1.out.mono h0a.size)
      have hw1 : W0.heap.size + 1 ≤ w1.heap.size := by have := B1.out.size; simpa using this
      have hq : w.heap.size ≤ W0.heap.size := Nat.le_of_lt hlt0
      have hl1 : Lay1 w w.heap.size k l s w1 := ⟨⟨d0, d1, d2⟩, by omega, h1⟩
      have hrow : w1.heap[W0.heap.size]? = some (.cells #[.string ⟨#[]⟩, .int .i64 0, .int .i64 0, .bool false] 33 (0, 0)) := (B1.out.block W0.heap.size (by simp)).trans (heap_alloc_new W0.drew _)
      exact LayTF.set4 hl1 hrow (by omega) hq
    generalize (((w1.setCell ⟨W0.heap.size, 0, none⟩ (.string f)).setCell ⟨W0.heap.size, 1, none⟩ (.int .i64 mn)).setCell ⟨W0.heap.size, 2, none⟩ (.int .i64 mx)).setCell ⟨W0.heap.size, 3, none⟩ (.bool false) = W2 at LF ⊢
    generalize W0.heap.size = q at LF ⊢
    have HLF := Lib.hid LF
    obtain ⟨⟨⟨c0', c1', c2'⟩, _⟩, _, hrq⟩ := LF
    obtain ⟨f0, f1, f2, f3⟩ := formCells hrq
    clear hrq c0 c1 c2 hcw hfw d0 d1 d2 q1 q2
    go_wp2_with fail
    refine (implFits f mn mx false k l s _ true HF.out).mono ?_
    rintro e w9 ⟨rfl, b9⟩
    have L9 := Lib.hid (HLF.out.below b9)
    clear c0' c1' c2' f0 f1 f2 f3 b9
    obtain ⟨⟨⟨c0, c1, c2⟩, _⟩, _, hr9⟩ := L9.out
    obtain ⟨f0, f1, f2, f3⟩ := formCells hr9
    clear hr9
    go_wp2_with fail
    go_ret
    exact ⟨by rw [HR.out]; rfl, L9.out.1.2.2⟩

end Go.Proofs.YtndbmnnomokfkaaDoor
