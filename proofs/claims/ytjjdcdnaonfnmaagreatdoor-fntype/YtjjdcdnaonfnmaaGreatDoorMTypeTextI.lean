/- impl.TypeText. -/
/- impl.TypeText: the types with a length or a name. -/
/- impl.TypeText, all of its cases, where strconv's table is there. -/
/- What FnTurns draws: any two types. -/
/- spec.DrawTurns draws two types. -/
import Derived.Test.YtjjdcdnaonfnmaaGreatDoorMPutNameS
import Derived.Test.YtjjdcdnaonfnmaaGreatDoorMDrawType
namespace Go.Proofs.YtjjdcdnaonfnmaaGreatDoor
open Go.RowKit

/-- A type lies in block p and a form in block q, behind the world w0. -/
def LayTF (w0 : World) (p q : Nat) (k l : Int) (s f : ByteArray) (mn mx : Int) (nm : Bool) (w : World) : Prop :=
  Lay1 w0 p k l s w ∧ q < w.heap.size ∧ w.heap[q]? = some (.cells #[.string f, .int .i64 mn, .int .i64 mx, .bool nm] 38 (0, 0))

theorem LayTF.below {w0 : World} {p q : Nat} {k l : Int} {s f : ByteArray} {mn mx : Int} {nm : Bool} {w w' : World} (h : LayTF w0 p q k l s f mn mx nm w) (hb : Below w.heap.size w w') : LayTF w0 p q k l s f mn mx nm w' :=
  ⟨h.1.below hb, Nat.lt_of_lt_of_le h.2.1 hb.size, (hb.block q h.2.1).trans h.2.2⟩

theorem formCells {w : World} {q : Nat} {f : ByteArray} {mn mx : Int} {nm : Bool} {T : TypeId} (h : w.heap[q]? = some (.cells #[.string f, .int .i64 mn, .int .i64 mx, .bool nm] T (0, 0))) :
    w.cell? ⟨q, 0, none⟩ = some (.string f) ∧ w.cell? ⟨q, 1, none⟩ = some (.int .i64 mn) ∧ w.cell? ⟨q, 2, none⟩ = some (.int .i64 mx) ∧ w.cell? ⟨q, 3, none⟩ = some (.bool nm) := by
  rw [cell_of_row _ _ _ _ _ _ h, cell_of_row _ _ _ _ _ _ h, cell_of_row _ _ _ _ _ _ h, cell_of_row _ _ _ _ _ _ h]
  exact ⟨rfl, rfl, rfl, rfl⟩

theorem row_set {w : World} {q j : Nat} {cs : Array Value} {T : TypeId} (h : w.heap[q]? = some (.cells cs T (0, 0))) (v : Value) : (w.setCell ⟨q, j, none⟩ v).heap[q]? = some (.cells (cs.setIfInBounds j v) T (0, 0)) := by
  simp [World.setCell, Array.getElem?_modify, h]

theorem LayTF.set4 {w0 w : World} {p q : Nat} {k l : Int} {s f : ByteArray} {mn mx : Int} {nm : Bool} (h : Lay1 w0 p k l s w) (hr : w.heap[q]? = some (.cells #[.string ⟨#[]⟩, .int .i64 0, .int .i64 0, .bool false] 38 (0, 0))) (hpq : p ≠ q) (hq : w0.heap.size ≤ q) :
    LayTF w0 p q k l s f mn mx nm ((((w.setCell ⟨q, 0, none⟩ (.string f)).setCell ⟨q, 1, none⟩ (.int .i64 mn)).setCell ⟨q, 2, none⟩ (.int .i64 mx)).setCell ⟨q, 3, none⟩ (.bool nm)) := by
  have st : ∀ {w : World} (h : Lay1 w0 p k l s w) (j : Nat) (v : Value), Lay1 w0 p k l s (w.setCell ⟨q, j, none⟩ v) := fun {w} h j v => by
    have hc : ∀ o, (w.setCell ⟨q, j, none⟩ v).cell? ⟨p, o, none⟩ = w.cell? ⟨p, o, none⟩ := fun o => World.cell?_of_block (w := w) (w' := w.setCell ⟨q, j, none⟩ v) (a := ⟨p, o, none⟩) (Below.heap_setCell _ _ _ _ hpq)
    exact ⟨⟨(hc 0).trans h.1.1, (hc 1).trans h.1.2.1, (hc 2).trans h.1.2.2⟩, by rw [size_setCell]; exact h.2.1, below_setCell h.2.2 h.2.2.size hq⟩
  have hlt : q < w.heap.size := by
    rcases Nat.lt_or_ge q w.heap.size with h' | h'
    · exact h'
    · rw [Array.getElem?_eq_none h'] at hr; cases hr
  refine ⟨st (st (st (st h 0 _) 1 _) 2 _) 3 _, by simpa only [size_setCell] using hlt, ?_⟩
  rw [row_set (row_set (row_set (row_set hr (.string f)) (.int .i64 mn)) (.int .i64 mx)) (.bool nm)]
  rfl

theorem below_drewL {w w' : World} (h : Below w.drew.heap.size w.drew w') : Below w.heap.size w w' := ⟨h.os, h.tape, h.output, h.size, h.block⟩
theorem below_toDrew {B : Nat} {w w' : World} (h : Below B w w') : Below B w w'.drew := ⟨h.os, h.tape, h.output, h.size, h.block⟩
theorem implDecIs (n : Int) (w : World) (h0 : -9223372036854775808 ≤ n) (h1 : n ≤ 9223372036854775807) (ht : Lib.TabIs Tryz.prog w "internal/strconv.uint64pow10" .u64 Lib.pow10Tab) (D : ByteArray) (hD : dec n = D) :
    Calls Tryz.prog 16 #[.int .i64 n] w fun e w' => e = .returned (.string D) ∧ Below w.heap.size w w' := hD ▸ implDecText n w h0 h1 ht

set_option maxHeartbeats 8000000 in
theorem typeTextNone (k l : Int) (s : ByteArray) (w : World) (hs : s.size ≤ 1048576) (f : ByteArray) (mn mx : Int) (nm : Bool) (hfz : f.size ≤ 10) (r : ByteArray)
    (HL : Hid (∀ (W : World) (b : Nat), W.ownsMap Tryz.prog 3 formR b 5 formsD → (Instr.lookup 40 (.map (some b)) (.int .i64 k) true).run Tryz.prog W = .ok (.tuple #[.agg #[.string f, .int .i64 mn, .int .i64 mx, .bool nm], .bool false]) W))
    (HR : Hid (r = ⟨#[]⟩))
    : Calls Tryz.prog 6 #[.agg #[.int .i64 k, .int .i64 l, .string s]] w fun e w' => e = .returned (.string r) ∧ Below w.heap.size w w' := by
  have hlay := Lib.hid (lay1_new w 25 k l s)
  go_enter Tryz.func6, Tryz.ntmps6
  go_wp2_with fail
  generalize w.alloc (.cells #[.int .i64 k, .int .i64 l, .string s] 25) = W0 at hlay ⊢
  obtain ⟨⟨c0, c1, c2⟩, hlt0, hb0⟩ := hlay.out
  have hne : ¬ W0.heap.size = w.heap.size := by omega
  have hne' : ¬ w.heap.size = W0.heap.size := by omega
  have hst : Hid (∀ a b : World, W0.heap.size ≤ a.heap.size → (a.cell? ⟨w.heap.size, 0, none⟩ = some (.int .i64 k) ∧ a.cell? ⟨w.heap.size, 1, none⟩ = some (.int .i64 l) ∧ a.cell? ⟨w.heap.size, 2, none⟩ = some (.string s)) → Below a.heap.size a b → (b.cell? ⟨w.heap.size, 0, none⟩ = some (.int .i64 k) ∧ b.cell? ⟨w.heap.size, 1, none⟩ = some (.int .i64 l) ∧ b.cell? ⟨w.heap.size, 2, none⟩ = some (.string s))) :=
    fun a b hle h hb => ⟨(hb.cell (p := ⟨w.heap.size, 0, none⟩) (Nat.lt_of_lt_of_le hlt0 hle)).trans h.1, (hb.cell (p := ⟨w.heap.size, 1, none⟩) (Nat.lt_of_lt_of_le hlt0 hle)).trans h.2.1, (hb.cell (p := ⟨w.heap.size, 2, none⟩) (Nat.lt_of_lt_of_le hlt0 hle)).trans h.2.2⟩
  have HB0 := Lib.hid hb0
  clear hb0
  go_region_held3 (fun w' => w'.cell? ⟨w.heap.size, 0, none⟩ = some (.int .i64 k) ∧ w'.cell? ⟨w.heap.size, 1, none⟩ = some (.int .i64 l) ∧ w'.cell? ⟨w.heap.size, 2, none⟩ = some (.string s))
    (go_keep)
    ((go_at_call 14; refine (implForms _).mono ?_; rintro e w1 ⟨rfl, o1, b1⟩; have q1 := HL.out _ _ o1; have q2 := fun o => HL.out _ _ (World.ownsMap.alloc o1 o); obtain ⟨hcw, hfw⟩ := blockCells b1; (try simp only [World.size_alloc, drew_heap] at q1 q2); obtain ⟨d0, d1, d2⟩ := hst.out _ _ (by simp) (by assumption) b1; have O1 := Lib.hid o1; have B1 := Lib.hid b1; clear o1 b1))
  · have LF : LayTF w w.heap.size w1.heap.size k l s f mn mx nm (w1.alloc (.cells #[.string f, .int .i64 mn, .int .i64 mx, .bool nm] 38)) := by
      have h0 := HB0.out.drew
      have h1 : Below w.heap.size w w1 := h0.trans (B1.out.mono h0.size)
      have hw1 : W0.heap.size ≤ w1.heap.size := B1.out.size
      have hl1 : Lay1 w w.heap.size k l s w1 := ⟨⟨d0, d1, d2⟩, Nat.lt_of_lt_of_le hlt0 hw1, h1⟩
      exact ⟨hl1.alloc _, by simp, heap_alloc_new _ _⟩
    generalize w1.alloc (.cells #[.string f, .int .i64 mn, .int .i64 mx, .bool nm] 38) = W2 at LF ⊢
    generalize w1.heap.size = q at LF ⊢
    have HLF := Lib.hid LF
    obtain ⟨⟨⟨c0', c1', c2'⟩, _⟩, _, hrq⟩ := LF
    obtain ⟨f0, f1, f2, f3⟩ := formCells hrq
    clear hrq c0 c1 c2 hcw hfw d0 d1 d2 q1 q2
    go_wp2_with fail
    go_ret
    exact ⟨by rw [HR.out]; rfl, HLF.out.1.2.2⟩
  · have LF : LayTF w w.heap.size w1.heap.size k l s f mn mx nm (w1.alloc (.cells #[.string f, .int .i64 mn, .int .i64 mx, .bool nm] 38)) := by
      have h0 := HB0.out.drew
      have h1 : Below w.heap.size w w1 := h0.trans (B1.out.mono h0.size)
      have hw1 : W0.heap.size ≤ w1.heap.size := B1.out.size
      have hl1 : Lay1 w w.heap.size k l s w1 := ⟨⟨d0, d1, d2⟩, Nat.lt_of_lt_of_le hlt0 hw1, h1⟩
      exact ⟨hl1.alloc _, by simp, heap_alloc_new _ _⟩
    generalize w1.alloc (.cells #[.string f, .int .i64 mn, .int .i64 mx, .bool nm] 38) = W2 at LF ⊢
    generalize w1.heap.size = q at LF ⊢
    have HLF := Lib.hid LF
    obtain ⟨⟨⟨c0', c1', c2'⟩, _⟩, _, hrq⟩ := LF
    obtain ⟨f0, f1, f2, f3⟩ := formCells hrq
    clear hrq c0 c1 c2 hcw hfw d0 d1 d2 q1 q2
    go_wp2_with fail
    go_ret
    exact ⟨by rw [HR.out]; rfl, HLF.out.1.2.2⟩
  · have LF : LayTF w w.heap.size W0.heap.size k l s f mn mx nm ((((w1.setCell ⟨W0.heap.size, 0, none⟩ (.string f)).setCell ⟨W0.heap.size, 1, none⟩ (.int .i64 mn)).setCell ⟨W0.heap.size, 2, none⟩ (.int .i64 mx)).setCell ⟨W0.heap.size, 3, none⟩ (.bool nm)) := by
      have h0 := HB0.out.drew
      have h0a := h0.alloc h0.size (.cells #[.string ⟨#[]⟩, .int .i64 0, .int .i64 0, .bool false] 38)
      have h1 : Below w.heap.size w w1 := h0a.trans (B1.out.mono h0a.size)
      have hw1 : W0.heap.size + 1 ≤ w1.heap.size := by have := B1.out.size; simpa using this
      have hq : w.heap.size ≤ W0.heap.size := Nat.le_of_lt hlt0
      have hl1 : Lay1 w w.heap.size k l s w1 := ⟨⟨d0, d1, d2⟩, by omega, h1⟩
      have hrow : w1.heap[W0.heap.size]? = some (.cells #[.string ⟨#[]⟩, .int .i64 0, .int .i64 0, .bool false] 38 (0, 0)) := (B1.out.block W0.heap.size (by simp)).trans (heap_alloc_new W0.drew _)
      exact LayTF.set4 hl1 hrow (by omega) hq
    generalize (((w1.setCell ⟨W0.heap.size, 0, none⟩ (.string f)).setCell ⟨W0.heap.size, 1, none⟩ (.int .i64 mn)).setCell ⟨W0.heap.size, 2, none⟩ (.int .i64 mx)).setCell ⟨W0.heap.size, 3, none⟩ (.bool nm) = W2 at LF ⊢
    generalize W0.heap.size = q at LF ⊢
    have HLF := Lib.hid LF
    obtain ⟨⟨⟨c0', c1', c2'⟩, _⟩, _, hrq⟩ := LF
    obtain ⟨f0, f1, f2, f3⟩ := formCells hrq
    clear hrq c0 c1 c2 hcw hfw d0 d1 d2 q1 q2
    go_wp2_with fail
    go_ret
    exact ⟨by rw [HR.out]; rfl, HLF.out.1.2.2⟩

set_option maxHeartbeats 8000000 in
theorem typeTextBad (k l : Int) (s : ByteArray) (w : World) (hs : s.size ≤ 1048576) (f : ByteArray) (mn mx : Int) (nm : Bool) (hfz : f.size ≤ 10) (r : ByteArray)
    (HL : Hid (∀ (W : World) (b : Nat), W.ownsMap Tryz.prog 3 formR b 5 formsD → (Instr.lookup 40 (.map (some b)) (.int .i64 k) true).run Tryz.prog W = .ok (.tuple #[.agg #[.string f, .int .i64 mn, .int .i64 mx, .bool nm], .bool true]) W))
    (HF : Hid (fitsB mn mx nm l s = false)) (HR : Hid (r = ⟨#[]⟩))
    : Calls Tryz.prog 6 #[.agg #[.int .i64 k, .int .i64 l, .string s]] w fun e w' => e = .returned (.string r) ∧ Below w.heap.size w w' := by
  have hlay := Lib.hid (lay1_new w 25 k l s)
  go_enter Tryz.func6, Tryz.ntmps6
  go_wp2_with fail
  generalize w.alloc (.cells #[.int .i64 k, .int .i64 l, .string s] 25) = W0 at hlay ⊢
  obtain ⟨⟨c0, c1, c2⟩, hlt0, hb0⟩ := hlay.out
  have hne : ¬ W0.heap.size = w.heap.size := by omega
  have hne' : ¬ w.heap.size = W0.heap.size := by omega
  have hst : Hid (∀ a b : World, W0.heap.size ≤ a.heap.size → (a.cell? ⟨w.heap.size, 0, none⟩ = some (.int .i64 k) ∧ a.cell? ⟨w.heap.size, 1, none⟩ = some (.int .i64 l) ∧ a.cell? ⟨w.heap.size, 2, none⟩ = some (.string s)) → Below a.heap.size a b → (b.cell? ⟨w.heap.size, 0, none⟩ = some (.int .i64 k) ∧ b.cell? ⟨w.heap.size, 1, none⟩ = some (.int .i64 l) ∧ b.cell? ⟨w.heap.size, 2, none⟩ = some (.string s))) :=
    fun a b hle h hb => ⟨(hb.cell (p := ⟨w.heap.size, 0, none⟩) (Nat.lt_of_lt_of_le hlt0 hle)).trans h.1, (hb.cell (p := ⟨w.heap.size, 1, none⟩) (Nat.lt_of_lt_of_le hlt0 hle)).trans h.2.1, (hb.cell (p := ⟨w.heap.size, 2, none⟩) (Nat.lt_of_lt_of_le hlt0 hle)).trans h.2.2⟩
  have HB0 := Lib.hid hb0
  clear hb0
  go_region_held3 (fun w' => w'.cell? ⟨w.heap.size, 0, none⟩ = some (.int .i64 k) ∧ w'.cell? ⟨w.heap.size, 1, none⟩ = some (.int .i64 l) ∧ w'.cell? ⟨w.heap.size, 2, none⟩ = some (.string s))
    (go_keep)
    ((go_at_call 14; refine (implForms _).mono ?_; rintro e w1 ⟨rfl, o1, b1⟩; have q1 := HL.out _ _ o1; have q2 := fun o => HL.out _ _ (World.ownsMap.alloc o1 o); obtain ⟨hcw, hfw⟩ := blockCells b1; (try simp only [World.size_alloc, drew_heap] at q1 q2); obtain ⟨d0, d1, d2⟩ := hst.out _ _ (by simp) (by assumption) b1; have O1 := Lib.hid o1; have B1 := Lib.hid b1; clear o1 b1))
  · have LF : LayTF w w.heap.size w1.heap.size k l s f mn mx nm (w1.alloc (.cells #[.string f, .int .i64 mn, .int .i64 mx, .bool nm] 38)) := by
      have h0 := HB0.out.drew
      have h1 : Below w.heap.size w w1 := h0.trans (B1.out.mono h0.size)
      have hw1 : W0.heap.size ≤ w1.heap.size := B1.out.size
      have hl1 : Lay1 w w.heap.size k l s w1 := ⟨⟨d0, d1, d2⟩, Nat.lt_of_lt_of_le hlt0 hw1, h1⟩
      exact ⟨hl1.alloc _, by simp, heap_alloc_new _ _⟩
    generalize w1.alloc (.cells #[.string f, .int .i64 mn, .int .i64 mx, .bool nm] 38) = W2 at LF ⊢
    generalize w1.heap.size = q at LF ⊢
    have HLF := Lib.hid LF
    obtain ⟨⟨⟨c0', c1', c2'⟩, _⟩, _, hrq⟩ := LF
    obtain ⟨f0, f1, f2, f3⟩ := formCells hrq
    clear hrq c0 c1 c2 hcw hfw d0 d1 d2 q1 q2
    go_wp2_with fail
    refine (implFits f mn mx nm k l s _ false HF.out).mono ?_
    rintro e w9 ⟨rfl, b9⟩
    have L9 := Lib.hid (HLF.out.below b9)
    clear c0' c1' c2' f0 f1 f2 f3 b9
    obtain ⟨⟨⟨c0, c1, c2⟩, _⟩, _, hr9⟩ := L9.out
    obtain ⟨f0, f1, f2, f3⟩ := formCells hr9
    clear hr9
    go_wp2_with fail
    go_ret
    exact ⟨by rw [HR.out]; rfl, L9.out.1.2.2⟩
  · have LF : LayTF w w.heap.size w1.heap.size k l s f mn mx nm (w1.alloc (.cells #[.string f, .int .i64 mn, .int .i64 mx, .bool nm] 38)) := by
      have h0 := HB0.out.drew
      have h1 : Below w.heap.size w w1 := h0.trans (B1.out.mono h0.size)
      have hw1 : W0.heap.size ≤ w1.heap.size := B1.out.size
      have hl1 : Lay1 w w.heap.size k l s w1 := ⟨⟨d0, d1, d2⟩, Nat.lt_of_lt_of_le hlt0 hw1, h1⟩
      exact ⟨hl1.alloc _, by simp, heap_alloc_new _ _⟩
    generalize w1.alloc (.cells #[.string f, .int .i64 mn, .int .i64 mx, .bool nm] 38) = W2 at LF ⊢
    generalize w1.heap.size = q at LF ⊢
    have HLF := Lib.hid LF
    obtain ⟨⟨⟨c0', c1', c2'⟩, _⟩, _, hrq⟩ := LF
    obtain ⟨f0, f1, f2, f3⟩ := formCells hrq
    clear hrq c0 c1 c2 hcw hfw d0 d1 d2 q1 q2
    go_wp2_with fail
    refine (implFits f mn mx nm k l s _ false HF.out).mono ?_
    rintro e w9 ⟨rfl, b9⟩
    have L9 := Lib.hid (HLF.out.below b9)
    clear c0' c1' c2' f0 f1 f2 f3 b9
    obtain ⟨⟨⟨c0, c1, c2⟩, _⟩, _, hr9⟩ := L9.out
    obtain ⟨f0, f1, f2, f3⟩ := formCells hr9
    clear hr9
    go_wp2_with fail
    go_ret
    exact ⟨by rw [HR.out]; rfl, L9.out.1.2.2⟩
  · have LF : LayTF w w.heap.size W0.heap.size k l s f mn mx nm ((((w1.setCell ⟨W0.heap.size, 0, none⟩ (.string f)).setCell ⟨W0.heap.size, 1, none⟩ (.int .i64 mn)).setCell ⟨W0.heap.size, 2, none⟩ (.int .i64 mx)).setCell ⟨W0.heap.size, 3, none⟩ (.bool nm)) := by
      have h0 := HB0.out.drew
      have h0a := h0.alloc h0.size (.cells #[.string ⟨#[]⟩, .int .i64 0, .int .i64 0, .bool false] 38)
      have h1 : Below w.heap.size w w1 := h0a.trans (B1.out.mono h0a.size)
      have hw1 : W0.heap.size + 1 ≤ w1.heap.size := by have := B1.out.size; simpa using this
      have hq : w.heap.size ≤ W0.heap.size := Nat.le_of_lt hlt0
      have hl1 : Lay1 w w.heap.size k l s w1 := ⟨⟨d0, d1, d2⟩, by omega, h1⟩
      have hrow : w1.heap[W0.heap.size]? = some (.cells #[.string ⟨#[]⟩, .int .i64 0, .int .i64 0, .bool false] 38 (0, 0)) := (B1.out.block W0.heap.size (by simp)).trans (heap_alloc_new W0.drew _)
      exact LayTF.set4 hl1 hrow (by omega) hq
    generalize (((w1.setCell ⟨W0.heap.size, 0, none⟩ (.string f)).setCell ⟨W0.heap.size, 1, none⟩ (.int .i64 mn)).setCell ⟨W0.heap.size, 2, none⟩ (.int .i64 mx)).setCell ⟨W0.heap.size, 3, none⟩ (.bool nm) = W2 at LF ⊢
    generalize W0.heap.size = q at LF ⊢
    have HLF := Lib.hid LF
    obtain ⟨⟨⟨c0', c1', c2'⟩, _⟩, _, hrq⟩ := LF
    obtain ⟨f0, f1, f2, f3⟩ := formCells hrq
    clear hrq c0 c1 c2 hcw hfw d0 d1 d2 q1 q2
    go_wp2_with fail
    refine (implFits f mn mx nm k l s _ false HF.out).mono ?_
    rintro e w9 ⟨rfl, b9⟩
    have L9 := Lib.hid (HLF.out.below b9)
    clear c0' c1' c2' f0 f1 f2 f3 b9
    obtain ⟨⟨⟨c0, c1, c2⟩, _⟩, _, hr9⟩ := L9.out
    obtain ⟨f0, f1, f2, f3⟩ := formCells hr9
    clear hr9
    go_wp2_with fail
    go_ret
    exact ⟨by rw [HR.out]; rfl, L9.out.1.2.2⟩

set_option maxHeartbeats 8000000 in
theorem typeTextWord (k l : Int) (s : ByteArray) (w : World) (hs : s.size ≤ 1048576) (f : ByteArray) (mn mx : Int) (hfz : f.size ≤ 10) (r : ByteArray)
    (HL : Hid (∀ (W : World) (b : Nat), W.ownsMap Tryz.prog 3 formR b 5 formsD → (Instr.lookup 40 (.map (some b)) (.int .i64 k) true).run Tryz.prog W = .ok (.tuple #[.agg #[.string f, .int .i64 mn, .int .i64 mx, .bool false], .bool true]) W))
    (HF : Hid (fitsB mn mx false l s = true)) (hmx : decide (0 < mx) = false) (HR : Hid (r = f))
    : Calls Tryz.prog 6 #[.agg #[.int .i64 k, .int .i64 l, .string s]] w fun e w' => e = .returned (.string r) ∧ Below w.heap.size w w' := by
  have hlay := Lib.hid (lay1_new w 25 k l s)
  go_enter Tryz.func6, Tryz.ntmps6
  go_wp2_with fail
  generalize w.alloc (.cells #[.int .i64 k, .int .i64 l, .string s] 25) = W0 at hlay ⊢
  obtain ⟨⟨c0, c1, c2⟩, hlt0, hb0⟩ := hlay.out
  have hne : ¬ W0.heap.size = w.heap.size := by omega
  have hne' : ¬ w.heap.size = W0.heap.size := by omega
  have hst : Hid (∀ a b : World, W0.heap.size ≤ a.heap.size → (a.cell? ⟨w.heap.size, 0, none⟩ = some (.int .i64 k) ∧ a.cell? ⟨w.heap.size, 1, none⟩ = some (.int .i64 l) ∧ a.cell? ⟨w.heap.size, 2, none⟩ = some (.string s)) → Below a.heap.size a b → (b.cell? ⟨w.heap.size, 0, none⟩ = some (.int .i64 k) ∧ b.cell? ⟨w.heap.size, 1, none⟩ = some (.int .i64 l) ∧ b.cell? ⟨w.heap.size, 2, none⟩ = some (.string s))) :=
    fun a b hle h hb => ⟨(hb.cell (p := ⟨w.heap.size, 0, none⟩) (Nat.lt_of_lt_of_le hlt0 hle)).trans h.1, (hb.cell (p := ⟨w.heap.size, 1, none⟩) (Nat.lt_of_lt_of_le hlt0 hle)).trans h.2.1, (hb.cell (p := ⟨w.heap.size, 2, none⟩) (Nat.lt_of_lt_of_le hlt0 hle)).trans h.2.2⟩
  have HB0 := Lib.hid hb0
  clear hb0
  go_region_held3 (fun w' => w'.cell? ⟨w.heap.size, 0, none⟩ = some (.int .i64 k) ∧ w'.cell? ⟨w.heap.size, 1, none⟩ = some (.int .i64 l) ∧ w'.cell? ⟨w.heap.size, 2, none⟩ = some (.string s))
    (go_keep)
    ((go_at_call 14; refine (implForms _).mono ?_; rintro e w1 ⟨rfl, o1, b1⟩; have q1 := HL.out _ _ o1; have q2 := fun o => HL.out _ _ (World.ownsMap.alloc o1 o); obtain ⟨hcw, hfw⟩ := blockCells b1; (try simp only [World.size_alloc, drew_heap] at q1 q2); obtain ⟨d0, d1, d2⟩ := hst.out _ _ (by simp) (by assumption) b1; have O1 := Lib.hid o1; have B1 := Lib.hid b1; clear o1 b1))
  · have LF : LayTF w w.heap.size w1.heap.size k l s f mn mx false (w1.alloc (.cells #[.string f, .int .i64 mn, .int .i64 mx, .bool false] 38)) := by
      have h0 := HB0.out.drew
      have h1 : Below w.heap.size w w1 := h0.trans (B1.out.mono h0.size)
      have hw1 : W0.heap.size ≤ w1.heap.size := B1.out.size
      have hl1 : Lay1 w w.heap.size k l s w1 := ⟨⟨d0, d1, d2⟩, Nat.lt_of_lt_of_le hlt0 hw1, h1⟩
      exact ⟨hl1.alloc _, by simp, heap_alloc_new _ _⟩
    generalize w1.alloc (.cells #[.string f, .int .i64 mn, .int .i64 mx, .bool false] 38) = W2 at LF ⊢
    generalize w1.heap.size = q at LF ⊢
    have HLF := Lib.hid LF
    obtain ⟨⟨⟨c0', c1', c2'⟩, _⟩, _, hrq⟩ := LF
    obtain ⟨f0, f1, f2, f3⟩ := formCells hrq
    clear hrq c0 c1 c2 hcw hfw d0 d1 d2 q1 q2
    go_wp2_with fail
    refine (implFits f mn mx false k l s _ true HF.out).mono ?_
    rintro e w9 ⟨rfl, b9⟩
    have L9 := Lib.hid (HLF.out.below b9)
    clear c0' c1' c2' f0 f1 f2 f3 b9
    obtain ⟨⟨⟨c0, c1, c2⟩, _⟩, _, hr9⟩ := L9.out
    obtain ⟨f0, f1, f2, f3⟩ := formCells hr9
    clear hr9
    go_wp2_with fail
    go_ret
    exact ⟨by rw [HR.out]; rfl, L9.out.1.2.2⟩
  · have LF : LayTF w w.heap.size w1.heap.size k l s f mn mx false (w1.alloc (.cells #[.string f, .int .i64 mn, .int .i64 mx, .bool false] 38)) := by
      have h0 := HB0.out.drew
      have h1 : Below w.heap.size w w1 := h0.trans (B1.out.mono h0.size)
      have hw1 : W0.heap.size ≤ w1.heap.size := B1.out.size
      have hl1 : Lay1 w w.heap.size k l s w1 := ⟨⟨d0, d1, d2⟩, Nat.lt_of_lt_of_le hlt0 hw1, h1⟩
      exact ⟨hl1.alloc _, by simp, heap_alloc_new _ _⟩
    generalize w1.alloc (.cells #[.string f, .int .i64 mn, .int .i64 mx, .bool false] 38) = W2 at LF ⊢
    generalize w1.heap.size = q at LF ⊢
    have HLF := Lib.hid LF
    obtain ⟨⟨⟨c0', c1', c2'⟩, _⟩, _, hrq⟩ := LF
    obtain ⟨f0, f1, f2, f3⟩ := formCells hrq
    clear hrq c0 c1 c2 hcw hfw d0 d1 d2 q1 q2
    go_wp2_with fail
    refine (implFits f mn mx false k l s _ true HF.out).mono ?_
    rintro e w9 ⟨rfl, b9⟩
    have L9 := Lib.hid (HLF.out.below b9)
    clear c0' c1' c2' f0 f1 f2 f3 b9
    obtain ⟨⟨⟨c0, c1, c2⟩, _⟩, _, hr9⟩ := L9.out
    obtain ⟨f0, f1, f2, f3⟩ := formCells hr9
    clear hr9
    go_wp2_with fail
    go_ret
    exact ⟨by rw [HR.out]; rfl, L9.out.1.2.2⟩
  · have LF : LayTF w w.heap.size W0.heap.size k l s f mn mx false ((((w1.setCell ⟨W0.heap.size, 0, none⟩ (.string f)).setCell ⟨W0.heap.size, 1, none⟩ (.int .i64 mn)).setCell ⟨W0.heap.size, 2, none⟩ (.int .i64 mx)).setCell ⟨W0.heap.size, 3, none⟩ (.bool false)) := by
      have h0 := HB0.out.drew
      have h0a := h0.alloc h0.size (.cells #[.string ⟨#[]⟩, .int .i64 0, .int .i64 0, .bool false] 38)
      have h1 : Below w.heap.size w w1 := h0a.trans (B1.out.mono h0a.size)
      have hw1 : W0.heap.size + 1 ≤ w1.heap.size := by have := B1.out.size; simpa using this
      have hq : w.heap.size ≤ W0.heap.size := Nat.le_of_lt hlt0
      have hl1 : Lay1 w w.heap.size k l s w1 := ⟨⟨d0, d1, d2⟩, by omega, h1⟩
      have hrow : w1.heap[W0.heap.size]? = some (.cells #[.string ⟨#[]⟩, .int .i64 0, .int .i64 0, .bool false] 38 (0, 0)) := (B1.out.block W0.heap.size (by simp)).trans (heap_alloc_new W0.drew _)
      exact LayTF.set4 hl1 hrow (by omega) hq
    generalize (((w1.setCell ⟨W0.heap.size, 0, none⟩ (.string f)).setCell ⟨W0.heap.size, 1, none⟩ (.int .i64 mn)).setCell ⟨W0.heap.size, 2, none⟩ (.int .i64 mx)).setCell ⟨W0.heap.size, 3, none⟩ (.bool false) = W2 at LF ⊢
    generalize W0.heap.size = q at LF ⊢
    have HLF := Lib.hid LF
    obtain ⟨⟨⟨c0', c1', c2'⟩, _⟩, _, hrq⟩ := LF
    obtain ⟨f0, f1, f2, f3⟩ := formCells hrq
    clear hrq c0 c1 c2 hcw hfw d0 d1 d2 q1 q2
    go_wp2_with fail
    refine (implFits f mn mx false k l s _ true HF.out).mono ?_
    rintro e w9 ⟨rfl, b9⟩
    have L9 := Lib.hid (HLF.out.below b9)
    clear c0' c1' c2' f0 f1 f2 f3 b9
    obtain ⟨⟨⟨c0, c1, c2⟩, _⟩, _, hr9⟩ := L9.out
    obtain ⟨f0, f1, f2, f3⟩ := formCells hr9
    clear hr9
    go_wp2_with fail
    go_ret
    exact ⟨by rw [HR.out]; rfl, L9.out.1.2.2⟩

end Go.Proofs.YtjjdcdnaonfnmaaGreatDoor

namespace Go.Proofs.YtjjdcdnaonfnmaaGreatDoor
open Go.RowKit

set_option maxHeartbeats 8000000 in
theorem typeTextEnum (k l : Int) (s : ByteArray) (w : World) (hs : s.size ≤ 1048576) (f : ByteArray) (mn mx : Int) (hfz : f.size ≤ 10) (r : ByteArray)
    (HL : Hid (∀ (W : World) (b : Nat), W.ownsMap Tryz.prog 3 formR b 5 formsD → (Instr.lookup 40 (.map (some b)) (.int .i64 k) true).run Tryz.prog W = .ok (.tuple #[.agg #[.string f, .int .i64 mn, .int .i64 mx, .bool true], .bool true]) W))
    (HF : Hid (fitsB mn mx true l s = true)) (hmx : decide (0 < mx) = false) (N : ByteArray) (hz : N.size ≤ 2 * s.size + 2) (hN : Hid (nameT s = N)) (HR : Hid (r = f ++ ⟨#[32]⟩ ++ N))
    : Calls Tryz.prog 6 #[.agg #[.int .i64 k, .int .i64 l, .string s]] w fun e w' => e = .returned (.string r) ∧ Below w.heap.size w w' := by
  have hlay := Lib.hid (lay1_new w 25 k l s)
  have ad1 : ∀ w, (Op.stringOp .add f ⟨#[32]⟩).run Tryz.prog w = .ok (.string (f ++ ⟨#[32]⟩)) w := fun w => run_string_add_sum w _ _ (by have o1 : (ByteArray.mk #[32]).size = 1 := rfl; have o2 : (ByteArray.mk #[40]).size = 1 := rfl; have o3 : (ByteArray.mk #[41]).size = 1 := rfl; (try rw [ByteArray.size_append]); (try rw [ByteArray.size_append]); omega)
  have ad2 : ∀ w, (Op.stringOp .add (f ++ ⟨#[32]⟩) N).run Tryz.prog w = .ok (.string (f ++ ⟨#[32]⟩ ++ N)) w := fun w => run_string_add_sum w _ _ (by have o1 : (ByteArray.mk #[32]).size = 1 := rfl; have o2 : (ByteArray.mk #[40]).size = 1 := rfl; have o3 : (ByteArray.mk #[41]).size = 1 := rfl; (try rw [ByteArray.size_append]); (try rw [ByteArray.size_append]); omega)
  have ae1 : ∀ w, (binOp .add 9 (.string f) (.string ⟨#[32]⟩)).run Tryz.prog w = .ok (.string (f ++ ⟨#[32]⟩)) w := fun w => by simp [binOp, ad1]
  have ae2 : ∀ w, (binOp .add 9 (.string (f ++ ⟨#[32]⟩)) (.string N)).run Tryz.prog w = .ok (.string (f ++ ⟨#[32]⟩ ++ N)) w := fun w => by simp [binOp, ad2]
  go_enter Tryz.func6, Tryz.ntmps6
  go_wp2_with fail
  generalize w.alloc (.cells #[.int .i64 k, .int .i64 l, .string s] 25) = W0 at hlay ⊢
  obtain ⟨⟨c0, c1, c2⟩, hlt0, hb0⟩ := hlay.out
  have hne : ¬ W0.heap.size = w.heap.size := by omega
  have hne' : ¬ w.heap.size = W0.heap.size := by omega
  have hst : Hid (∀ a b : World, W0.heap.size ≤ a.heap.size → (a.cell? ⟨w.heap.size, 0, none⟩ = some (.int .i64 k) ∧ a.cell? ⟨w.heap.size, 1, none⟩ = some (.int .i64 l) ∧ a.cell? ⟨w.heap.size, 2, none⟩ = some (.string s)) → Below a.heap.size a b → (b.cell? ⟨w.heap.size, 0, none⟩ = some (.int .i64 k) ∧ b.cell? ⟨w.heap.size, 1, none⟩ = some (.int .i64 l) ∧ b.cell? ⟨w.heap.size, 2, none⟩ = some (.string s))) :=
    fun a b hle h hb => ⟨(hb.cell (p := ⟨w.heap.size, 0, none⟩) (Nat.lt_of_lt_of_le hlt0 hle)).trans h.1, (hb.cell (p := ⟨w.heap.size, 1, none⟩) (Nat.lt_of_lt_of_le hlt0 hle)).trans h.2.1, (hb.cell (p := ⟨w.heap.size, 2, none⟩) (Nat.lt_of_lt_of_le hlt0 hle)).trans h.2.2⟩
  have HB0 := Lib.hid hb0
  clear hb0
  go_region_held3 (fun w' => w'.cell? ⟨w.heap.size, 0, none⟩ = some (.int .i64 k) ∧ w'.cell? ⟨w.heap.size, 1, none⟩ = some (.int .i64 l) ∧ w'.cell? ⟨w.heap.size, 2, none⟩ = some (.string s))
    (go_keep)
    ((go_at_call 14; refine (implForms _).mono ?_; rintro e w1 ⟨rfl, o1, b1⟩; have q1 := HL.out _ _ o1; have q2 := fun o => HL.out _ _ (World.ownsMap.alloc o1 o); obtain ⟨hcw, hfw⟩ := blockCells b1; (try simp only [World.size_alloc, drew_heap] at q1 q2); obtain ⟨d0, d1, d2⟩ := hst.out _ _ (by simp) (by assumption) b1; have O1 := Lib.hid o1; have B1 := Lib.hid b1; clear o1 b1))
  · have LF : LayTF w w.heap.size w1.heap.size k l s f mn mx true (w1.alloc (.cells #[.string f, .int .i64 mn, .int .i64 mx, .bool true] 38)) := by
      have h0 := HB0.out.drew
      have h1 : Below w.heap.size w w1 := h0.trans (B1.out.mono h0.size)
      have hw1 : W0.heap.size ≤ w1.heap.size := B1.out.size
      have hl1 : Lay1 w w.heap.size k l s w1 := ⟨⟨d0, d1, d2⟩, Nat.lt_of_lt_of_le hlt0 hw1, h1⟩
      exact ⟨hl1.alloc _, by simp, heap_alloc_new _ _⟩
    generalize w1.alloc (.cells #[.string f, .int .i64 mn, .int .i64 mx, .bool true] 38) = W2 at LF ⊢
    generalize w1.heap.size = q at LF ⊢
    have HLF := Lib.hid LF
    obtain ⟨⟨⟨c0', c1', c2'⟩, _⟩, _, hrq⟩ := LF
    obtain ⟨f0, f1, f2, f3⟩ := formCells hrq
    clear hrq c0 c1 c2 hcw hfw d0 d1 d2 q1 q2
    go_wp2_with fail
    refine (implFits f mn mx true k l s _ true HF.out).mono ?_
    rintro e w9 ⟨rfl, b9⟩
    have L9 := Lib.hid (HLF.out.below b9)
    clear c0' c1' c2' f0 f1 f2 f3 b9
    obtain ⟨⟨⟨c0, c1, c2⟩, _⟩, _, hr9⟩ := L9.out
    obtain ⟨f0, f1, f2, f3⟩ := formCells hr9
    clear hr9
    go_wp2_with fail
    go_region_held3 (fun w' => w'.cell? ⟨w.heap.size, 2, none⟩ = some (.string s) ∧ w'.cell? ⟨q, 0, none⟩ = some (.string f))
      (go_keep)
      ((go_at_call 17; refine (implPutName s _ hs N hN.out).mono ?_; rintro e w10 ⟨rfl, b10⟩; have L10 := Lib.hid (L9.out.below (below_drewL b10)); obtain ⟨⟨⟨g0, g1, g2⟩, _⟩, _, hr10⟩ := L10.out; obtain ⟨e0, e1, e2, e3⟩ := formCells hr10; clear hr10 b10))
    go_wp2_with fail
    go_ret
    exact ⟨by rw [HR.out]; rfl, L10.out.1.2.2⟩
  · have LF : LayTF w w.heap.size w1.heap.size k l s f mn mx true (w1.alloc (.cells #[.string f, .int .i64 mn, .int .i64 mx, .bool true] 38)) := by
      have h0 := HB0.out.drew
      have h1 : Below w.heap.size w w1 := h0.trans (B1.out.mono h0.size)
      have hw1 : W0.heap.size ≤ w1.heap.size := B1.out.size
      have hl1 : Lay1 w w.heap.size k l s w1 := ⟨⟨d0, d1, d2⟩, Nat.lt_of_lt_of_le hlt0 hw1, h1⟩
      exact ⟨hl1.alloc _, by simp, heap_alloc_new _ _⟩
    generalize w1.alloc (.cells #[.string f, .int .i64 mn, .int .i64 mx, .bool true] 38) = W2 at LF ⊢
    generalize w1.heap.size = q at LF ⊢
    have HLF := Lib.hid LF
    obtain ⟨⟨⟨c0', c1', c2'⟩, _⟩, _, hrq⟩ := LF
    obtain ⟨f0, f1, f2, f3⟩ := formCells hrq
    clear hrq c0 c1 c2 hcw hfw d0 d1 d2 q1 q2
    go_wp2_with fail
    refine (implFits f mn mx true k l s _ true HF.out).mono ?_
    rintro e w9 ⟨rfl, b9⟩
    have L9 := Lib.hid (HLF.out.below b9)
    clear c0' c1' c2' f0 f1 f2 f3 b9
    obtain ⟨⟨⟨c0, c1, c2⟩, _⟩, _, hr9⟩ := L9.out
    obtain ⟨f0, f1, f2, f3⟩ := formCells hr9
    clear hr9
    go_wp2_with fail
    go_region_held3 (fun w' => w'.cell? ⟨w.heap.size, 2, none⟩ = some (.string s) ∧ w'.cell? ⟨q, 0, none⟩ = some (.string f))
      (go_keep)
      ((go_at_call 17; refine (implPutName s _ hs N hN.out).mono ?_; rintro e w10 ⟨rfl, b10⟩; have L10 := Lib.hid (L9.out.below (below_drewL b10)); obtain ⟨⟨⟨g0, g1, g2⟩, _⟩, _, hr10⟩ := L10.out; obtain ⟨e0, e1, e2, e3⟩ := formCells hr10; clear hr10 b10))
    go_wp2_with fail
    go_ret
    exact ⟨by rw [HR.out]; rfl, L10.out.1.2.2⟩
  · have LF : LayTF w w.heap.size W0.heap.size k l s f mn mx true ((((w1.setCell ⟨W0.heap.size, 0, none⟩ (.string f)).setCell ⟨W0.heap.size, 1, none⟩ (.int .i64 mn)).setCell ⟨W0.heap.size, 2, none⟩ (.int .i64 mx)).setCell ⟨W0.heap.size, 3, none⟩ (.bool true)) := by
      have h0 := HB0.out.drew
      have h0a := h0.alloc h0.size (.cells #[.string ⟨#[]⟩, .int .i64 0, .int .i64 0, .bool false] 38)
      have h1 : Below w.heap.size w w1 := h0a.trans (B1.out.mono h0a.size)
      have hw1 : W0.heap.size + 1 ≤ w1.heap.size := by have := B1.out.size; simpa using this
      have hq : w.heap.size ≤ W0.heap.size := Nat.le_of_lt hlt0
      have hl1 : Lay1 w w.heap.size k l s w1 := ⟨⟨d0, d1, d2⟩, by omega, h1⟩
      have hrow : w1.heap[W0.heap.size]? = some (.cells #[.string ⟨#[]⟩, .int .i64 0, .int .i64 0, .bool false] 38 (0, 0)) := (B1.out.block W0.heap.size (by simp)).trans (heap_alloc_new W0.drew _)
      exact LayTF.set4 hl1 hrow (by omega) hq
    generalize (((w1.setCell ⟨W0.heap.size, 0, none⟩ (.string f)).setCell ⟨W0.heap.size, 1, none⟩ (.int .i64 mn)).setCell ⟨W0.heap.size, 2, none⟩ (.int .i64 mx)).setCell ⟨W0.heap.size, 3, none⟩ (.bool true) = W2 at LF ⊢
    generalize W0.heap.size = q at LF ⊢
    have HLF := Lib.hid LF
    obtain ⟨⟨⟨c0', c1', c2'⟩, _⟩, _, hrq⟩ := LF
    obtain ⟨f0, f1, f2, f3⟩ := formCells hrq
    clear hrq c0 c1 c2 hcw hfw d0 d1 d2 q1 q2
    go_wp2_with fail
    refine (implFits f mn mx true k l s _ true HF.out).mono ?_
    rintro e w9 ⟨rfl, b9⟩
    have L9 := Lib.hid (HLF.out.below b9)
    clear c0' c1' c2' f0 f1 f2 f3 b9
    obtain ⟨⟨⟨c0, c1, c2⟩, _⟩, _, hr9⟩ := L9.out
    obtain ⟨f0, f1, f2, f3⟩ := formCells hr9
    clear hr9
    go_wp2_with fail
    go_region_held3 (fun w' => w'.cell? ⟨w.heap.size, 2, none⟩ = some (.string s) ∧ w'.cell? ⟨q, 0, none⟩ = some (.string f))
      (go_keep)
      ((go_at_call 17; refine (implPutName s _ hs N hN.out).mono ?_; rintro e w10 ⟨rfl, b10⟩; have L10 := Lib.hid (L9.out.below (below_drewL b10)); obtain ⟨⟨⟨g0, g1, g2⟩, _⟩, _, hr10⟩ := L10.out; obtain ⟨e0, e1, e2, e3⟩ := formCells hr10; clear hr10 b10))
    go_wp2_with fail
    go_ret
    exact ⟨by rw [HR.out]; rfl, L10.out.1.2.2⟩

set_option maxHeartbeats 8000000 in
theorem typeTextChar (k l : Int) (s : ByteArray) (w : World) (hs : s.size ≤ 1048576) (f : ByteArray) (mn mx : Int) (nm : Bool) (hfz : f.size ≤ 10) (r : ByteArray)
    (HL : Hid (∀ (W : World) (b : Nat), W.ownsMap Tryz.prog 3 formR b 5 formsD → (Instr.lookup 40 (.map (some b)) (.int .i64 k) true).run Tryz.prog W = .ok (.tuple #[.agg #[.string f, .int .i64 mn, .int .i64 mx, .bool nm], .bool true]) W))
    (HF : Hid (fitsB mn mx nm l s = true)) (hmx : decide (0 < mx) = true) (h0 : -9223372036854775808 ≤ l) (h1 : l ≤ 9223372036854775807) (D : ByteArray) (hz : D.size ≤ 21) (hN : Hid (dec l = D)) (HR : Hid (r = f ++ ⟨#[40]⟩ ++ D ++ ⟨#[41]⟩))
    (HT : Hid (∀ W : World, Below w.heap.size w W → Lib.TabIs Tryz.prog W "internal/strconv.uint64pow10" .u64 Lib.pow10Tab))
    : Calls Tryz.prog 6 #[.agg #[.int .i64 k, .int .i64 l, .string s]] w fun e w' => e = .returned (.string r) ∧ Below w.heap.size w w' := by
  have hlay := Lib.hid (lay1_new w 25 k l s)
  have ad1 : ∀ w, (Op.stringOp .add f ⟨#[40]⟩).run Tryz.prog w = .ok (.string (f ++ ⟨#[40]⟩)) w := fun w => run_string_add_sum w _ _ (by have o1 : (ByteArray.mk #[32]).size = 1 := rfl; have o2 : (ByteArray.mk #[40]).size = 1 := rfl; have o3 : (ByteArray.mk #[41]).size = 1 := rfl; (try rw [ByteArray.size_append]); (try rw [ByteArray.size_append]); omega)
  have ad2 : ∀ w, (Op.stringOp .add (f ++ ⟨#[40]⟩) D).run Tryz.prog w = .ok (.string (f ++ ⟨#[40]⟩ ++ D)) w := fun w => run_string_add_sum w _ _ (by have o1 : (ByteArray.mk #[32]).size = 1 := rfl; have o2 : (ByteArray.mk #[40]).size = 1 := rfl; have o3 : (ByteArray.mk #[41]).size = 1 := rfl; (try rw [ByteArray.size_append]); (try rw [ByteArray.size_append]); omega)
  have ad3 : ∀ w, (Op.stringOp .add (f ++ ⟨#[40]⟩ ++ D) ⟨#[41]⟩).run Tryz.prog w = .ok (.string (f ++ ⟨#[40]⟩ ++ D ++ ⟨#[41]⟩)) w := fun w => run_string_add_sum w _ _ (by have o1 : (ByteArray.mk #[32]).size = 1 := rfl; have o2 : (ByteArray.mk #[40]).size = 1 := rfl; have o3 : (ByteArray.mk #[41]).size = 1 := rfl; (try rw [ByteArray.size_append]); (try rw [ByteArray.size_append]); omega)
  have ae1 : ∀ w, (binOp .add 9 (.string f) (.string ⟨#[40]⟩)).run Tryz.prog w = .ok (.string (f ++ ⟨#[40]⟩)) w := fun w => by simp [binOp, ad1]
  have ae2 : ∀ w, (binOp .add 9 (.string (f ++ ⟨#[40]⟩)) (.string D)).run Tryz.prog w = .ok (.string (f ++ ⟨#[40]⟩ ++ D)) w := fun w => by simp [binOp, ad2]
  have ae3 : ∀ w, (binOp .add 9 (.string (f ++ ⟨#[40]⟩ ++ D)) (.string ⟨#[41]⟩)).run Tryz.prog w = .ok (.string (f ++ ⟨#[40]⟩ ++ D ++ ⟨#[41]⟩)) w := fun w => by simp [binOp, ad3]
  go_enter Tryz.func6, Tryz.ntmps6
  go_wp2_with fail
  generalize w.alloc (.cells #[.int .i64 k, .int .i64 l, .string s] 25) = W0 at hlay ⊢
  obtain ⟨⟨c0, c1, c2⟩, hlt0, hb0⟩ := hlay.out
  have hne : ¬ W0.heap.size = w.heap.size := by omega
  have hne' : ¬ w.heap.size = W0.heap.size := by omega
  have hst : Hid (∀ a b : World, W0.heap.size ≤ a.heap.size → (a.cell? ⟨w.heap.size, 0, none⟩ = some (.int .i64 k) ∧ a.cell? ⟨w.heap.size, 1, none⟩ = some (.int .i64 l) ∧ a.cell? ⟨w.heap.size, 2, none⟩ = some (.string s)) → Below a.heap.size a b → (b.cell? ⟨w.heap.size, 0, none⟩ = some (.int .i64 k) ∧ b.cell? ⟨w.heap.size, 1, none⟩ = some (.int .i64 l) ∧ b.cell? ⟨w.heap.size, 2, none⟩ = some (.string s))) :=
    fun a b hle h hb => ⟨(hb.cell (p := ⟨w.heap.size, 0, none⟩) (Nat.lt_of_lt_of_le hlt0 hle)).trans h.1, (hb.cell (p := ⟨w.heap.size, 1, none⟩) (Nat.lt_of_lt_of_le hlt0 hle)).trans h.2.1, (hb.cell (p := ⟨w.heap.size, 2, none⟩) (Nat.lt_of_lt_of_le hlt0 hle)).trans h.2.2⟩
  have HB0 := Lib.hid hb0
  clear hb0
  go_region_held3 (fun w' => w'.cell? ⟨w.heap.size, 0, none⟩ = some (.int .i64 k) ∧ w'.cell? ⟨w.heap.size, 1, none⟩ = some (.int .i64 l) ∧ w'.cell? ⟨w.heap.size, 2, none⟩ = some (.string s))
    (go_keep)
    ((go_at_call 14; refine (implForms _).mono ?_; rintro e w1 ⟨rfl, o1, b1⟩; have q1 := HL.out _ _ o1; have q2 := fun o => HL.out _ _ (World.ownsMap.alloc o1 o); obtain ⟨hcw, hfw⟩ := blockCells b1; (try simp only [World.size_alloc, drew_heap] at q1 q2); obtain ⟨d0, d1, d2⟩ := hst.out _ _ (by simp) (by assumption) b1; have O1 := Lib.hid o1; have B1 := Lib.hid b1; clear o1 b1))
  · have LF : LayTF w w.heap.size w1.heap.size k l s f mn mx nm (w1.alloc (.cells #[.string f, .int .i64 mn, .int .i64 mx, .bool nm] 38)) := by
      have h0 := HB0.out.drew
      have h1 : Below w.heap.size w w1 := h0.trans (B1.out.mono h0.size)
      have hw1 : W0.heap.size ≤ w1.heap.size := B1.out.size
      have hl1 : Lay1 w w.heap.size k l s w1 := ⟨⟨d0, d1, d2⟩, Nat.lt_of_lt_of_le hlt0 hw1, h1⟩
      exact ⟨hl1.alloc _, by simp, heap_alloc_new _ _⟩
    generalize w1.alloc (.cells #[.string f, .int .i64 mn, .int .i64 mx, .bool nm] 38) = W2 at LF ⊢
    generalize w1.heap.size = q at LF ⊢
    have HLF := Lib.hid LF
    obtain ⟨⟨⟨c0', c1', c2'⟩, _⟩, _, hrq⟩ := LF
    obtain ⟨f0, f1, f2, f3⟩ := formCells hrq
    clear hrq c0 c1 c2 hcw hfw d0 d1 d2 q1 q2
    go_wp2_with fail
    refine (implFits f mn mx nm k l s _ true HF.out).mono ?_
    rintro e w9 ⟨rfl, b9⟩
    have L9 := Lib.hid (HLF.out.below b9)
    clear c0' c1' c2' f0 f1 f2 f3 b9
    obtain ⟨⟨⟨c0, c1, c2⟩, _⟩, _, hr9⟩ := L9.out
    obtain ⟨f0, f1, f2, f3⟩ := formCells hr9
    clear hr9
    go_wp2_with fail
    go_region_held3 (fun w' => w'.cell? ⟨w.heap.size, 1, none⟩ = some (.int .i64 l) ∧ w'.cell? ⟨q, 0, none⟩ = some (.string f))
      (go_keep)
      ((go_at_call 16; refine (implDecIs l _ h0 h1 (HT.out _ (below_toDrew L9.out.1.2.2)) D hN.out).mono ?_; rintro e w10 ⟨rfl, b10⟩; have L10 := Lib.hid (L9.out.below (below_drewL b10)); obtain ⟨⟨⟨g0, g1, g2⟩, _⟩, _, hr10⟩ := L10.out; obtain ⟨e0, e1, e2, e3⟩ := formCells hr10; clear hr10 b10))
    go_wp2_with fail
    go_ret
    exact ⟨by rw [HR.out]; rfl, L10.out.1.2.2⟩
  · have LF : LayTF w w.heap.size w1.heap.size k l s f mn mx nm (w1.alloc (.cells #[.string f, .int .i64 mn, .int .i64 mx, .bool nm] 38)) := by
      have h0 := HB0.out.drew
      have h1 : Below w.heap.size w w1 := h0.trans (B1.out.mono h0.size)
      have hw1 : W0.heap.size ≤ w1.heap.size := B1.out.size
      have hl1 : Lay1 w w.heap.size k l s w1 := ⟨⟨d0, d1, d2⟩, Nat.lt_of_lt_of_le hlt0 hw1, h1⟩
      exact ⟨hl1.alloc _, by simp, heap_alloc_new _ _⟩
    generalize w1.alloc (.cells #[.string f, .int .i64 mn, .int .i64 mx, .bool nm] 38) = W2 at LF ⊢
    generalize w1.heap.size = q at LF ⊢
    have HLF := Lib.hid LF
    obtain ⟨⟨⟨c0', c1', c2'⟩, _⟩, _, hrq⟩ := LF
    obtain ⟨f0, f1, f2, f3⟩ := formCells hrq
    clear hrq c0 c1 c2 hcw hfw d0 d1 d2 q1 q2
    go_wp2_with fail
    refine (implFits f mn mx nm k l s _ true HF.out).mono ?_
    rintro e w9 ⟨rfl, b9⟩
    have L9 := Lib.hid (HLF.out.below b9)
    clear c0' c1' c2' f0 f1 f2 f3 b9
    obtain ⟨⟨⟨c0, c1, c2⟩, _⟩, _, hr9⟩ := L9.out
    obtain ⟨f0, f1, f2, f3⟩ := formCells hr9
    clear hr9
    go_wp2_with fail
    go_region_held3 (fun w' => w'.cell? ⟨w.heap.size, 1, none⟩ = some (.int .i64 l) ∧ w'.cell? ⟨q, 0, none⟩ = some (.string f))
      (go_keep)
      ((go_at_call 16; refine (implDecIs l _ h0 h1 (HT.out _ (below_toDrew L9.out.1.2.2)) D hN.out).mono ?_; rintro e w10 ⟨rfl, b10⟩; have L10 := Lib.hid (L9.out.below (below_drewL b10)); obtain ⟨⟨⟨g0, g1, g2⟩, _⟩, _, hr10⟩ := L10.out; obtain ⟨e0, e1, e2, e3⟩ := formCells hr10; clear hr10 b10))
    go_wp2_with fail
    go_ret
    exact ⟨by rw [HR.out]; rfl, L10.out.1.2.2⟩
  · have LF : LayTF w w.heap.size W0.heap.size k l s f mn mx nm ((((w1.setCell ⟨W0.heap.size, 0, none⟩ (.string f)).setCell ⟨W0.heap.size, 1, none⟩ (.int .i64 mn)).setCell ⟨W0.heap.size, 2, none⟩ (.int .i64 mx)).setCell ⟨W0.heap.size, 3, none⟩ (.bool nm)) := by
      have h0 := HB0.out.drew
      have h0a := h0.alloc h0.size (.cells #[.string ⟨#[]⟩, .int .i64 0, .int .i64 0, .bool false] 38)
      have h1 : Below w.heap.size w w1 := h0a.trans (B1.out.mono h0a.size)
      have hw1 : W0.heap.size + 1 ≤ w1.heap.size := by have := B1.out.size; simpa using this
      have hq : w.heap.size ≤ W0.heap.size := Nat.le_of_lt hlt0
      have hl1 : Lay1 w w.heap.size k l s w1 := ⟨⟨d0, d1, d2⟩, by omega, h1⟩
      have hrow : w1.heap[W0.heap.size]? = some (.cells #[.string ⟨#[]⟩, .int .i64 0, .int .i64 0, .bool false] 38 (0, 0)) := (B1.out.block W0.heap.size (by simp)).trans (heap_alloc_new W0.drew _)
      exact LayTF.set4 hl1 hrow (by omega) hq
    generalize (((w1.setCell ⟨W0.heap.size, 0, none⟩ (.string f)).setCell ⟨W0.heap.size, 1, none⟩ (.int .i64 mn)).setCell ⟨W0.heap.size, 2, none⟩ (.int .i64 mx)).setCell ⟨W0.heap.size, 3, none⟩ (.bool nm) = W2 at LF ⊢
    generalize W0.heap.size = q at LF ⊢
    have HLF := Lib.hid LF
    obtain ⟨⟨⟨c0', c1', c2'⟩, _⟩, _, hrq⟩ := LF
    obtain ⟨f0, f1, f2, f3⟩ := formCells hrq
    clear hrq c0 c1 c2 hcw hfw d0 d1 d2 q1 q2
    go_wp2_with fail
    refine (implFits f mn mx nm k l s _ true HF.out).mono ?_
    rintro e w9 ⟨rfl, b9⟩
    have L9 := Lib.hid (HLF.out.below b9)
    clear c0' c1' c2' f0 f1 f2 f3 b9
    obtain ⟨⟨⟨c0, c1, c2⟩, _⟩, _, hr9⟩ := L9.out
    obtain ⟨f0, f1, f2, f3⟩ := formCells hr9
    clear hr9
    go_wp2_with fail
    go_region_held3 (fun w' => w'.cell? ⟨w.heap.size, 1, none⟩ = some (.int .i64 l) ∧ w'.cell? ⟨q, 0, none⟩ = some (.string f))
      (go_keep)
      ((go_at_call 16; refine (implDecIs l _ h0 h1 (HT.out _ (below_toDrew L9.out.1.2.2)) D hN.out).mono ?_; rintro e w10 ⟨rfl, b10⟩; have L10 := Lib.hid (L9.out.below (below_drewL b10)); obtain ⟨⟨⟨g0, g1, g2⟩, _⟩, _, hr10⟩ := L10.out; obtain ⟨e0, e1, e2, e3⟩ := formCells hr10; clear hr10 b10))
    go_wp2_with fail
    go_ret
    exact ⟨by rw [HR.out]; rfl, L10.out.1.2.2⟩

end Go.Proofs.YtjjdcdnaonfnmaaGreatDoor

namespace Go.Proofs.YtjjdcdnaonfnmaaGreatDoor
open Go.RowKit

theorem implTypeTextW (k l : Int) (s : ByteArray) (w : World) (hs : s.size ≤ 1048576) (hk : (Lit.int .i64 k).wf = true)
    (HT : Hid (∀ W : World, Below w.heap.size w W → Lib.TabIs Tryz.prog W "internal/strconv.uint64pow10" .u64 Lib.pow10Tab)) (r : ByteArray) (hr : typeTextT k l s = r) :
    Calls Tryz.prog 6 #[.agg #[.int .i64 k, .int .i64 l, .string s]] w fun e w' => e = .returned (.string r) ∧ Below w.heap.size w w' := by
  by_cases hin : 0 ≤ k ∧ k ≤ 4
  · obtain ⟨f, mn, mx, nm, hf, hfit, hfz, hch, htx⟩ := typeText_eq k l s hin
    have hd : decide (0 ≤ k ∧ k ≤ 4) = true := decide_eq_true hin
    have HL : Hid (∀ (W : World) (b : Nat), W.ownsMap Tryz.prog 3 formR b 5 formsD → (Instr.lookup 40 (.map (some b)) (.int .i64 k) true).run Tryz.prog W = .ok (.tuple #[.agg #[.string f, .int .i64 mn, .int .i64 mx, .bool nm], .bool true]) W) :=
      fun W b h => by rw [lookForm h k hk, hf, hd]
    cases hok : typeOkB k l s with
    | false =>
      exact typeTextBad k l s w hs f mn mx nm hfz r HL (hfit.trans hok) (by unfold Hid; rw [← hr, typeTextT, if_pos hok])
    | true =>
      have ht := htx hok
      rw [hr] at ht
      unfold formText at ht
      by_cases hm : 0 < mx
      · have hl := hch hm hok
        rw [if_pos hm] at ht
        exact typeTextChar k l s w hs f mn mx nm hfz r HL (hfit.trans hok) (decide_eq_true hm) (by omega) (by omega) _ (dec_size l (by omega) (by omega)) rfl ht.symm HT
      · rw [if_neg hm] at ht
        cases nm with
        | true => exact typeTextEnum k l s w hs f mn mx hfz r HL (hfit.trans hok) (decide_eq_false hm) _ (nameT_size s) rfl ht.symm
        | false => exact typeTextWord k l s w hs f mn mx hfz r HL (hfit.trans hok) (decide_eq_false hm) ht.symm
  · have hd : decide (0 ≤ k ∧ k ≤ 4) = false := decide_eq_false hin
    have hf : formOf k = .agg #[.string ⟨#[]⟩, .int .i64 0, .int .i64 0, .bool false] := by
      unfold formOf
      rw [if_neg (by omega), if_neg (by omega), if_neg (by omega), if_neg (by omega), if_neg (by omega)]
      rfl
    have hok : typeOkB k l s = false := by rw [typeOkB, if_neg (by omega), if_neg (by omega), if_neg (by omega)]
    exact typeTextNone k l s w hs ⟨#[]⟩ 0 0 false (by decide) r (fun W b h => by rw [lookForm h k hk, hf, hd]) (by unfold Hid; rw [← hr, typeTextT, if_pos hok])

end Go.Proofs.YtjjdcdnaonfnmaaGreatDoor

namespace Go.Proofs.YtjjdcdnaonfnmaaGreatDoor
open Go.RowKit

def odds : List ByteArray := [⟨#[]⟩, ⟨#[97]⟩, ⟨#[65]⟩, ⟨#[49, 97]⟩, ⟨#[97, 34, 98]⟩, ⟨#[99, 97, 102, 195, 169]⟩, ⟨#[115, 101, 108, 101, 99, 116]⟩, ⟨#[97, 97, 97, 97, 97, 97, 97, 97, 97, 97, 97, 97, 97, 97, 97, 97, 97, 97, 97, 97, 97, 97, 97, 97, 97, 97, 97, 97, 97, 97, 97, 97, 97, 97, 97, 97, 97, 97, 97, 97]⟩, ⟨#[97, 97, 97, 97, 97, 97, 97, 97, 97, 97, 97, 97, 97, 97, 97, 97, 97, 97, 97, 97, 97, 97, 97, 97, 97, 97, 97, 97, 97, 97, 97, 97, 97, 97, 97, 97, 97, 97, 97, 97, 97]⟩, ⟨#[97, 0]⟩, ⟨#[95]⟩, ⟨#[32]⟩]
theorem odds_small : ∀ s ∈ odds, s.size ≤ 50 := by unfold odds; decide

set_option maxRecDepth 100000 in
set_option maxHeartbeats 1000000 in
theorem l03Odd {w0 : World} {a : Option Addr} {c : Nat} {l : List UInt8} {g : Nat} {w : World} (hd : Deck w0 a c l g w) :
    Calls Tryz.prog 31 #[.pointer (some ⟨g, 0, none⟩)] w (Drawn w0 a c l g w (fun v => ∃ s, v = .string s)) := by
  have D0 := (DG.start hd).alloc (.cells (odds.map Value.string).toArray 9)
  go_enter Tryz.func31, Tryz.ntmps31
  go_wp2_with fail
  refine (pickLit hd odds 12 rfl (fun s hs' => by have := odds_small s hs'; unfold maxLen; omega) (by decide) (by decide) _ rfl).mono ?_
  rintro e w2 ⟨v, ⟨u, rfl, _⟩, rfl, hd2, hg2⟩
  have HD2 := Lib.hid (D0.next hd2 hg2)
  clear hd2 hg2 D0
  go_wp2_with fail
  go_ret
  exact ⟨_, ⟨_, rfl⟩, rfl, HD2.out.1, HD2.out.2⟩

set_option maxRecDepth 100000 in
set_option maxHeartbeats 4000000 in
theorem l03AnyType {w0 : World} {a : Option Addr} {c : Nat} {l : List UInt8} {g : Nat} {w : World} (hd : Deck w0 a c l g w) :
    Calls Tryz.prog 13 #[.pointer (some ⟨g, 0, none⟩)] w (Drawn w0 a c l g w IsTy) := by
  have hw0 : w0.heap.size ≤ w.heap.size := hd.below.size
  have hgl := hd.lt
  have hne : w.heap.size ≠ g := by omega
  go_enter Tryz.func13, Tryz.ntmps13
  go_wp2_with fail
  refine (l03Type (hd.alloc _)).mono ?_
  rintro e w1 ⟨v, ⟨k, n, s, rfl⟩, rfl, hd1, hg1⟩
  have hsz1 : w.heap.size < w1.heap.size := by have := hg1.size; simp at this; omega
  have D1 := (((DG.start hd).alloc (.cells #[.int .i64 0, .int .i64 0, .string ⟨#[]⟩] 25)).next hd1 hg1).alloc (.cells #[.int .i64 k, .int .i64 n, .string s] 25)
  have R1 := ((tyRow_new w 0 0 ⟨#[]⟩).kept hg1 hne).alloc (.cells #[.int .i64 k, .int .i64 n, .string s] 25)
  have T1 := tyRow_new w1 k n s
  have Hd1 := Lib.hid (hd1.alloc (.cells #[.int .i64 k, .int .i64 n, .string s] 25))
  have hne1 : w1.heap.size ≠ g := by have := hd1.lt; omega
  have hle1 : w.heap.size ≤ w1.heap.size := by omega
  have HD1 := Lib.hid D1
  have HR1 := Lib.hid R1
  have HT1 := Lib.hid T1
  clear hd1 hg1 D1 R1 T1
  go_wp2_with fail
  refine (l01Below Hd1.out 10 (by omega) (by omega)).mono ?_
  rintro e w2 ⟨v, ⟨x, rfl, hx0, hx1⟩, rfl, hd2, hg2⟩
  have HD2 := Lib.hid (HD1.out.next hd2 hg2)
  have HR2 := Lib.hid (HR1.out.kept hg2 hne)
  have HT2 := Lib.hid (HT1.out.kept hg2 hne1)
  have Hd2 := Lib.hid hd2
  clear hd2 hg2 Hd1 HD1 HR1 HT1
  generalize w1.heap.size = T at hne1 hle1 hsz1 HT2 ⊢
  have hTR : ¬ T = w.heap.size := by omega
  have hRT : ¬ w.heap.size = T := by omega
  by_cases e0 : x = 0
  · subst e0
    go_wp2_with fail
    refine (l01Below Hd2.out 7 (by omega) (by omega)).mono ?_
    rintro e w3 ⟨v, ⟨y, rfl, hy0, hy1⟩, rfl, hd3, hg3⟩
    have HD3 := Lib.hid (HD2.out.next hd3 hg3)
    obtain ⟨c0, c1, c2, cf⟩ := (HR2.out.kept hg3 hne).cells
    obtain ⟨t0, t1, t2, tf⟩ := (HT2.out.kept hg3 hne1).cells
    clear hd3 hg3
    go_wp2_with fail
    have D := (((HD3.out.set hw0 hle1 hne1 0 (.int .i64 (y - 1))).set hw0 (Nat.le_refl _) hne 0 (.int .i64 (y - 1))).set hw0 (Nat.le_refl _) hne 1 (.int .i64 n)).set hw0 (Nat.le_refl _) hne 2 (.string s)
    refine bodyPost_ret (v := .agg #[.int .i64 (y - 1), .int .i64 n, .string s]) (by simp [results, Tryz.results13, go_sem, *]) rfl ⟨_, ⟨_, _, _, rfl⟩, rfl, D.1, D.2⟩
  · have n0 : (x == 0) = false := by rw [beq_eq_false_iff_ne]; exact e0
    by_cases e1 : x = 1
    · subst e1
      clear n0
      go_wp2_with fail
      refine (l01PickIntP (Hd2.out.alloc _) (fun _ => True) w2.heap.size 4 _ (heap_alloc_new _ _) (by have := Hd2.out.lt; omega) rfl (by omega) (by omega) ?_).mono ?_
      · intro k v hv
        have hm := Array.mem_of_getElem? hv
        simp only [List.mem_toArray, List.mem_cons, List.not_mem_nil, or_false] at hm
        rcases hm with rfl | rfl | rfl | rfl <;> exact ⟨_, rfl, trivial⟩
      · rintro e w3 ⟨v, ⟨y, rfl, _⟩, rfl, hd3, hg3⟩
        have HD3 := Lib.hid ((HD2.out.alloc _).next hd3 hg3)
        obtain ⟨c0, c1, c2, cf⟩ := ((HR2.out.alloc _).kept hg3 hne).cells
        obtain ⟨t0, t1, t2, tf⟩ := ((HT2.out.alloc _).kept hg3 hne1).cells
        clear hd3 hg3
        go_wp2_with fail
        have D := (((HD3.out.set hw0 hle1 hne1 1 (.int .i64 y)).set hw0 (Nat.le_refl _) hne 0 (.int .i64 k)).set hw0 (Nat.le_refl _) hne 1 (.int .i64 y)).set hw0 (Nat.le_refl _) hne 2 (.string s)
        refine bodyPost_ret (v := .agg #[.int .i64 k, .int .i64 y, .string s]) (by simp [results, Tryz.results13, go_sem, *]) rfl ⟨_, ⟨_, _, _, rfl⟩, rfl, D.1, D.2⟩
    · have n1 : (x == 1) = false := by rw [beq_eq_false_iff_ne]; exact e1
      by_cases e2 : x = 2
      · subst e2
        clear n0 n1
        go_wp2_with fail
        refine (l03Odd Hd2.out).mono ?_
        rintro e w3 ⟨v, ⟨u, rfl⟩, rfl, hd3, hg3⟩
        have HD3 := Lib.hid (HD2.out.next hd3 hg3)
        obtain ⟨c0, c1, c2, cf⟩ := (HR2.out.kept hg3 hne).cells
        obtain ⟨t0, t1, t2, tf⟩ := (HT2.out.kept hg3 hne1).cells
        clear hd3 hg3
        go_wp2_with fail
        have D := (((HD3.out.set hw0 hle1 hne1 2 (.string u)).set hw0 (Nat.le_refl _) hne 0 (.int .i64 k)).set hw0 (Nat.le_refl _) hne 1 (.int .i64 n)).set hw0 (Nat.le_refl _) hne 2 (.string u)
        refine bodyPost_ret (v := .agg #[.int .i64 k, .int .i64 n, .string u]) (by simp [results, Tryz.results13, go_sem, *]) rfl ⟨_, ⟨_, _, _, rfl⟩, rfl, D.1, D.2⟩
      · have n2 : (x == 2) = false := by rw [beq_eq_false_iff_ne]; exact e2
        clear e0 e1 e2
        obtain ⟨c0, c1, c2, cf⟩ := HR2.out.cells
        obtain ⟨t0, t1, t2, tf⟩ := HT2.out.cells
        go_wp2_with fail
        have D := ((HD2.out.set hw0 (Nat.le_refl _) hne 0 (.int .i64 k)).set hw0 (Nat.le_refl _) hne 1 (.int .i64 n)).set hw0 (Nat.le_refl _) hne 2 (.string s)
        refine bodyPost_ret (v := .agg #[.int .i64 k, .int .i64 n, .string s]) (by simp [results, Tryz.results13, go_sem, *]) rfl ⟨_, ⟨_, _, _, rfl⟩, rfl, D.1, D.2⟩

end Go.Proofs.YtjjdcdnaonfnmaaGreatDoor

namespace Go.Proofs.YtjjdcdnaonfnmaaGreatDoor
open Go.RowKit

theorem gcells {W W' : World} {g : Nat} (hg : W.grownBy W' (some g)) : (∀ b o, b < W.heap.size → ¬ b = g → W'.cell? ⟨b, o, none⟩ = W.cell? ⟨b, o, none⟩) ∧ (∀ b o, b < W.heap.size → ¬ b = g → W'.frozen? ⟨b, o, none⟩ = W.frozen? ⟨b, o, none⟩) := by
  have hb : ∀ b, b < W.heap.size → ¬ b = g → W'.heap[b]? = W.heap[b]? := fun b h hne => hg.block b h (fun e => hne (by cases e; rfl))
  refine ⟨fun b o h hne => World.cell?_of_block (w := W) (w' := W') (a := ⟨b, o, none⟩) (hb b h hne), fun b o h hne => ?_⟩
  unfold World.frozen?
  rw [hb b h hne]

theorem below_store {B : Nat} {w0 w : World} (h : Below B w0 w) {q j : Nat} {v : Value} (hq : B ≤ q) (hB : B ≤ w.heap.size) : Below B w0 (w.setCell ⟨q, j, none⟩ v) :=
  h.grown (grown_set w q j v) hB (fun k hk => by cases hk; exact hq)

theorem set_size (W : World) (a : Addr) (v : Value) : (W.setCell a v).heap.size = W.heap.size := by simp [World.setCell]

/-- Three stores into a block of the call's own. -/
theorem below_store3 {B : Nat} {w0 w : World} (h : Below B w0 w) {q : Nat} {v0 v1 v2 : Value} (hq : B ≤ q) (hB : B ≤ w.heap.size) : Below B w0 (((w.setCell ⟨q, 0, none⟩ v0).setCell ⟨q, 1, none⟩ v1).setCell ⟨q, 2, none⟩ v2) :=
  below_store (below_store (below_store h hq hB) hq (by rw [set_size]; exact hB)) hq (by rw [set_size, set_size]; exact hB)

theorem Deck.set3 {w0 : World} {a : Option Addr} {c : Nat} {l : List UInt8} {g : Nat} {w : World} (h : Deck w0 a c l g w) {q : Nat} (hq : w0.heap.size ≤ q) (hne : q ≠ g) (v0 v1 v2 : Value) : Deck w0 a c l g (((w.setCell ⟨q, 0, none⟩ v0).setCell ⟨q, 1, none⟩ v1).setCell ⟨q, 2, none⟩ v2) :=
  ((h.kept (grown_set w q 0 v0) (fun k hk => by cases hk; exact ⟨hq, hne⟩)).kept (grown_set _ q 1 v1) (fun k hk => by cases hk; exact ⟨hq, hne⟩)).kept (grown_set _ q 2 v2) (fun k hk => by cases hk; exact ⟨hq, hne⟩)

theorem Deck.rebase {w W : World} {a : Option Addr} {c : Nat} {l : List UInt8} {g : Nat} {w1 : World} (h : Deck W a c l g w1) (hb : Bytes w a c l) (hB : Below w.heap.size w W) : Deck w a c l g w1 :=
  ⟨hb, h.short, hB.trans (h.below.mono hB.size), Nat.le_trans hB.size h.new, h.cur⟩

theorem drew_size (W : World) : W.drew.heap.size = W.heap.size := rfl

end Go.Proofs.YtjjdcdnaonfnmaaGreatDoor
