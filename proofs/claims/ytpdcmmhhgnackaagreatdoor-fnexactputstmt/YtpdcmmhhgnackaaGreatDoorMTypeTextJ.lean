/- impl.TypeText: the types with a length or a name. -/
/- impl.TypeText, all of its cases, in a world that holds the tables. -/
/- How the program writes a column. -/
/- How a statement is written. Nothing of the program. Written by tools/gen_ps.py. -/
import Derived.Test.YtpdcmmhhgnackaaGreatDoorMTxtJ
import Derived.Test.YtpdcmmhhgnackaaGreatDoorMTxtI
import Derived.Test.YtpdcmmhhgnackaaGreatDoorMOkW
import Derived.Test.YtpdcmmhhgnackaaGreatDoorMStAg
namespace Go.Proofs.YtpdcmmhhgnackaaGreatDoor
open Go.RowKit

set_option maxHeartbeats 8000000 in
theorem typeTextEnum (k l : Int) (s : ByteArray) (w : World) (hs : s.size ≤ 1048576) (f : ByteArray) (mn mx : Int) (hfz : f.size ≤ 10) (r : ByteArray)
    (HL : Hid (∀ (W : World) (b : Nat), W.ownsMap Tryz.prog 3 formR b 5 formsD → (Instr.lookup 116 (.map (some b)) (.int .i64 k) true).run Tryz.prog W = .ok (.tuple #[.agg #[.string f, .int .i64 mn, .int .i64 mx, .bool true], .bool true]) W))
    (HF : Hid (fitsB mn mx true l s = true)) (hmx : decide (0 < mx) = false) (N : ByteArray) (hz : N.size ≤ 2 * s.size + 2) (hN : Hid (nameT s = N)) (HR : Hid (r = f ++ ⟨#[32]⟩ ++ N))
    : Calls Tryz.prog 31 #[.agg #[.int .i64 k, .int .i64 l, .string s]] w fun e w' => e = .returned (.string r) ∧ Below w.heap.size w w' := by
  have hlay := Lib.hid (lay1_new w 29 k l s)
  have ad1 : ∀ w, (Op.stringOp .add f ⟨#[32]⟩).run Tryz.prog w = .ok (.string (f ++ ⟨#[32]⟩)) w := fun w => run_string_add_sum w _ _ (by have o1 : (ByteArray.mk #[32]).size = 1 := rfl; have o2 : (ByteArray.mk #[40]).size = 1 := rfl; have o3 : (ByteArray.mk #[41]).size = 1 := rfl; (try rw [ByteArray.size_append]); (try rw [ByteArray.size_append]); omega)
  have ad2 : ∀ w, (Op.stringOp .add (f ++ ⟨#[32]⟩) N).run Tryz.prog w = .ok (.string (f ++ ⟨#[32]⟩ ++ N)) w := fun w => run_string_add_sum w _ _ (by have o1 : (ByteArray.mk #[32]).size = 1 := rfl; have o2 : (ByteArray.mk #[40]).size = 1 := rfl; have o3 : (ByteArray.mk #[41]).size = 1 := rfl; (try rw [ByteArray.size_append]); (try rw [ByteArray.size_append]); omega)
  have ae1 : ∀ w, (binOp .add 9 (.string f) (.string ⟨#[32]⟩)).run Tryz.prog w = .ok (.string (f ++ ⟨#[32]⟩)) w := fun w => by simp [binOp, ad1]
  have ae2 : ∀ w, (binOp .add 9 (.string (f ++ ⟨#[32]⟩)) (.string N)).run Tryz.prog w = .ok (.string (f ++ ⟨#[32]⟩ ++ N)) w := fun w => by simp [binOp, ad2]
  go_enter Tryz.func31, Tryz.ntmps31
  go_wp2_with fail
  generalize w.alloc (.cells #[.int .i64 k, .int .i64 l, .string s] 29) = W0 at hlay ⊢
  obtain ⟨⟨c0, c1, c2⟩, hlt0, hb0⟩ := hlay.out
  have hne : ¬ W0.heap.size = w.heap.size := by omega
  have hne' : ¬ w.heap.size = W0.heap.size := by omega
  have hst : Hid (∀ a b : World, W0.heap.size ≤ a.heap.size → (a.cell? ⟨w.heap.size, 0, none⟩ = some (.int .i64 k) ∧ a.cell? ⟨w.heap.size, 1, none⟩ = some (.int .i64 l) ∧ a.cell? ⟨w.heap.size, 2, none⟩ = some (.string s)) → Below a.heap.size a b → (b.cell? ⟨w.heap.size, 0, none⟩ = some (.int .i64 k) ∧ b.cell? ⟨w.heap.size, 1, none⟩ = some (.int .i64 l) ∧ b.cell? ⟨w.heap.size, 2, none⟩ = some (.string s))) :=
    fun a b hle h hb => ⟨(hb.cell (p := ⟨w.heap.size, 0, none⟩) (Nat.lt_of_lt_of_le hlt0 hle)).trans h.1, (hb.cell (p := ⟨w.heap.size, 1, none⟩) (Nat.lt_of_lt_of_le hlt0 hle)).trans h.2.1, (hb.cell (p := ⟨w.heap.size, 2, none⟩) (Nat.lt_of_lt_of_le hlt0 hle)).trans h.2.2⟩
  have HB0 := Lib.hid hb0
  clear hb0
  go_region_held3 (fun w' => w'.cell? ⟨w.heap.size, 0, none⟩ = some (.int .i64 k) ∧ w'.cell? ⟨w.heap.size, 1, none⟩ = some (.int .i64 l) ∧ w'.cell? ⟨w.heap.size, 2, none⟩ = some (.string s))
    (go_keep)
    ((go_at_call 80; refine (implForms _).mono ?_; rintro e w1 ⟨rfl, o1, b1⟩; have q1 := HL.out _ _ o1; have q2 := fun o => HL.out _ _ (World.ownsMap.alloc o1 o); obtain ⟨hcw, hfw⟩ := blockCells b1; (try simp only [World.size_alloc, drew_heap] at q1 q2); obtain ⟨d0, d1, d2⟩ := hst.out _ _ (by simp) (by assumption) b1; have O1 := Lib.hid o1; have B1 := Lib.hid b1; clear o1 b1))
  · have LF : LayTF w w.heap.size w1.heap.size k l s f mn mx true (w1.alloc (.cells #[.string f, .int .i64 mn, .int .i64 mx, .bool true] 114)) := by
      have h0 := HB0.out.drew
      have h1 : Below w.heap.size w w1 := h0.trans (B1.out.mono h0.size)
      have hw1 : W0.heap.size ≤ w1.heap.size := B1.out.size
      have hl1 : Lay1 w w.heap.size k l s w1 := ⟨⟨d0, d1, d2⟩, Nat.lt_of_lt_of_le hlt0 hw1, h1⟩
      exact ⟨hl1.alloc _, by simp, heap_alloc_new _ _⟩
    generalize w1.alloc (.cells #[.string f, .int .i64 mn, .int .i64 mx, .bool true] 114) = W2 at LF ⊢
    generalize w1.heap.size = q at LF ⊢
    have HLF := Lib.hid LF
    obtain ⟨⟨⟨c0', c1', c2'⟩, _⟩, _, hrq⟩ := LF
    obtain ⟨f0, f1, f2, f3⟩ := formCells hrq
    clear hrq c0 c1 c2 hcw hfw d0 d1 d2 q1 q2
    go_wp2_with fail
    refine (implFits f mn mx true k l s _ true HF.out).mono ?_
    rintro e w9 ⟨rfl, b9⟩
    have L9 := Lib.hid (HLF.out.below b9)
    clear c0' c1' c2' f0 f1 f2 f3 b9
    obtain ⟨⟨⟨c0, c1, c2⟩, _⟩, _, hr9⟩ := L9.out
    obtain ⟨f0, f1, f2, f3⟩ := formCells hr9
    clear hr9
    go_wp2_with fail
    go_region_held3 (fun w' => w'.cell? ⟨w.heap.size, 2, none⟩ = some (.string s) ∧ w'.cell? ⟨q, 0, none⟩ = some (.string f))
      (go_keep)
      ((go_at_call 30; refine (implPutName s _ hs N hN.out).mono ?_; rintro e w10 ⟨rfl, b10⟩; have L10 := Lib.hid (L9.out.below (below_drewL b10)); obtain ⟨⟨⟨g0, g1, g2⟩, _⟩, _, hr10⟩ := L10.out; obtain ⟨e0, e1, e2, e3⟩ := formCells hr10; clear hr10 b10))
    go_wp2_with fail
    go_ret
    exact ⟨by rw [HR.out]; rfl, L10.out.1.2.2⟩
  · have LF : LayTF w w.heap.size w1.heap.size k l s f mn mx true (w1.alloc (.cells #[.string f, .int .i64 mn, .int .i64 mx, .bool true] 114)) := by
      have h0 := HB0.out.drew
      have h1 : Below w.heap.size w w1 := h0.trans (B1.out.mono h0.size)
      have hw1 : W0.heap.size ≤ w1.heap.size := B1.out.size
      have hl1 : Lay1 w w.heap.size k l s w1 := ⟨⟨d0, d1, d2⟩, Nat.lt_of_lt_of_le hlt0 hw1, h1⟩
      exact ⟨hl1.alloc _, by simp, heap_alloc_new _ _⟩
    generalize w1.alloc (.cells #[.string f, .int .i64 mn, .int .i64 mx, .bool true] 114) = W2 at LF ⊢
    generalize w1.heap.size = q at LF ⊢
    have HLF := Lib.hid LF
    obtain ⟨⟨⟨c0', c1', c2'⟩, _⟩, _, hrq⟩ := LF
    obtain ⟨f0, f1, f2, f3⟩ := formCells hrq
    clear hrq c0 c1 c2 hcw hfw d0 d1 d2 q1 q2
    go_wp2_with fail
    refine (implFits f mn mx true k l s _ true HF.out).mono ?_
    rintro e w9 ⟨rfl, b9⟩
    have L9 := Lib.hid (HLF.out.below b9)
    clear c0' c1' c2' f0 f1 f2 f3 b9
    obtain ⟨⟨⟨c0, c1, c2⟩, _⟩, _, hr9⟩ := L9.out
    obtain ⟨f0, f1, f2, f3⟩ := formCells hr9
    clear hr9
    go_wp2_with fail
    go_region_held3 (fun w' => w'.cell? ⟨w.heap.size, 2, none⟩ = some (.string s) ∧ w'.cell? ⟨q, 0, none⟩ = some (.string f))
      (go_keep)
      ((go_at_call 30; refine (implPutName s _ hs N hN.out).mono ?_; rintro e w10 ⟨rfl, b10⟩; have L10 := Lib.hid (L9.out.below (below_drewL b10)); obtain ⟨⟨⟨g0, g1, g2⟩, _⟩, _, hr10⟩ := L10.out; obtain ⟨e0, e1, e2, e3⟩ := formCells hr10; clear hr10 b10))
    go_wp2_with fail
    go_ret
    exact ⟨by rw [HR.out]; rfl, L10.out.1.2.2⟩
  · have LF : LayTF w w.heap.size W0.heap.size k l s f mn mx true ((((w1.setCell ⟨W0.heap.size, 0, none⟩ (.string f)).setCell ⟨W0.heap.size, 1, none⟩ (.int .i64 mn)).setCell ⟨W0.heap.size, 2, none⟩ (.int .i64 mx)).setCell ⟨W0.heap.size, 3, none⟩ (.bool true)) := by
      have h0 := HB0.out.drew
      have h0a := h0.alloc h0.size (.cells #[.string ⟨#[]⟩, .int .i64 0, .int .i64 0, .bool false] 114)
      have h1 : Below w.heap.size w w1 := h0a.trans (B1.out.mono h0a.size)
      have hw1 : W0.heap.size + 1 ≤ w1.heap.size := by have := B1.out.size; simpa using this
      have hq : w.heap.size ≤ W0.heap.size := Nat.le_of_lt hlt0
      have hl1 : Lay1 w w.heap.size k l s w1 := ⟨⟨d0, d1, d2⟩, by omega, h1⟩
      have hrow : w1.heap[W0.heap.size]? = some (.cells #[.string ⟨#[]⟩, .int .i64 0, .int .i64 0, .bool false] 114 (0, 0)) := (B1.out.block W0.heap.size (by simp)).trans (heap_alloc_new W0.drew _)
      exact LayTF.set4 hl1 hrow (by omega) hq
    generalize (((w1.setCell ⟨W0.heap.size, 0, none⟩ (.string f)).setCell ⟨W0.heap.size, 1, none⟩ (.int .i64 mn)).setCell ⟨W0.heap.size, 2, none⟩ (.int .i64 mx)).setCell ⟨W0.heap.size, 3, none⟩ (.bool true) = W2 at LF ⊢
    generalize W0.heap.size = q at LF ⊢
    have HLF := Lib.hid LF
    obtain ⟨⟨⟨c0', c1', c2'⟩, _⟩, _, hrq⟩ := LF
    obtain ⟨f0, f1, f2, f3⟩ := formCells hrq
    clear hrq c0 c1 c2 hcw hfw d0 d1 d2 q1 q2
    go_wp2_with fail
    refine (implFits f mn mx true k l s _ true HF.out).mono ?_
    rintro e w9 ⟨rfl, b9⟩
    have L9 := Lib.hid (HLF.out.below b9)
    clear c0' c1' c2' f0 f1 f2 f3 b9
    obtain ⟨⟨⟨c0, c1, c2⟩, _⟩, _, hr9⟩ := L9.out
    obtain ⟨f0, f1, f2, f3⟩ := formCells hr9
    clear hr9
    go_wp2_with fail
    go_region_held3 (fun w' => w'.cell? ⟨w.heap.size, 2, none⟩ = some (.string s) ∧ w'.cell? ⟨q, 0, none⟩ = some (.string f))
      (go_keep)
      ((go_at_call 30; refine (implPutName s _ hs N hN.out).mono ?_; rintro e w10 ⟨rfl, b10⟩; have L10 := Lib.hid (L9.out.below (below_drewL b10)); obtain ⟨⟨⟨g0, g1, g2⟩, _⟩, _, hr10⟩ := L10.out; obtain ⟨e0, e1, e2, e3⟩ := formCells hr10; clear hr10 b10))
    go_wp2_with fail
    go_ret
    exact ⟨by rw [HR.out]; rfl, L10.out.1.2.2⟩

set_option maxHeartbeats 8000000 in
theorem typeTextChar (k l : Int) (s : ByteArray) (w : World) (hs : s.size ≤ 1048576) (f : ByteArray) (mn mx : Int) (nm : Bool) (hfz : f.size ≤ 10) (r : ByteArray)
    (HL : Hid (∀ (W : World) (b : Nat), W.ownsMap Tryz.prog 3 formR b 5 formsD → (Instr.lookup 116 (.map (some b)) (.int .i64 k) true).run Tryz.prog W = .ok (.tuple #[.agg #[.string f, .int .i64 mn, .int .i64 mx, .bool nm], .bool true]) W))
    (HF : Hid (fitsB mn mx nm l s = true)) (hmx : decide (0 < mx) = true) (h0 : -9223372036854775808 ≤ l) (h1 : l ≤ 9223372036854775807) (D : ByteArray) (hz : D.size ≤ 21) (hN : Hid (dec l = D)) (HR : Hid (r = f ++ ⟨#[40]⟩ ++ D ++ ⟨#[41]⟩))
    (HT : Hid (∀ W : World, Below w.heap.size w W → Lib.TabIs Tryz.prog W "internal/strconv.uint64pow10" .u64 Lib.pow10Tab))
    : Calls Tryz.prog 31 #[.agg #[.int .i64 k, .int .i64 l, .string s]] w fun e w' => e = .returned (.string r) ∧ Below w.heap.size w w' := by
  have hlay := Lib.hid (lay1_new w 29 k l s)
  have ad1 : ∀ w, (Op.stringOp .add f ⟨#[40]⟩).run Tryz.prog w = .ok (.string (f ++ ⟨#[40]⟩)) w := fun w => run_string_add_sum w _ _ (by have o1 : (ByteArray.mk #[32]).size = 1 := rfl; have o2 : (ByteArray.mk #[40]).size = 1 := rfl; have o3 : (ByteArray.mk #[41]).size = 1 := rfl; (try rw [ByteArray.size_append]); (try rw [ByteArray.size_append]); omega)
  have ad2 : ∀ w, (Op.stringOp .add (f ++ ⟨#[40]⟩) D).run Tryz.prog w = .ok (.string (f ++ ⟨#[40]⟩ ++ D)) w := fun w => run_string_add_sum w _ _ (by have o1 : (ByteArray.mk #[32]).size = 1 := rfl; have o2 : (ByteArray.mk #[40]).size = 1 := rfl; have o3 : (ByteArray.mk #[41]).size = 1 := rfl; (try rw [ByteArray.size_append]); (try rw [ByteArray.size_append]); omega)
  have ad3 : ∀ w, (Op.stringOp .add (f ++ ⟨#[40]⟩ ++ D) ⟨#[41]⟩).run Tryz.prog w = .ok (.string (f ++ ⟨#[40]⟩ ++ D ++ ⟨#[41]⟩)) w := fun w => run_string_add_sum w _ _ (by have o1 : (ByteArray.mk #[32]).size = 1 := rfl; have o2 : (ByteArray.mk #[40]).size = 1 := rfl; have o3 : (ByteArray.mk #[41]).size = 1 := rfl; (try rw [ByteArray.size_append]); (try rw [ByteArray.size_append]); omega)
  have ae1 : ∀ w, (binOp .add 9 (.string f) (.string ⟨#[40]⟩)).run Tryz.prog w = .ok (.string (f ++ ⟨#[40]⟩)) w := fun w => by simp [binOp, ad1]
  have ae2 : ∀ w, (binOp .add 9 (.string (f ++ ⟨#[40]⟩)) (.string D)).run Tryz.prog w = .ok (.string (f ++ ⟨#[40]⟩ ++ D)) w := fun w => by simp [binOp, ad2]
  have ae3 : ∀ w, (binOp .add 9 (.string (f ++ ⟨#[40]⟩ ++ D)) (.string ⟨#[41]⟩)).run Tryz.prog w = .ok (.string (f ++ ⟨#[40]⟩ ++ D ++ ⟨#[41]⟩)) w := fun w => by simp [binOp, ad3]
  go_enter Tryz.func31, Tryz.ntmps31
  go_wp2_with fail
  generalize w.alloc (.cells #[.int .i64 k, .int .i64 l, .string s] 29) = W0 at hlay ⊢
  obtain ⟨⟨c0, c1, c2⟩, hlt0, hb0⟩ := hlay.out
  have hne : ¬ W0.heap.size = w.heap.size := by omega
  have hne' : ¬ w.heap.size = W0.heap.size := by omega
  have hst : Hid (∀ a b : World, W0.heap.size ≤ a.heap.size → (a.cell? ⟨w.heap.size, 0, none⟩ = some (.int .i64 k) ∧ a.cell? ⟨w.heap.size, 1, none⟩ = some (.int .i64 l) ∧ a.cell? ⟨w.heap.size, 2, none⟩ = some (.string s)) → Below a.heap.size a b → (b.cell? ⟨w.heap.size, 0, none⟩ = some (.int .i64 k) ∧ b.cell? ⟨w.heap.size, 1, none⟩ = some (.int .i64 l) ∧ b.cell? ⟨w.heap.size, 2, none⟩ = some (.string s))) :=
    fun a b hle h hb => ⟨(hb.cell (p := ⟨w.heap.size, 0, none⟩) (Nat.lt_of_lt_of_le hlt0 hle)).trans h.1, (hb.cell (p := ⟨w.heap.size, 1, none⟩) (Nat.lt_of_lt_of_le hlt0 hle)).trans h.2.1, (hb.cell (p := ⟨w.heap.size, 2, none⟩) (Nat.lt_of_lt_of_le hlt0 hle)).trans h.2.2⟩
  have HB0 := Lib.hid hb0
  clear hb0
  go_region_held3 (fun w' => w'.cell? ⟨w.heap.size, 0, none⟩ = some (.int .i64 k) ∧ w'.cell? ⟨w.heap.size, 1, none⟩ = some (.int .i64 l) ∧ w'.cell? ⟨w.heap.size, 2, none⟩ = some (.string s))
    (go_keep)
    ((go_at_call 80; refine (implForms _).mono ?_; rintro e w1 ⟨rfl, o1, b1⟩; have q1 := HL.out _ _ o1; have q2 := fun o => HL.out _ _ (World.ownsMap.alloc o1 o); obtain ⟨hcw, hfw⟩ := blockCells b1; (try simp only [World.size_alloc, drew_heap] at q1 q2); obtain ⟨d0, d1, d2⟩ := hst.out _ _ (by simp) (by assumption) b1; have O1 := Lib.hid o1; have B1 := Lib.hid b1; clear o1 b1))
  · have LF : LayTF w w.heap.size w1.heap.size k l s f mn mx nm (w1.alloc (.cells #[.string f, .int .i64 mn, .int .i64 mx, .bool nm] 114)) := by
      have h0 := HB0.out.drew
      have h1 : Below w.heap.size w w1 := h0.trans (B1.out.mono h0.size)
      have hw1 : W0.heap.size ≤ w1.heap.size := B1.out.size
      have hl1 : Lay1 w w.heap.size k l s w1 := ⟨⟨d0, d1, d2⟩, Nat.lt_of_lt_of_le hlt0 hw1, h1⟩
      exact ⟨hl1.alloc _, by simp, heap_alloc_new _ _⟩
    generalize w1.alloc (.cells #[.string f, .int .i64 mn, .int .i64 mx, .bool nm] 114) = W2 at LF ⊢
    generalize w1.heap.size = q at LF ⊢
    have HLF := Lib.hid LF
    obtain ⟨⟨⟨c0', c1', c2'⟩, _⟩, _, hrq⟩ := LF
    obtain ⟨f0, f1, f2, f3⟩ := formCells hrq
    clear hrq c0 c1 c2 hcw hfw d0 d1 d2 q1 q2
    go_wp2_with fail
    refine (implFits f mn mx nm k l s _ true HF.out).mono ?_
    rintro e w9 ⟨rfl, b9⟩
    have L9 := Lib.hid (HLF.out.below b9)
    clear c0' c1' c2' f0 f1 f2 f3 b9
    obtain ⟨⟨⟨c0, c1, c2⟩, _⟩, _, hr9⟩ := L9.out
    obtain ⟨f0, f1, f2, f3⟩ := formCells hr9
    clear hr9
    go_wp2_with fail
    go_region_held3 (fun w' => w'.cell? ⟨w.heap.size, 1, none⟩ = some (.int .i64 l) ∧ w'.cell? ⟨q, 0, none⟩ = some (.string f))
      (go_keep)
      ((go_at_call 82; refine (implDecIs l _ h0 h1 (HT.out _ (below_toDrew L9.out.1.2.2)) D hN.out).mono ?_; rintro e w10 ⟨rfl, b10⟩; have L10 := Lib.hid (L9.out.below (below_drewL b10)); obtain ⟨⟨⟨g0, g1, g2⟩, _⟩, _, hr10⟩ := L10.out; obtain ⟨e0, e1, e2, e3⟩ := formCells hr10; clear hr10 b10))
    go_wp2_with fail
    go_ret
    exact ⟨by rw [HR.out]; rfl, L10.out.1.2.2⟩
  · have LF : LayTF w w.heap.size w1.heap.size k l s f mn mx nm (w1.alloc (.cells #[.string f, .int .i64 mn, .int .i64 mx, .bool nm] 114)) := by
      have h0 := HB0.out.drew
      have h1 : Below w.heap.size w w1 := h0.trans (B1.out.mono h0.size)
      have hw1 : W0.heap.size ≤ w1.heap.size := B1.out.size
      have hl1 : Lay1 w w.heap.size k l s w1 := ⟨⟨d0, d1, d2⟩, Nat.lt_of_lt_of_le hlt0 hw1, h1⟩
      exact ⟨hl1.alloc _, by simp, heap_alloc_new _ _⟩
    generalize w1.alloc (.cells #[.string f, .int .i64 mn, .int .i64 mx, .bool nm] 114) = W2 at LF ⊢
    generalize w1.heap.size = q at LF ⊢
    have HLF := Lib.hid LF
    obtain ⟨⟨⟨c0', c1', c2'⟩, _⟩, _, hrq⟩ := LF
    obtain ⟨f0, f1, f2, f3⟩ := formCells hrq
    clear hrq c0 c1 c2 hcw hfw d0 d1 d2 q1 q2
    go_wp2_with fail
    refine (implFits f mn mx nm k l s _ true HF.out).mono ?_
    rintro e w9 ⟨rfl, b9⟩
    have L9 := Lib.hid (HLF.out.below b9)
    clear c0' c1' c2' f0 f1 f2 f3 b9
    obtain ⟨⟨⟨c0, c1, c2⟩, _⟩, _, hr9⟩ := L9.out
    obtain ⟨f0, f1, f2, f3⟩ := formCells hr9
    clear hr9
    go_wp2_with fail
    go_region_held3 (fun w' => w'.cell? ⟨w.heap.size, 1, none⟩ = some (.int .i64 l) ∧ w'.cell? ⟨q, 0, none⟩ = some (.string f))
      (go_keep)
      ((go_at_call 82; refine (implDecIs l _ h0 h1 (HT.out _ (below_toDrew L9.out.1.2.2)) D hN.out).mono ?_; rintro e w10 ⟨rfl, b10⟩; have L10 := Lib.hid (L9.out.below (below_drewL b10)); obtain ⟨⟨⟨g0, g1, g2⟩, _⟩, _, hr10⟩ := L10.out; obtain ⟨e0, e1, e2, e3⟩ := formCells hr10; clear hr10 b10))
    go_wp2_with fail
    go_ret
    exact ⟨by rw [HR.out]; rfl, L10.out.1.2.2⟩
  · have LF : LayTF w w.heap.size W0.heap.size k l s f mn mx nm ((((w1.setCell ⟨W0.heap.size, 0, none⟩ (.string f)).setCell ⟨W0.heap.size, 1, none⟩ (.int .i64 mn)).setCell ⟨W0.heap.size, 2, none⟩ (.int .i64 mx)).setCell ⟨W0.heap.size, 3, none⟩ (.bool nm)) := by
      have h0 := HB0.out.drew
      have h0a := h0.alloc h0.size (.cells #[.string ⟨#[]⟩, .int .i64 0, .int .i64 0, .bool false] 114)
      have h1 : Below w.heap.size w w1 := h0a.trans (B1.out.mono h0a.size)
      have hw1 : W0.heap.size + 1 ≤ w1.heap.size := by have := B1.out.size; simpa using this
      have hq : w.heap.size ≤ W0.heap.size := Nat.le_of_lt hlt0
      have hl1 : Lay1 w w.heap.size k l s w1 := ⟨⟨d0, d1, d2⟩, by omega, h1⟩
      have hrow : w1.heap[W0.heap.size]? = some (.cells #[.string ⟨#[]⟩, .int .i64 0, .int .i64 0, .bool false] 114 (0, 0)) := (B1.out.block W0.heap.size (by simp)).trans (heap_alloc_new W0.drew _)
      exact LayTF.set4 hl1 hrow (by omega) hq
    generalize (((w1.setCell ⟨W0.heap.size, 0, none⟩ (.string f)).setCell ⟨W0.heap.size, 1, none⟩ (.int .i64 mn)).setCell ⟨W0.heap.size, 2, none⟩ (.int .i64 mx)).setCell ⟨W0.heap.size, 3, none⟩ (.bool nm) = W2 at LF ⊢
    generalize W0.heap.size = q at LF ⊢
    have HLF := Lib.hid LF
    obtain ⟨⟨⟨c0', c1', c2'⟩, _⟩, _, hrq⟩ := LF
    obtain ⟨f0, f1, f2, f3⟩ := formCells hrq
    clear hrq c0 c1 c2 hcw hfw d0 d1 d2 q1 q2
    go_wp2_with fail
    refine (implFits f mn mx nm k l s _ true HF.out).mono ?_
    rintro e w9 ⟨rfl, b9⟩
    have L9 := Lib.hid (HLF.out.below b9)
    clear c0' c1' c2' f0 f1 f2 f3 b9
    obtain ⟨⟨⟨c0, c1, c2⟩, _⟩, _, hr9⟩ := L9.out
    obtain ⟨f0, f1, f2, f3⟩ := formCells hr9
    clear hr9
    go_wp2_with fail
    go_region_held3 (fun w' => w'.cell? ⟨w.heap.size, 1, none⟩ = some (.int .i64 l) ∧ w'.cell? ⟨q, 0, none⟩ = some (.string f))
      (go_keep)
      ((go_at_call 82; refine (implDecIs l _ h0 h1 (HT.out _ (below_toDrew L9.out.1.2.2)) D hN.out).mono ?_; rintro e w10 ⟨rfl, b10⟩; have L10 := Lib.hid (L9.out.below (below_drewL b10)); obtain ⟨⟨⟨g0, g1, g2⟩, _⟩, _, hr10⟩ := L10.out; obtain ⟨e0, e1, e2, e3⟩ := formCells hr10; clear hr10 b10))
    go_wp2_with fail
    go_ret
    exact ⟨by rw [HR.out]; rfl, L10.out.1.2.2⟩

end Go.Proofs.YtpdcmmhhgnackaaGreatDoor

namespace Go.Proofs.YtpdcmmhhgnackaaGreatDoor
open Go.RowKit

theorem implTypeTextW (k l : Int) (s : ByteArray) (w : World) (hs : s.size ≤ 1048576) (hk : (Lit.int .i64 k).wf = true)
    (HT : Hid (∀ W : World, Below w.heap.size w W → Lib.TabIs Tryz.prog W "internal/strconv.uint64pow10" .u64 Lib.pow10Tab)) (r : ByteArray) (hr : typeTextT k l s = r) :
    Calls Tryz.prog 31 #[.agg #[.int .i64 k, .int .i64 l, .string s]] w fun e w' => e = .returned (.string r) ∧ Below w.heap.size w w' := by
  by_cases hin : 0 ≤ k ∧ k ≤ 4
  · obtain ⟨f, mn, mx, nm, hf, hfit, hfz, hch, htx⟩ := typeText_eq k l s hin
    have hd : decide (0 ≤ k ∧ k ≤ 4) = true := decide_eq_true hin
    have HL : Hid (∀ (W : World) (b : Nat), W.ownsMap Tryz.prog 3 formR b 5 formsD → (Instr.lookup 116 (.map (some b)) (.int .i64 k) true).run Tryz.prog W = .ok (.tuple #[.agg #[.string f, .int .i64 mn, .int .i64 mx, .bool nm], .bool true]) W) :=
      fun W b h => by rw [lookForm h k hk, hf, hd]
    cases hok : typeOkB k l s with
    | false =>
      exact typeTextBad k l s w hs f mn mx nm hfz r HL (hfit.trans hok) (by unfold Hid; rw [← hr, typeTextT, if_pos hok])
    | true =>
      have ht := htx hok
      rw [hr] at ht
      unfold formText at ht
      by_cases hm : 0 < mx
      · have hl := hch hm hok
        rw [if_pos hm] at ht
        exact typeTextChar k l s w hs f mn mx nm hfz r HL (hfit.trans hok) (decide_eq_true hm) (by omega) (by omega) _ (dec_size l (by omega) (by omega)) rfl ht.symm HT
      · rw [if_neg hm] at ht
        cases nm with
        | true => exact typeTextEnum k l s w hs f mn mx hfz r HL (hfit.trans hok) (decide_eq_false hm) _ (nameT_size s) rfl ht.symm
        | false => exact typeTextWord k l s w hs f mn mx hfz r HL (hfit.trans hok) (decide_eq_false hm) ht.symm
  · have hd : decide (0 ≤ k ∧ k ≤ 4) = false := decide_eq_false hin
    have hf : formOf k = .agg #[.string ⟨#[]⟩, .int .i64 0, .int .i64 0, .bool false] := by
      unfold formOf
      rw [if_neg (by omega), if_neg (by omega), if_neg (by omega), if_neg (by omega), if_neg (by omega)]
      rfl
    have hok : typeOkB k l s = false := by rw [typeOkB, if_neg (by omega), if_neg (by omega), if_neg (by omega)]
    exact typeTextNone k l s w hs ⟨#[]⟩ 0 0 false (by decide) r (fun W b h => by rw [lookForm h k hk, hf, hd]) (by unfold Hid; rw [← hr, typeTextT, if_pos hok])

theorem implTypeTextC (t : Ty) (w : World) (hs : t.name.size ≤ 1048576) (hk : (Lit.int .i64 t.kind).wf = true) (hT : Tabs w) (r : ByteArray) (hr : tyT t = r) :
    Calls Tryz.prog 31 #[.agg #[.int .i64 t.kind, .int .i64 t.len, .string t.name]] w fun e w' => e = .returned (.string r) ∧ Below w.heap.size w w' :=
  implTypeTextW t.kind t.len t.name w hs hk (fun _ hb => (hT.call hb).pow) r hr

end Go.Proofs.YtpdcmmhhgnackaaGreatDoor

namespace Go.Proofs.YtpdcmmhhgnackaaGreatDoor
open Go.RowKit

theorem Strs.addr {w : World} {a : Option Addr} {c : Nat} {xs : List ByteArray} (h : Strs w a c xs) (hp : 0 < xs.length) : a = none ∨ ∃ b off, a = some ⟨b, off, none⟩ := by
  obtain ⟨b, off, ha, _⟩ := h.2.2.2.2 hp
  exact .inr ⟨b, off, ha⟩

/-- A phrase's own row. -/
theorem rowLit1 (w : World) (xs : List ByteArray) (hs : ∀ s ∈ xs, s.size ≤ maxLen) (hn : xs.length ≤ 1000000) : Strs (w.alloc (.cells (xs.map Value.string).toArray 9)) (some ⟨w.heap.size, 0, none⟩) xs.length xs := by
  refine ⟨Nat.le_refl _, by unfold maxLen; omega, hs, (fun h => by cases h), fun _ => ⟨w.heap.size, 0, rfl, by simp, fun i hi => ?_⟩⟩
  rw [cell_of_row _ _ _ _ _ _ (heap_alloc_new w _)]
  simp [hi]

/-- A phrase with a word and the first expression behind it, if there is one. -/
def dfL (ps : List ByteArray) (wd : ByteArray) : List Ex → List ByteArray
  | [] => ps
  | e :: _ => ps ++ [wd, putT e]

set_option maxRecDepth 100000 in
set_option maxHeartbeats 2000000 in
theorem phraseMaybe (a : Option Addr) (c : Nat) (xs : List ByteArray) (wd : ByteArray) (ka : Option Addr) (kc : Nat) (kids : List Ex) (w : World) (hx : Strs w a c xs) (hp : 0 < xs.length) (hn : xs.length ≤ 1000) (hT : Tabs w) (hk : Ks 0 w ka kc kids) (hwt : ∀ e ∈ kids, e.wt ≤ 1048576) (hwd : wd.size ≤ maxLen)
    (hz : ∀ e ∈ kids, (putT e).size ≤ 8400) (ys : List ByteArray) (hys : ys = dfL xs wd kids) :
    Calls Tryz.prog 33 #[.slice a xs.length c, .string wd, .slice ka kids.length kc] w fun e w' => ∃ a' c', e = .returned (.slice a' ys.length c') ∧ Strs w' a' c' ys ∧ Below w.heap.size w w' := by
  have hl := hk.len
  cases kids with
  | nil =>
    simp only [dfL] at hys
    subst hys
    simp only [List.length_nil]
    go_enter Tryz.func33, Tryz.ntmps33
    go_wp2_with fail
    go_ret
    exact ⟨_, _, rfl, hx, Below.refl _ _⟩
  | cons e1 r =>
    simp only [dfL] at hys
    obtain ⟨d, hs⟩ := hk.sl
    obtain ⟨b, off, vs1, rfl, hbl, hcs, hR1⟩ := hs.spot (i := 0) (by simp)
    obtain ⟨a1, c1, rfl, hfit1, hkid⟩ := hR1
    simp only [List.getElem_cons_zero] at hcs hkid hfit1
    have hc0 : w.cell? ⟨b, off, none⟩ = some (.int .i64 e1.kind) := by have := hcs 0 (by simp); simpa using this
    have hc1 : w.cell? ⟨b, off + 1, none⟩ = some (.string e1.text) := by have := hcs 1 (by simp); simpa using this
    have hc2 : w.cell? ⟨b, off + 2, none⟩ = some (.int .i64 e1.num) := by have := hcs 2 (by simp); simpa using this
    have hc3 : w.cell? ⟨b, off + 3, none⟩ = some (.slice a1 e1.kids.length c1) := by have := hcs 3 (by simp); simpa using this
    have hew : e1.wt ≤ 1048576 := hwt e1 (by simp)
    have hez : (putT e1).size ≤ 8400 := hz e1 (by simp)
    obtain ⟨s, hsE⟩ : ∃ s, putT e1 = s := ⟨_, rfl⟩
    rw [hsE] at hys hez
    have HC := Lib.hid (implPutExpr e1 a1 c1 d w hT hfit1 hkid.at (by have := nodes_wt e1; omega) s hsE)
    have HX := Lib.hid (fun w' (hb : Below w.heap.size w w') => hx.below hb)
    have HA := Lib.hid (hx.addr hp)
    have hne : ((((r.length + 1 : Nat) : Int)) == 0) = false := by simp; omega
    have hlp : (0 : Int) < ((r.length + 1 : Nat) : Int) := by omega
    have HY := Lib.hid hys
    clear hx hs hcs hkid hk hsE hys hT
    simp only [List.length_cons] at hl hp ⊢
    go_enter Tryz.func33, Tryz.ntmps33
    go_wp2_with fail
    refine HC.out.mono ?_
    rintro e w1 ⟨rfl, b1⟩
    have B1 := Lib.hid b1
    have hsz1 := b1.size
    clear b1 hc0 hc1 hc2 hc3
    go_wp2_with fail
    have hrow := rowLit1 w1 [wd, s] (by intro t ht; simp only [List.mem_cons, List.not_mem_nil, or_false] at ht; rcases ht with rfl | rfl; exact hwd; unfold maxLen; omega) (by simp)
    refine (phraseAnd a c xs _ 2 [wd, s] _ ((HX.out _ B1.out).below ((Below.refl _ _).alloc (Nat.le_refl _) _)) hrow HA.out (by simp only [List.length_cons, List.length_nil]; omega)).mono ?_
    rintro e w2 ⟨a2, c2, rfl, hs2, b2⟩
    have B2 := Lib.hid (show Below w.heap.size w w2 from Below.call b2 (B1.out.alloc hsz1 _))
    have HS2 := Lib.hid hs2
    clear b2 hs2
    go_wp2_with fail
    go_ret
    refine ⟨a2, c2, ?_, ?_, B2.out⟩
    · rw [HY.out, List.length_append]; rfl
    · rw [HY.out]; exact HS2.out

def wNN1 : ByteArray := ⟨#[110, 111, 116, 32, 110, 117, 108, 108]⟩
def wDf1 : ByteArray := ⟨#[100, 101, 102, 97, 117, 108, 116]⟩

theorem ba_app (a b c d : ByteArray) (h : b ++ c = d) : a ++ b ++ c = a ++ d := by rw [ba_assoc, h]

theorem join2 (a b : ByteArray) : joinT [a, b] (txt [32]) = a ++ txt [32] ++ b := by rw [joinT_cons, joinT_one]

theorem join_more (xs ys : List ByteArray) (s : ByteArray) (hx : xs ≠ []) (hy : ys ≠ []) : joinT (xs ++ ys) s = joinT xs s ++ s ++ joinT ys s := by
  induction xs with
  | nil => exact absurd rfl hx
  | cons x r ih =>
    cases r with
    | nil =>
      cases ys with
      | nil => exact absurd rfl hy
      | cons y t => rw [List.cons_append, List.nil_append, joinT_cons, joinT_one]
    | cons z t =>
      rw [List.cons_append, List.cons_append, joinT_cons, ← List.cons_append, ih (by simp), joinT_cons]
      simp only [ba_assoc]

theorem sp_nn : txt [32] ++ wNN1 = txt wNN := ba_ext (by rw [ba_list]; rfl)

theorem df_text (s : ByteArray) (e : Ex) : s ++ txt [32] ++ joinT [wDf1, putT e] (txt [32]) = s ++ txt wDf ++ putT e := by
  rw [join2]
  apply ba_ext
  simp only [ba_list, List.append_assoc]
  rfl

set_option maxRecDepth 100000 in
set_option maxHeartbeats 4000000 in
theorem implPutCol (vs : List Value) (x : Co) (w : World) (hT : Tabs w) (hR : RCo 0 w vs x) (hwt : x.wt ≤ 1048576) (r : ByteArray) (hr : colT x = r) :
    Calls Tryz.prog 9 #[.agg vs.toArray] w fun e w' => e = .returned (.string r) ∧ Below w.heap.size w w' := by
  have HC := Lib.hid (fun w' (hb : Below w.heap.size w w') => implColFits vs x w' (hT.call hb).forms (goodCo.kept hR (Kept.below hb)) hwt _ rfl)
  have HT := Lib.hid (fun w' (hb : Below w.heap.size w w') => hT.call hb)
  obtain ⟨a0, c0, rfl, hfit, k0⟩ := hR
  have HK := Lib.hid (fun w' (hb : Below w.heap.size w w') => k0.kept (Kept.below hb))
  have HB := Lib.hid (fun T => boxCo_new w x a0 c0 T)
  have hW : x.wt = x.name.size + x.ty.name.size + (x.dflt.length + wtL x.dflt) := rfl
  have HN := Lib.hid (show x.name.size ≤ 1048576 by omega)
  have HTn := Lib.hid (show x.ty.name.size ≤ 1048576 by omega)
  have HD := Lib.hid (fun (e : Ex) (hm : e ∈ x.dflt) => (show e.wt ≤ 1048576 by have := wtL_mem hm; omega))
  have HF := Lib.hid (i64_wf hfit.2.2.1)
  unfold colT at hr
  clear k0 hW hT
  cases hc : colB x with
  | false =>
    have HCC := Lib.hid hc
    have HV : Hid (r = ⟨#[]⟩) := by unfold Hid; rw [← hr, hc]; rfl
    clear hr hc
    go_enter Tryz.func9, Tryz.ntmps9
    go_wp2_with fail
    refine (HC.out _ (HB.out _).2).mono ?_
    rintro e w1 ⟨rfl, b1⟩
    have B1 := Lib.hid ((HB.out 32).call b1)
    clear b1
    rw [HCC.out]
    go_wp2_with fail
    go_ret
    exact ⟨by rw [HV.out] <;> rfl, B1.out.2⟩
  | true =>
    have HCC := Lib.hid hc
    obtain ⟨q1, q2, q3, q4⟩ := colB_parts hc
    rw [if_pos hc] at hr
    obtain ⟨s1, hs1⟩ : ∃ s, nameT x.name = s := ⟨_, rfl⟩
    obtain ⟨s2, hs2⟩ : ∃ s, tyT x.ty = s := ⟨_, rfl⟩
    have z1 : s1.size ≤ 82 := by rw [← hs1]; exact nameT_small q1
    have z2 : s2.size ≤ 100 := by rw [← hs2]; exact tyT_small q2
    have HNN : Hid (nnT x = if x.notNull = true then joinT [s1, s2, wNN1] (txt [32]) else joinT [s1, s2] (txt [32])) := by
      unfold Hid nnT
      rw [hs1, hs2, show [s1, s2, wNN1] = [s1, s2] ++ [wNN1] from rfl, join_more _ _ _ (by simp) (by simp), joinT_one, join2, ba_app _ _ _ _ sp_nn]
    have HQ4 := Lib.hid q4
    have HS1 := Lib.hid hs1
    have HS2 := Lib.hid hs2
    have HR := Lib.hid hr
    clear hr hc hs1 hs2 q1 q2 q4
    go_enter Tryz.func9, Tryz.ntmps9
    go_wp2_with fail
    refine (HC.out _ (HB.out _).2).mono ?_
    rintro e w1 ⟨rfl, b1⟩
    have B1 := Lib.hid ((HB.out 32).call b1)
    clear b1
    rw [HCC.out]
    go_wp2_with fail
    have hst : Hid (∀ p q : World, (((p.cell? ⟨w.heap.size, 0, none⟩ = some (.string x.name) ∧ p.cell? ⟨w.heap.size, 1, none⟩ = some (.int .i64 x.ty.kind) ∧ p.cell? ⟨w.heap.size, 2, none⟩ = some (.int .i64 x.ty.len) ∧ p.cell? ⟨w.heap.size, 3, none⟩ = some (.string x.ty.name)) ∧ Hid (BoxCo w x a0 c0 p)) → Below p.heap.size p q → ((q.cell? ⟨w.heap.size, 0, none⟩ = some (.string x.name) ∧ q.cell? ⟨w.heap.size, 1, none⟩ = some (.int .i64 x.ty.kind) ∧ q.cell? ⟨w.heap.size, 2, none⟩ = some (.int .i64 x.ty.len) ∧ q.cell? ⟨w.heap.size, 3, none⟩ = some (.string x.ty.name)) ∧ Hid (BoxCo w x a0 c0 q)))) := fun p q h hb => by
      have T := h.2.out.call hb
      exact ⟨⟨(T.1.2 0 (by simp)).1, (T.1.2 1 (by simp)).1, (T.1.2 2 (by simp)).1, (T.1.2 3 (by simp)).1⟩, T⟩
    have D1 := Lib.hid (B1.out.call (below_drewE (Below.refl _ _)))
    go_region_held3 (fun w' => (w'.cell? ⟨w.heap.size, 0, none⟩ = some (.string x.name) ∧ w'.cell? ⟨w.heap.size, 1, none⟩ = some (.int .i64 x.ty.kind) ∧ w'.cell? ⟨w.heap.size, 2, none⟩ = some (.int .i64 x.ty.len) ∧ w'.cell? ⟨w.heap.size, 3, none⟩ = some (.string x.ty.name)) ∧ Hid (BoxCo w x a0 c0 w')) (first | assumption | exact ⟨⟨(D1.out.1.2 0 (by simp)).1, (D1.out.1.2 1 (by simp)).1, (D1.out.1.2 2 (by simp)).1, (D1.out.1.2 3 (by simp)).1⟩, D1.out⟩ | exact hst.out _ _ (by assumption) ((Below.refl _ _).alloc (Nat.le_refl _) _))
      (first
        | (go_at_call 30; refine (implPutName x.name _ HN.out s1 HS1.out).mono ?_; rintro e wq ⟨rfl, bq⟩; have hq := hst.out _ _ (by assumption) bq)
        | (go_at_call 31; refine (implTypeTextC x.ty _ HTn.out HF.out (HT.out _ (And.right (by assumption : _ ∧ Hid (BoxCo w x a0 c0 _))).out.2) s2 HS2.out).mono ?_; rintro e wz ⟨rfl, bz⟩; have hz := hst.out _ _ (by assumption) bz; have T9 := Lib.hid hz.2.out))
    clear hst bz hz bq hq D1
    have zs1 : s1.size ≤ maxLen := by unfold maxLen; omega
    have zs2 : s2.size ≤ maxLen := by unfold maxLen; omega
    have HP : Hid (Strs (wz.alloc (.cells #[.string s1, .string s2] 9)) (some ⟨wz.heap.size, 0, none⟩) 2 [s1, s2]) := rowLit1 wz [s1, s2] (by intro t ht; simp only [List.mem_cons, List.not_mem_nil, or_false] at ht; rcases ht with rfl | rfl; exact zs1; exact zs2) (by simp)
    have B3 : Hid (BoxCo w x a0 c0 (wz.alloc (.cells #[.string s1, .string s2] 9))) := T9.out.call ((Below.refl _ _).alloc (Nat.le_refl _) _)
    clear T9
    generalize wz.alloc (.cells #[.string s1, .string s2] 9) = W3 at HP B3 ⊢
    generalize wz.heap.size = pb at HP ⊢
    have g4 : W3.cell? ⟨w.heap.size, 4, none⟩ = some (.bool x.notNull) := (B3.out.1.2 4 (by simp)).1
    have g5 : W3.cell? ⟨w.heap.size, 5, none⟩ = some (.slice a0 x.dflt.length c0) := (B3.out.1.2 5 (by simp)).1
    have hzd : Hid (∀ e ∈ x.dflt, (putT e).size ≤ 8400) := fun e he => putT_small (HQ4.out e he)
    have hm0 : (ByteArray.mk #[100, 101, 102, 97, 117, 108, 116]).size ≤ maxLen := by decide
    have hdd : Hid (∀ s : ByteArray, dfT wDf s x.dflt = match x.dflt with | [] => s | e :: _ => s ++ txt [32] ++ joinT [wDf1, putT e] (txt [32])) := fun s => by
      cases x.dflt with
      | nil => rfl
      | cons e r => exact (df_text s e).symm
    have hend : Hid (∀ (ps : List ByteArray) (ys : List ByteArray), ps ≠ [] → ps.length ≤ 3 → lets ps ≤ 300 → (ys = dfL ps wDf1 x.dflt) → dfT wDf (joinT ps (txt [32])) x.dflt = joinT ys (txt [32]) ∧ lets ys + ys.length ≤ 1073741824) := by
      intro ps ys hp h3 hlp hys
      rw [hdd.out, hys]
      cases hd : x.dflt with
      | nil => exact ⟨rfl, by simp only [dfL]; omega⟩
      | cons e r =>
        simp only [dfL]
        refine ⟨(join_more _ _ _ hp (by simp)).symm, ?_⟩
        have he := hzd.out e (by rw [hd]; simp)
        have e1 : lets (ps ++ [wDf1, putT e]) = lets ps + (wDf1.size + (putT e).size) := by simp [lets]
        have e2 : wDf1.size = 7 := rfl
        rw [e1, List.length_append]
        simp only [List.length_cons, List.length_nil]
        omega
    cases hnn : x.notNull with
    | false =>
      have HV : Hid (r = dfT wDf (joinT [s1, s2] (txt [32])) x.dflt) := by unfold Hid; rw [← HR.out, HNN.out, hnn]; rfl
      rw [hnn] at g4
      clear hnn
      go_wp2_with fail
      obtain ⟨ys, hys⟩ : ∃ ys, ys = dfL [s1, s2] wDf1 x.dflt := ⟨_, rfl⟩
      have HE := Lib.hid (hend.out [s1, s2] ys (by simp) (by simp) (by simp [lets]; omega) hys)
      refine (phraseMaybe (some ⟨pb, 0, none⟩) 2 [s1, s2] wDf1 a0 c0 x.dflt _ HP.out (by simp) (by simp) (HT.out _ B3.out.2) (HK.out _ B3.out.2) HD.out hm0 hzd.out ys hys).mono ?_
      rintro e w4 ⟨a4, c4, rfl, hs4, b4⟩
      have HS4 := Lib.hid hs4
      have B4 := Lib.hid (B3.out.call b4)
      clear hs4 b4 hys g4 g5
      go_wp2_with fail
      refine (phraseText a4 c4 ys _ HS4.out HE.out.2 r (by rw [HV.out]; exact HE.out.1.symm)).mono ?_
      rintro e w5 ⟨rfl, b5⟩
      have B5 := Lib.hid (B4.out.call b5)
      clear b5
      go_wp2_with fail
      go_ret
      exact ⟨rfl, B5.out.2⟩
    | true =>
      have HV : Hid (r = dfT wDf (joinT [s1, s2, wNN1] (txt [32])) x.dflt) := by unfold Hid; rw [← HR.out, HNN.out, hnn]; rfl
      rw [hnn] at g4
      clear hnn
      go_wp2_with fail
      have hrow := rowLit1 W3 [wNN1] (by intro t ht; simp only [List.mem_cons, List.not_mem_nil, or_false] at ht; rw [ht]; decide) (by simp)
      refine (phraseAnd (some ⟨pb, 0, none⟩) 2 [s1, s2] _ 1 [wNN1] _ (HP.out.below ((Below.refl _ _).alloc (Nat.le_refl _) _)) hrow (.inr ⟨_, _, rfl⟩) (by simp)).mono ?_
      rintro e w4 ⟨a4, c4, rfl, hs4, b4⟩
      have HS4 : Hid (Strs w4 a4 c4 [s1, s2, wNN1]) := hs4
      have B4 := Lib.hid ((B3.out.call ((Below.refl _ _).alloc (Nat.le_refl _) _)).call b4)
      clear hs4 b4 hrow g4 g5
      have g4 : w4.cell? ⟨w.heap.size, 4, none⟩ = some (.bool x.notNull) := (B4.out.1.2 4 (by simp)).1
      have g5 : w4.cell? ⟨w.heap.size, 5, none⟩ = some (.slice a0 x.dflt.length c0) := (B4.out.1.2 5 (by simp)).1
      obtain ⟨ys, hys⟩ : ∃ ys, ys = dfL [s1, s2, wNN1] wDf1 x.dflt := ⟨_, rfl⟩
      have HE := Lib.hid (hend.out [s1, s2, wNN1] ys (by simp) (by simp) (by have : wNN1.size = 8 := rfl; simp [lets]; omega) hys)
      go_wp2_with fail
      refine (phraseMaybe a4 c4 [s1, s2, wNN1] wDf1 a0 c0 x.dflt _ HS4.out (by simp) (by simp) (HT.out _ B4.out.2) (HK.out _ B4.out.2) HD.out hm0 hzd.out ys hys).mono ?_
      rintro e w6 ⟨a6, c6, rfl, hs6, b6⟩
      have HS6 := Lib.hid hs6
      have B6 := Lib.hid (B4.out.call b6)
      clear hs6 b6 hys g4 g5
      go_wp2_with fail
      refine (phraseText a6 c6 ys _ HS6.out HE.out.2 r (by rw [HV.out]; exact HE.out.1.symm)).mono ?_
      rintro e w5 ⟨rfl, b5⟩
      have B5 := Lib.hid (B6.out.call b5)
      clear b5
      go_wp2_with fail
      go_ret
      exact ⟨rfl, B5.out.2⟩

end Go.Proofs.YtpdcmmhhgnackaaGreatDoor

namespace Go.Proofs.YtpdcmmhhgnackaaGreatDoor
open Go.RowKit

def parT (xs : List ByteArray) : ByteArray := txt [40] ++ joinT xs (txt [44, 32]) ++ txt [41]

def labS (s : ByteArray) : ByteArray := quoteT s 39

def firstT {X : Type} (f : X → ByteArray) : List X → ByteArray
  | [] => txt []
  | x :: _ => f x

def dflT : List Ex → List ByteArray
  | [] => [(ByteArray.mk #[100, 114, 111, 112, 32, 100, 101, 102, 97, 117, 108, 116])]
  | e :: _ => [(ByteArray.mk #[115, 101, 116, 32, 100, 101, 102, 97, 117, 108, 116]), putT e]

def parts_0 (name on : ByteArray) (list : List ByteArray) (num : Int) (flag : Bool) (ty : Ty) (cols : List Co) (rules : List Ru) (exprs : List Ex) : List ByteArray := [(ByteArray.mk #[99, 114, 101, 97, 116, 101, 32, 116, 121, 112, 101]), nameT name] ++ ([(ByteArray.mk #[97, 115, 32, 101, 110, 117, 109]), parT (list.map labS)])

def parts_1 (name on : ByteArray) (list : List ByteArray) (num : Int) (flag : Bool) (ty : Ty) (cols : List Co) (rules : List Ru) (exprs : List Ex) : List ByteArray := [(ByteArray.mk #[100, 114, 111, 112, 32, 116, 121, 112, 101]), nameT name] ++ ([])

def parts_2 (name on : ByteArray) (list : List ByteArray) (num : Int) (flag : Bool) (ty : Ty) (cols : List Co) (rules : List Ru) (exprs : List Ex) : List ByteArray := [(ByteArray.mk #[99, 114, 101, 97, 116, 101, 32, 115, 101, 113, 117, 101, 110, 99, 101]), nameT name] ++ ([(ByteArray.mk #[115, 116, 97, 114, 116]), dec num])

def parts_3 (name on : ByteArray) (list : List ByteArray) (num : Int) (flag : Bool) (ty : Ty) (cols : List Co) (rules : List Ru) (exprs : List Ex) : List ByteArray := [(ByteArray.mk #[100, 114, 111, 112, 32, 115, 101, 113, 117, 101, 110, 99, 101]), nameT name] ++ ([])

def parts_4 (name on : ByteArray) (list : List ByteArray) (num : Int) (flag : Bool) (ty : Ty) (cols : List Co) (rules : List Ru) (exprs : List Ex) : List ByteArray := [(ByteArray.mk #[99, 114, 101, 97, 116, 101, 32, 116, 97, 98, 108, 101]), nameT name] ++ ([parT (cols.map colT ++ rules.map ruleT)])

def parts_5 (name on : ByteArray) (list : List ByteArray) (num : Int) (flag : Bool) (ty : Ty) (cols : List Co) (rules : List Ru) (exprs : List Ex) : List ByteArray := [(ByteArray.mk #[100, 114, 111, 112, 32, 116, 97, 98, 108, 101]), nameT name] ++ ([])

def parts_6 (name on : ByteArray) (list : List ByteArray) (num : Int) (flag : Bool) (ty : Ty) (cols : List Co) (rules : List Ru) (exprs : List Ex) : List ByteArray := [(ByteArray.mk #[97, 108, 116, 101, 114, 32, 116, 97, 98, 108, 101]), nameT name] ++ ([(ByteArray.mk #[97, 100, 100, 32, 99, 111, 108, 117, 109, 110]), firstT colT cols])

def parts_7 (name on : ByteArray) (list : List ByteArray) (num : Int) (flag : Bool) (ty : Ty) (cols : List Co) (rules : List Ru) (exprs : List Ex) : List ByteArray := [(ByteArray.mk #[97, 108, 116, 101, 114, 32, 116, 97, 98, 108, 101]), nameT name] ++ ([(ByteArray.mk #[100, 114, 111, 112, 32, 99, 111, 108, 117, 109, 110]), nameT on])

def parts_8 (name on : ByteArray) (list : List ByteArray) (num : Int) (flag : Bool) (ty : Ty) (cols : List Co) (rules : List Ru) (exprs : List Ex) : List ByteArray := [(ByteArray.mk #[97, 108, 116, 101, 114, 32, 116, 97, 98, 108, 101]), nameT name] ++ ([(ByteArray.mk #[97, 108, 116, 101, 114, 32, 99, 111, 108, 117, 109, 110]), nameT on, (ByteArray.mk #[116, 121, 112, 101]), tyT ty])

def parts_9 (name on : ByteArray) (list : List ByteArray) (num : Int) (flag : Bool) (ty : Ty) (cols : List Co) (rules : List Ru) (exprs : List Ex) : List ByteArray := [(ByteArray.mk #[97, 108, 116, 101, 114, 32, 116, 97, 98, 108, 101]), nameT name] ++ ([(ByteArray.mk #[97, 108, 116, 101, 114, 32, 99, 111, 108, 117, 109, 110]), nameT on, if flag = true then (ByteArray.mk #[115, 101, 116, 32, 110, 111, 116, 32, 110, 117, 108, 108]) else (ByteArray.mk #[100, 114, 111, 112, 32, 110, 111, 116, 32, 110, 117, 108, 108])])

def parts_10 (name on : ByteArray) (list : List ByteArray) (num : Int) (flag : Bool) (ty : Ty) (cols : List Co) (rules : List Ru) (exprs : List Ex) : List ByteArray := [(ByteArray.mk #[97, 108, 116, 101, 114, 32, 116, 97, 98, 108, 101]), nameT name] ++ ([(ByteArray.mk #[97, 108, 116, 101, 114, 32, 99, 111, 108, 117, 109, 110]), nameT on] ++ dflT exprs)

def parts_11 (name on : ByteArray) (list : List ByteArray) (num : Int) (flag : Bool) (ty : Ty) (cols : List Co) (rules : List Ru) (exprs : List Ex) : List ByteArray := [(ByteArray.mk #[97, 108, 116, 101, 114, 32, 116, 97, 98, 108, 101]), nameT name] ++ ([(ByteArray.mk #[97, 100, 100]), firstT ruleT rules])

def parts_12 (name on : ByteArray) (list : List ByteArray) (num : Int) (flag : Bool) (ty : Ty) (cols : List Co) (rules : List Ru) (exprs : List Ex) : List ByteArray := [(ByteArray.mk #[97, 108, 116, 101, 114, 32, 116, 97, 98, 108, 101]), nameT name] ++ ([(ByteArray.mk #[100, 114, 111, 112, 32, 99, 111, 110, 115, 116, 114, 97, 105, 110, 116]), nameT on])

def parts_13 (name on : ByteArray) (list : List ByteArray) (num : Int) (flag : Bool) (ty : Ty) (cols : List Co) (rules : List Ru) (exprs : List Ex) : List ByteArray := [(if flag = true then (ByteArray.mk #[99, 114, 101, 97, 116, 101, 32, 117, 110, 105, 113, 117, 101, 32, 105, 110, 100, 101, 120]) else (ByteArray.mk #[99, 114, 101, 97, 116, 101, 32, 105, 110, 100, 101, 120])), nameT name] ++ ([(ByteArray.mk #[111, 110]), nameT on, listT list])

def parts_14 (name on : ByteArray) (list : List ByteArray) (num : Int) (flag : Bool) (ty : Ty) (cols : List Co) (rules : List Ru) (exprs : List Ex) : List ByteArray := [(ByteArray.mk #[100, 114, 111, 112, 32, 105, 110, 100, 101, 120]), nameT name] ++ ([])

def parts_15 (name on : ByteArray) (list : List ByteArray) (num : Int) (flag : Bool) (ty : Ty) (cols : List Co) (rules : List Ru) (exprs : List Ex) : List ByteArray := [(ByteArray.mk #[99, 114, 101, 97, 116, 101, 32, 118, 105, 101, 119]), nameT name] ++ ([(ByteArray.mk #[97, 115, 32, 115, 101, 108, 101, 99, 116]), joinT (list.map nameT) (txt [44, 32]), (ByteArray.mk #[102, 114, 111, 109]), nameT on] ++ dfL [] (ByteArray.mk #[119, 104, 101, 114, 101]) exprs)

def parts_16 (name on : ByteArray) (list : List ByteArray) (num : Int) (flag : Bool) (ty : Ty) (cols : List Co) (rules : List Ru) (exprs : List Ex) : List ByteArray := [(ByteArray.mk #[100, 114, 111, 112, 32, 118, 105, 101, 119]), nameT name] ++ ([])

/-- The parts of a statement's text. -/
def partsT (s : St) : List ByteArray :=
  if s.kind = 0 then parts_0 s.name s.on s.list s.num s.flag s.ty s.cols s.rules s.exprs
  else if s.kind = 1 then parts_1 s.name s.on s.list s.num s.flag s.ty s.cols s.rules s.exprs
  else if s.kind = 2 then parts_2 s.name s.on s.list s.num s.flag s.ty s.cols s.rules s.exprs
  else if s.kind = 3 then parts_3 s.name s.on s.list s.num s.flag s.ty s.cols s.rules s.exprs
  else if s.kind = 4 then parts_4 s.name s.on s.list s.num s.flag s.ty s.cols s.rules s.exprs
  else if s.kind = 5 then parts_5 s.name s.on s.list s.num s.flag s.ty s.cols s.rules s.exprs
  else if s.kind = 6 then parts_6 s.name s.on s.list s.num s.flag s.ty s.cols s.rules s.exprs
  else if s.kind = 7 then parts_7 s.name s.on s.list s.num s.flag s.ty s.cols s.rules s.exprs
  else if s.kind = 8 then parts_8 s.name s.on s.list s.num s.flag s.ty s.cols s.rules s.exprs
  else if s.kind = 9 then parts_9 s.name s.on s.list s.num s.flag s.ty s.cols s.rules s.exprs
  else if s.kind = 10 then parts_10 s.name s.on s.list s.num s.flag s.ty s.cols s.rules s.exprs
  else if s.kind = 11 then parts_11 s.name s.on s.list s.num s.flag s.ty s.cols s.rules s.exprs
  else if s.kind = 12 then parts_12 s.name s.on s.list s.num s.flag s.ty s.cols s.rules s.exprs
  else if s.kind = 13 then parts_13 s.name s.on s.list s.num s.flag s.ty s.cols s.rules s.exprs
  else if s.kind = 14 then parts_14 s.name s.on s.list s.num s.flag s.ty s.cols s.rules s.exprs
  else if s.kind = 15 then parts_15 s.name s.on s.list s.num s.flag s.ty s.cols s.rules s.exprs
  else if s.kind = 16 then parts_16 s.name s.on s.list s.num s.flag s.ty s.cols s.rules s.exprs
  else []

/-- What PutStmt answers. -/
def stT (s : St) : ByteArray := if stB s = true then joinT (partsT s) (txt [32]) else txt []

theorem partsT_0 (name on : ByteArray) (list : List ByteArray) (num : Int) (flag : Bool) (ty : Ty) (cols : List Co) (rules : List Ru) (exprs : List Ex) : partsT ⟨0, name, on, list, num, flag, ty, cols, rules, exprs⟩ = parts_0 name on list num flag ty cols rules exprs := by
  unfold partsT
  simp only [Int.reduceEq, if_true, if_false]

theorem partsT_1 (name on : ByteArray) (list : List ByteArray) (num : Int) (flag : Bool) (ty : Ty) (cols : List Co) (rules : List Ru) (exprs : List Ex) : partsT ⟨1, name, on, list, num, flag, ty, cols, rules, exprs⟩ = parts_1 name on list num flag ty cols rules exprs := by
  unfold partsT
  simp only [Int.reduceEq, if_true, if_false]

theorem partsT_2 (name on : ByteArray) (list : List ByteArray) (num : Int) (flag : Bool) (ty : Ty) (cols : List Co) (rules : List Ru) (exprs : List Ex) : partsT ⟨2, name, on, list, num, flag, ty, cols, rules, exprs⟩ = parts_2 name on list num flag ty cols rules exprs := by
  unfold partsT
  simp only [Int.reduceEq, if_true, if_false]

theorem partsT_3 (name on : ByteArray) (list : List ByteArray) (num : Int) (flag : Bool) (ty : Ty) (cols : List Co) (rules : List Ru) (exprs : List Ex) : partsT ⟨3, name, on, list, num, flag, ty, cols, rules, exprs⟩ = parts_3 name on list num flag ty cols rules exprs := by
  unfold partsT
  simp only [Int.reduceEq, if_true, if_false]

theorem partsT_4 (name on : ByteArray) (list : List ByteArray) (num : Int) (flag : Bool) (ty : Ty) (cols : List Co) (rules : List Ru) (exprs : List Ex) : partsT ⟨4, name, on, list, num, flag, ty, cols, rules, exprs⟩ = parts_4 name on list num flag ty cols rules exprs := by
  unfold partsT
  simp only [Int.reduceEq, if_true, if_false]

theorem partsT_5 (name on : ByteArray) (list : List ByteArray) (num : Int) (flag : Bool) (ty : Ty) (cols : List Co) (rules : List Ru) (exprs : List Ex) : partsT ⟨5, name, on, list, num, flag, ty, cols, rules, exprs⟩ = parts_5 name on list num flag ty cols rules exprs := by
  unfold partsT
  simp only [Int.reduceEq, if_true, if_false]

theorem partsT_6 (name on : ByteArray) (list : List ByteArray) (num : Int) (flag : Bool) (ty : Ty) (cols : List Co) (rules : List Ru) (exprs : List Ex) : partsT ⟨6, name, on, list, num, flag, ty, cols, rules, exprs⟩ = parts_6 name on list num flag ty cols rules exprs := by
  unfold partsT
  simp only [Int.reduceEq, if_true, if_false]

theorem partsT_7 (name on : ByteArray) (list : List ByteArray) (num : Int) (flag : Bool) (ty : Ty) (cols : List Co) (rules : List Ru) (exprs : List Ex) : partsT ⟨7, name, on, list, num, flag, ty, cols, rules, exprs⟩ = parts_7 name on list num flag ty cols rules exprs := by
  unfold partsT
  simp only [Int.reduceEq, if_true, if_false]

theorem partsT_8 (name on : ByteArray) (list : List ByteArray) (num : Int) (flag : Bool) (ty : Ty) (cols : List Co) (rules : List Ru) (exprs : List Ex) : partsT ⟨8, name, on, list, num, flag, ty, cols, rules, exprs⟩ = parts_8 name on list num flag ty cols rules exprs := by
  unfold partsT
  simp only [Int.reduceEq, if_true, if_false]

theorem partsT_9 (name on : ByteArray) (list : List ByteArray) (num : Int) (flag : Bool) (ty : Ty) (cols : List Co) (rules : List Ru) (exprs : List Ex) : partsT ⟨9, name, on, list, num, flag, ty, cols, rules, exprs⟩ = parts_9 name on list num flag ty cols rules exprs := by
  unfold partsT
  simp only [Int.reduceEq, if_true, if_false]

theorem partsT_10 (name on : ByteArray) (list : List ByteArray) (num : Int) (flag : Bool) (ty : Ty) (cols : List Co) (rules : List Ru) (exprs : List Ex) : partsT ⟨10, name, on, list, num, flag, ty, cols, rules, exprs⟩ = parts_10 name on list num flag ty cols rules exprs := by
  unfold partsT
  simp only [Int.reduceEq, if_true, if_false]

theorem partsT_11 (name on : ByteArray) (list : List ByteArray) (num : Int) (flag : Bool) (ty : Ty) (cols : List Co) (rules : List Ru) (exprs : List Ex) : partsT ⟨11, name, on, list, num, flag, ty, cols, rules, exprs⟩ = parts_11 name on list num flag ty cols rules exprs := by
  unfold partsT
  simp only [Int.reduceEq, if_true, if_false]

theorem partsT_12 (name on : ByteArray) (list : List ByteArray) (num : Int) (flag : Bool) (ty : Ty) (cols : List Co) (rules : List Ru) (exprs : List Ex) : partsT ⟨12, name, on, list, num, flag, ty, cols, rules, exprs⟩ = parts_12 name on list num flag ty cols rules exprs := by
  unfold partsT
  simp only [Int.reduceEq, if_true, if_false]

theorem partsT_13 (name on : ByteArray) (list : List ByteArray) (num : Int) (flag : Bool) (ty : Ty) (cols : List Co) (rules : List Ru) (exprs : List Ex) : partsT ⟨13, name, on, list, num, flag, ty, cols, rules, exprs⟩ = parts_13 name on list num flag ty cols rules exprs := by
  unfold partsT
  simp only [Int.reduceEq, if_true, if_false]

theorem partsT_14 (name on : ByteArray) (list : List ByteArray) (num : Int) (flag : Bool) (ty : Ty) (cols : List Co) (rules : List Ru) (exprs : List Ex) : partsT ⟨14, name, on, list, num, flag, ty, cols, rules, exprs⟩ = parts_14 name on list num flag ty cols rules exprs := by
  unfold partsT
  simp only [Int.reduceEq, if_true, if_false]

theorem partsT_15 (name on : ByteArray) (list : List ByteArray) (num : Int) (flag : Bool) (ty : Ty) (cols : List Co) (rules : List Ru) (exprs : List Ex) : partsT ⟨15, name, on, list, num, flag, ty, cols, rules, exprs⟩ = parts_15 name on list num flag ty cols rules exprs := by
  unfold partsT
  simp only [Int.reduceEq, if_true, if_false]

theorem partsT_16 (name on : ByteArray) (list : List ByteArray) (num : Int) (flag : Bool) (ty : Ty) (cols : List Co) (rules : List Ru) (exprs : List Ex) : partsT ⟨16, name, on, list, num, flag, ty, cols, rules, exprs⟩ = parts_16 name on list num flag ty cols rules exprs := by
  unfold partsT
  simp only [Int.reduceEq, if_true, if_false]

end Go.Proofs.YtpdcmmhhgnackaaGreatDoor
