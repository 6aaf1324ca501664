/- impl.TypeText: the types with a length or a name. -/
import Derived.Test.YtndbmnnomokfkaaDoorTypeTextI
namespace Go.Proofs.YtndbmnnomokfkaaDoor
open Go.RowKit

set_option maxHeartbeats 8000000 in
theorem typeTextEnum (k l : Int) (s : ByteArray) (w : World) (hs : s.size ≤ 1048576) (f : ByteArray) (mn mx : Int) (hfz : f.size ≤ 10) (r : ByteArray)
    (HL : Hid (∀ (W : World) (b : Nat), W.ownsMap Tryd.prog 3 formR b 5 formsD → (Instr.lookup 35 (.map (some b)) (.int .i64 k) true).run Tryd.prog W = .ok (.tuple #[.agg #[.string f, .int .i64 mn, .int .i64 mx, .bool true], .bool true]) W))
    (HF : Hid (fitsB mn mx true l s = true)) (hmx : decide (0 < mx) = false) (N : ByteArray) (hz : N.size ≤ 2 * s.size + 2) (hN : Hid (nameT s = N)) (HR : Hid (r = f ++ ⟨#[32]⟩ ++ N))
    : Calls Tryd.prog 7 #[.agg #[.int .i64 k, .int .i64 l, .string s]] w fun e w' => e = .returned (.string r) ∧ Below w.heap.size w w' := by
  have hlay := Lib.hid (lay1_new w 26 k l s)
  have ad1 : ∀ w, (Op.stringOp .add f ⟨#[32]⟩).run Tryd.prog w = .ok (.string (f ++ ⟨#[32]⟩)) w := fun w => run_string_add_sum w _ _ (by have o1 : (ByteArray.mk #[32]).size = 1 := rfl; have o2 : (ByteArray.mk #[40]).size = 1 := rfl; have o3 : (ByteArray.mk #[41]).size = 1 := rfl; (try rw [ByteArray.size_append]); (try rw [ByteArray.size_append]); omega)
  have ad2 : ∀ w, (Op.stringOp .add (f ++ ⟨#[32]⟩) N).run Tryd.prog w = .ok (.string (f ++ ⟨#[32]⟩ ++ N)) w := fun w => run_string_add_sum w _ _ (by have o1 : (ByteArray.mk #[32]).size = 1 := rfl; have o2 : (ByteArray.mk #[40]).size = 1 := rfl; have o3 : (ByteArray.mk #[41]).size = 1 := rfl; (try rw [ByteArray.size_append]); (try rw [ByteArray.size_append]); omega)
  have ae1 : ∀ w, (binOp .add 9 (.string f) (.string ⟨#[32]⟩)).run Tryd.prog w = .ok (.string (f ++ ⟨#[32]⟩)) w := fun w => by simp [binOp, ad1]
  have ae2 : ∀ w, (binOp .add 9 (.string (f ++ ⟨#[32]⟩)) (.string N)).run Tryd.prog w = .ok (.string (f ++ ⟨#[32]⟩ ++ N)) w := fun w => by simp [binOp, ad2]
  go_enter Tryd.func7, Tryd.ntmps7
  go_wp2_with fail
  generalize w.alloc (.cells #[.int .i64 k, .int .i64 l, .string s] 26) = W0 at hlay ⊢
  obtain ⟨⟨c0, c1, c2⟩, hlt0, hb0⟩ := hlay.out
  have hne : ¬ W0.heap.size = w.heap.size := by omega
  have hne' : ¬ w.heap.size = W0.heap.size := by omega
  have hst : Hid (∀ a b : World, W0.heap.size ≤ a.heap.size → (a.cell? ⟨w.heap.size, 0, none⟩ = some (.int .i64 k) ∧ a.cell? ⟨w.heap.size, 1, none⟩ = some (.int .i64 l) ∧ a.cell? ⟨w.heap.size, 2, none⟩ = some (.string s)) → Below a.heap.size a b → (b.cell? ⟨w.heap.size, 0, none⟩ = some (.int .i64 k) ∧ b.cell? ⟨w.heap.size, 1, none⟩ = some (.int .i64 l) ∧ b.cell? ⟨w.heap.size, 2, none⟩ = some (.string s))) :=
    fun a b hle h hb => ⟨(hb.cell (p := ⟨w.heap.size, 0, none⟩) (Nat.lt_of_lt_of_le hlt0 hle)).trans h.1, (hb.cell (p := ⟨w.heap.size, 1, none⟩) (Nat.lt_of_lt_of_le hlt0 hle)).trans h.2.1, (hb.cell (p := ⟨w.heap.size, 2, none⟩) (Nat.lt_of_lt_of_le hlt0 hle)).trans h.2.2⟩
  have HB0 := Lib.hid hb0
  clear hb0
  go_region_held3 (fun w' => w'.cell? ⟨w.heap.size, 0, none⟩ = some (.int .i64 k) ∧ w'.cell? ⟨w.heap.size, 1, none⟩ = some (.int .i64 l) ∧ w'.cell? ⟨w.heap.size, 2, none⟩ = some (.string s))
    (go_keep)
    ((go_at_call 11; refine (implForms _).mono ?_; rintro e w1 ⟨rfl, o1, b1⟩; have q1 := HL.out _ _ o1; have q2 := fun o => HL.out _ _ (World.ownsMap.alloc o1 o); obtain ⟨hcw, hfw⟩ := blockCells b1; (try simp only [World.size_alloc, drew_heap] at q1 q2); obtain ⟨d0, d1, d2⟩ := hst.out _ _ (by simp) (by assumption) b1; have O1 := Lib.hid o1; have B1 := Lib.hid b1; clear o1 b1))
  · have LF : LayTF w w.heap.size w1.heap.size k l s f mn mx true (w1.alloc (.cells #[.string f, .int .i64 mn, .int .i64 mx, .bool true] 33)) := by
      have h0 := HB0.out.drew
      have h1 : Below w.heap.size w w1 := h0.trans (B1.out.mono h0.size)
      have hw1 : W0.heap.size ≤ w1.heap.size := B1.out.size
      have hl1 : Lay1 w w.heap.size k l s w1 := ⟨⟨d0, d1, d2⟩, Nat.lt_of_lt_of_le hlt0 hw1, h1⟩
      exact ⟨hl1.alloc _, by simp, heap_alloc_new _ _⟩
    generalize w1.alloc (.cells #[.string f, .int .i64 mn, .int .i64 mx, .bool true] 33) = W2 at LF ⊢
    generalize w1.heap.size = q at LF ⊢
    have HLF := Lib.hid LF
    obtain ⟨⟨⟨c0', c1', c2'⟩, _⟩, _, hrq⟩ := LF
    obtain ⟨f0, f1, f2, f3⟩ := formCells hrq
    clear hrq c0 c1 c2 hcw hfw d0 d1 d2 q1 q2
    go_wp2_with fail
    refine (implFits f mn mx true k l s _ true HF.out).mono ?_
    rintro e w9 ⟨rfl, b9⟩
    have L9 := Lib.hid (HLF.out.below b9)
    clear c0' c1' c2' f0 f1 f2 f3 b9
    obtain ⟨⟨⟨c0, c1, c2⟩, _⟩, _, hr9⟩ := L9.out
    obtain ⟨f0, f1, f2, f3⟩ := formCells hr9
    clear hr9
    go_wp2_with fail
    go_region_held3 (fun w' => w'.cell? ⟨w.heap.size, 2, none⟩ = some (.string s) ∧ w'.cell? ⟨q, 0, none⟩ = some (.string f))
      (go_keep)
      ((go_at_call 14; refine (implPutName s _ hs N hN.out).mono ?_; rintro e w10 ⟨rfl, b10⟩; have L10 := Lib.hid (L9.out.below (below_drewL b10)); obtain ⟨⟨⟨g0, g1, g2⟩, _⟩, _, hr10⟩ := L10.out; obtain ⟨e0, e1, e2, e3⟩ := formCells hr10; clear hr10 b10))
    go_wp2_with fail
    go_ret
    exact ⟨by rw [HR.out]; rfl, L10.out.1.2.2⟩
  · have LF : LayTF w w.heap.size w1.heap.size k l s f mn mx true (w1.alloc (.cells #[.string f, .int .i64 mn, .int .i64 mx, .bool true] 33)) := by
      have h0 := HB0.out.drew
      have h1 : Below w.heap.size w w1 := h0.trans (B1.out.mono h0.size)
      have hw1 : W0.heap.size ≤ w1.heap.size := B1.out.size
      have hl1 : Lay1 w w.heap.size k l s w1 := ⟨⟨d0, d1, d2⟩, Nat.lt_of_lt_of_le hlt0 hw1, h1⟩
      exact ⟨hl1.alloc _, by simp, heap_alloc_new _ _⟩
    generalize w1.alloc (.cells #[.string f, .int .i64 mn, .int .i64 mx, .bool true] 33) = W2 at LF ⊢
    generalize w1.heap.size = q at LF ⊢
    have HLF := Lib.hid LF
    obtain ⟨⟨⟨c0', c1', c2'⟩, _⟩, _, hrq⟩ := LF
    obtain ⟨f0, f1, f2, f3⟩ := formCells hrq
    clear hrq c0 c1 c2 hcw hfw d0 d1 d2 q1 q2
    go_wp2_with fail
    refine (implFits f mn mx true k l s _ true HF.out).mono ?_
    rintro e w9 ⟨rfl, b9⟩
    have L9 := Lib.hid (HLF.out.below b9)
    clear c0' c1' c2' f0 f1 f2 f3 b9
    obtain ⟨⟨⟨c0, c1, c2⟩, _⟩, _, hr9⟩ := L9.out
    obtain ⟨f0, f1, f2, f3⟩ := formCells hr9
    clear hr9
    go_wp2_with fail
    go_region_held3 (fun w' => w'.cell? ⟨w.heap.size, 2, none⟩ = some (.string s) ∧ w'.cell? ⟨q, 0, none⟩ = some (.string f))
      (go_keep)
      ((go_at_call 14; refine (implPutName s _ hs N hN.out).mono ?_; rintro e w10 ⟨rfl, b10⟩; have L10 := Lib.hid (L9.out.below (below_drewL b10)); obtain ⟨⟨⟨g0, g1, g2⟩, _⟩, _, hr10⟩ := L10.out; obtain ⟨e0, e1, e2, e3⟩ := formCells hr10; clear hr10 b10))
    go_wp2_with fail
    go_ret
    exact ⟨by rw [HR.out]; rfl, L10.out.1.2.2⟩
  · have LF : LayTF w w.heap.size W0.heap.size k l s f mn mx true ((((w1.setCell ⟨W0.heap.size, 0, none⟩ (.string f)).setCell ⟨W0.heap.size, 1, none⟩ (.int .i64 mn)).setCell ⟨W0.heap.size, 2, none⟩ (.int .i64 mx)).setCell ⟨W0.heap.size, 3, none⟩ (.bool true)) := by
      have h0 := HB0.out.drew
      have h0a := h0.alloc h0.size (.cells #[.string ⟨#[]⟩, .int .i64 0, .int .i64 0, .bool false] 33)
      have h1 : Below w.heap.size w w1 := h0a.trans (B1.out.mono h0a.size)
      have hw1 : W0.heap.size + 1 ≤ w1.heap.size := by have := B1.out.size; simpa using this
      have hq : w.heap.size ≤ W0.heap.size := Nat.le_of_lt hlt0
      have hl1 : Lay1 w w.heap.size k l s w1 := ⟨⟨d0, d1, d2⟩, by omega, h1⟩
      have hrow : w1.heap[W0.heap.size]? = some (.cells #[.string ⟨#[]⟩, .int .i64 0, .int .i64 0, .bool false] 33 (0, 0)) := (B1.out.block W0.heap.size (by simp)).trans (heap_alloc_new W0.drew _)
      exact LayTF.set4 hl1 hrow (by omega) hq
    generalize (((w1.setCell ⟨W0.heap.size, 0, none⟩ (.string f)).setCell ⟨W0.heap.size, 1, none⟩ (.int .i64 mn)).setCell ⟨W0.heap.size, 2, none⟩ (.int .i64 mx)).setCell ⟨W0.heap.size, 3, none⟩ (.bool true) = W2 at LF ⊢
    generalize W0.heap.size = q at LF ⊢
    have HLF := Lib.hid LF
    obtain ⟨⟨⟨c0', c1', c2'⟩, _⟩, _, hrq⟩ := LF
    obtain ⟨f0, f1, f2, f3⟩ := formCells hrq
    clear hrq c0 c1 c2 hcw hfw d0 d1 d2 q1 q2
    go_wp2_with fail
    refine (implFits f mn mx true k l s _ true HF.out).mono ?_
    rintro e w9 ⟨rfl, b9⟩
    have L9 := Lib.hid (HLF.out.below b9)
    clear c0' c1' c2' f0 f1 f2 f3 b9
    obtain ⟨⟨⟨c0, c1, c2⟩, _⟩, _, hr9⟩ := L9.out
    obtain ⟨f0, f1, f2, f3⟩ := formCells hr9
    clear hr9
    go_wp2_with fail
    go_region_held3 (fun w' => w'.cell? ⟨w.heap.size, 2, none⟩ = some (.string s) ∧ w'.cell? ⟨q, 0, none⟩ = some (.string f))
      (go_keep)
      ((go_at_call 14; refine (implPutName s _ hs N hN.out).mono ?_; rintro e w10 ⟨rfl, b10⟩; have L10 := Lib.hid (L9.out.below (below_drewL b10)); obtain ⟨⟨⟨g0, g1, g2⟩, _⟩, _, hr10⟩ := L10.out; obtain ⟨e0, e1, e2, e3⟩ := formCells hr10; clear hr10 b10))
    go_wp2_with fail
    go_ret
    exact ⟨by rw [HR.out]; rfl, L10.out.1.2.2⟩

set_option maxHeartbeats 8000000 in
theorem typeTextChar (k l : Int) (s : ByteArray) (w : World) (hs : s.size ≤ 1048576) (f : ByteArray) (mn mx : Int) (nm : Bool) (hfz : f.size ≤ 10) (r : ByteArray)
    (HL : Hid (∀ (W : World) (b : Nat), W.ownsMap Tryd.prog 3 formR b 5 formsD → (Instr.lookup 35 (.map (some b)) (.int .i64 k) true).run Tryd.prog W = .ok (.tuple #[.agg #[.string f, .int .i64 mn, .int .i64 mx, .bool nm], .bool true]) W))
    (HF : Hid (fitsB mn mx nm l s = true)) (hmx : decide (0 < mx) = true) (h0 : -9223372036854775808 ≤ l) (h1 : l ≤ 9223372036854775807) (D : ByteArray) (hz : D.size ≤ 21) (hN : Hid (dec l = D)) (HR : Hid (r = f ++ ⟨#[40]⟩ ++ D ++ ⟨#[41]⟩))
    (HT : Hid (∀ W : World, Below w.heap.size w W → Lib.TabIs Tryd.prog W "internal/strconv.uint64pow10" .u64 Lib.pow10Tab))
    : Calls Tryd.prog 7 #[.agg #[.int .i64 k, .int .i64 l, .string s]] w fun e w' => e = .returned (.string r) ∧ Below w.heap.size w w' := by
  have hlay := Lib.hid (lay1_new w 26 k l s)
  have ad1 : ∀ w, (Op.stringOp .add f ⟨#[40]⟩).run Tryd.prog w = .ok (.string (f ++ ⟨#[40]⟩)) w := fun w => run_string_add_sum w _ _ (by have o1 : (ByteArray.mk #[32]).size = 1 := rfl; have o2 : (ByteArray.mk #[40]).size = 1 := rfl; have o3 : (ByteArray.mk #[41]).size = 1 := rfl; (try rw [ByteArray.size_append]); (try rw [ByteArray.size_append]); omega)
  have ad2 : ∀ w, (Op.stringOp .add (f ++ ⟨#[40]⟩) D).run Tryd.prog w = .ok (.string (f ++ ⟨#[40]⟩ ++ D)) w := fun w => run_string_add_sum w _ _ (by have o1 : (ByteArray.mk #[32]).size = 1 := rfl; have o2 : (ByteArray.mk #[40]).size = 1 := rfl; have o3 : (ByteArray.mk #[41]).size = 1 := rfl; (try rw [ByteArray.size_append]); (try rw [ByteArray.size_append]); omega)
  have ad3 : ∀ w, (Op.stringOp .add (f ++ ⟨#[40]⟩ ++ D) ⟨#[41]⟩).run Tryd.prog w = .ok (.string (f ++ ⟨#[40]⟩ ++ D ++ ⟨#[41]⟩)) w := fun w => run_string_add_sum w _ _ (by have o1 : (ByteArray.mk #[32]).size = 1 := rfl; have o2 : (ByteArray.mk #[40]).size = 1 := rfl; have o3 : (ByteArray.mk #[41]).size = 1 := rfl; (try rw [ByteArray.size_append]); (try rw [ByteArray.size_append]); omega)
  have ae1 : ∀ w, (binOp .add 9 (.string f) (.string ⟨#[40]⟩)).run Tryd.prog w = .ok (.string (f ++ ⟨#[40]⟩)) w := fun w => by simp [binOp, ad1]
  have ae2 : ∀ w, (binOp .add 9 (.string (f ++ ⟨#[40]⟩)) (.string D)).run Tryd.prog w = .ok (.string (f ++ ⟨#[40]⟩ ++ D)) w := fun w => by simp [binOp, ad2]
  have ae3 : ∀ w, (binOp .add 9 (.string (f ++ ⟨#[40]⟩ ++ D)) (.string ⟨#[41]⟩)).run Tryd.prog w = .ok (.string (f ++ ⟨#[40]⟩ ++ D ++ ⟨#[41]⟩)) w := fun w => by simp [binOp, ad3]
  go_enter Tryd.func7, Tryd.ntmps7
  go_wp2_with fail
  generalize w.alloc (.cells #[.int .i64 k, .int .i64 l, .string s] 26) = W0 at hlay ⊢
  obtain ⟨⟨c0, c1, c2⟩, hlt0, hb0⟩ := hlay.out
  have hne : ¬ W0.heap.size = w.heap.size := by omega
  have hne' : ¬ w.heap.size = W0.heap.size := by omega
  have hst : Hid (∀ a b : World, W0.heap.size ≤ a.heap.size → (a.cell? ⟨w.heap.size, 0, none⟩ = some (.int .i64 k) ∧ a.cell? ⟨w.heap.size, 1, none⟩ = some (.int .i64 l) ∧ a.cell? ⟨w.heap.size, 2, none⟩ = some (.string s)) → Below a.heap.size a b → (b.cell? ⟨w.heap.size, 0, none⟩ = some (.int .i64 k) ∧ b.cell? ⟨w.heap.size, 1, none⟩ = some (.int .i64 l) ∧ b.cell? ⟨w.heap.size, 2, none⟩ = some (.string s))) :=
    fun a b hle h hb => ⟨(hb.cell (p := ⟨w.heap.size, 0, none⟩) (Nat.lt_of_lt_of_le hlt0 hle)).trans h.1, (hb.cell (p := ⟨w.heap.size, 1, none⟩) (Nat.lt_of_lt_of_le hlt0 hle)).trans h.2.1, (hb.cell (p := ⟨w.heap.size, 2, none⟩) (Nat.lt_of_lt_of_le hlt0 hle)).trans h.2.2⟩
  have HB0 := Lib.hid hb0
  clear hb0
  go_region_held3 (fun w' => w'.cell? ⟨w.heap.size, 0, none⟩ = some (.int .i64 k) ∧ w'.cell? ⟨w.heap.size, 1, none⟩ = some (.int .i64 l) ∧ w'.cell? ⟨w.heap.size, 2, none⟩ = some (.string s))
    (go_keep)
    ((go_at_call 11; refine (implForms _).mono ?_; rintro e w1 ⟨rfl, o1, b1⟩; have q1 := HL.out _ _ o1; have q2 := fun o => HL.out _ _ (World.ownsMap.alloc o1 o); obtain ⟨hcw, hfw⟩ := blockCells b1; (try simp only [World.size_alloc, drew_heap] at q1 q2); obtain ⟨d0, d1, d2⟩ := hst.out _ _ (by simp) (by assumption) b1; have O1 := Lib.hid o1; have B1 := Lib.hid b1; clear o1 b1))
  · have LF : LayTF w w.heap.size w1.heap.size k l s f mn mx nm (w1.alloc (.cells #[.string f, .int .i64 mn, .int .i64 mx, .bool nm] 33)) := by
      have h0 := HB0.out.drew
      have h1 : Below w.heap.size w w1 := h0.trans (B1.out.mono h0.size)
      have hw1 : W0.heap.size ≤ w1.heap.size := B1.out.size
      have hl1 : Lay1 w w.heap.size k l s w1 := ⟨⟨d0, d1, d2⟩, Nat.lt_of_lt_of_le hlt0 hw1, h1⟩
      exact ⟨hl1.alloc _, by simp, heap_alloc_new _ _⟩
    generalize w1.alloc (.cells #[.string f, .int .i64 mn, .int .i64 mx, .bool nm] 33) = W2 at LF ⊢
    generalize w1.heap.size = q at LF ⊢
    have HLF := Lib.hid LF
    obtain ⟨⟨⟨c0', c1', c2'⟩, _⟩, _, hrq⟩ := LF
    obtain ⟨f0, f1, f2, f3⟩ := formCells hrq
    clear hrq c0 c1 c2 hcw hfw d0 d1 d2 q1 q2
    go_wp2_with fail
    refine (implFits f mn mx nm k l s _ true HF.out).mono ?_
    rintro e w9 ⟨rfl, b9⟩
    have L9 := Lib.hid (HLF.out.below b9)
    clear c0' c1' c2' f0 f1 f2 f3 b9
    obtain ⟨⟨⟨c0, c1, c2⟩, _⟩, _, hr9⟩ := L9.out
    obtain ⟨f0, f1, f2, f3⟩ := formCells hr9
    clear hr9
    go_wp2_with fail
    go_region_held3 (fun w' => w'.cell? ⟨w.heap.size, 1, none⟩ = some (.int .i64 l) ∧ w'.cell? ⟨q, 0, none⟩ = some (.string f))
      (go_keep)
      ((go_at_call 13; refine (implDecIs l _ h0 h1 (HT.out _ (below_toDrew L9.out.1.2.2)) D hN.out).mono ?_; rintro e w10 ⟨rfl, b10⟩; have L10 := Lib.hid (L9.out.below (below_drewL b10)); obtain ⟨⟨⟨g0, g1, g2⟩, _⟩, _, hr10⟩ := L10.out; obtain ⟨e0, e1, e2, e3⟩ := formCells hr10; clear hr10 b10))
    go_wp2_with fail
    go_ret
    exact ⟨by rw [HR.out]; rfl, L10.out.1.2.2⟩
  · have LF : LayTF w w.heap.size w1.heap.size k l s f mn mx nm (w1.alloc (.cells #[.string f, .int .i64 mn, .int .i64 mx, .bool nm] 33)) := by
      have h0 := HB0.out.drew
      have h1 : Below w.heap.size w w1 := h0.trans (B1.out.mono h0.size)
      have hw1 : W0.heap.size ≤ w1.heap.size := B1.out.size
      have hl1 : Lay1 w w.heap.size k l s w1 := ⟨⟨d0, d1, d2⟩, Nat.lt_of_lt_of_le hlt0 hw1, h1⟩
      exact ⟨hl1.alloc _, by simp, heap_alloc_new _ _⟩
    generalize w1.alloc (.cells #[.string f, .int .i64 mn, .int .i64 mx, .bool nm] 33) = W2 at LF ⊢
    generalize w1.heap.size = q at LF ⊢
    have HLF := Lib.hid LF
    obtain ⟨⟨⟨c0', c1', c2'⟩, _⟩, _, hrq⟩ := LF
    obtain ⟨f0, f1, f2, f3⟩ := formCells hrq
    clear hrq c0 c1 c2 hcw hfw d0 d1 d2 q1 q2
    go_wp2_with fail
    refine (implFits f mn mx nm k l s _ true HF.out).mono ?_
    rintro e w9 ⟨rfl, b9⟩
    have L9 := Lib.hid (HLF.out.below b9)
    clear c0' c1' c2' f0 f1 f2 f3 b9
    obtain ⟨⟨⟨c0, c1, c2⟩, _⟩, _, hr9⟩ := L9.out
    obtain ⟨f0, f1, f2, f3⟩ := formCells hr9
    clear hr9
    go_wp2_with fail
    go_region_held3 (fun w' => w'.cell? ⟨w.heap.size, 1, none⟩ = some (.int .i64 l) ∧ w'.cell? ⟨q, 0, none⟩ = some (.string f))
      (go_keep)
      ((go_at_call 13; refine (implDecIs l _ h0 h1 (HT.out _ (below_toDrew L9.out.1.2.2)) D hN.out).mono ?_; rintro e w10 ⟨rfl, b10⟩; have L10 := Lib.hid (L9.out.below (below_drewL b10)); obtain ⟨⟨⟨g0, g1, g2⟩, _⟩, _, hr10⟩ := L10.out; obtain ⟨e0, e1, e2, e3⟩ := formCells hr10; clear hr10 b10))
    go_wp2_with fail
    go_ret
    exact ⟨by rw [HR.out]; rfl, L10.out.1.2.2⟩
  · have LF : LayTF w w.heap.size W0.heap.size k l s f mn mx nm ((((w1.setCell ⟨W0.heap.size, 0, none⟩ (.string f)).setCell ⟨W0.heap.size, 1, none⟩ (.int .i64 mn)).setCell ⟨W0.heap.size, 2, none⟩ (.int .i64 mx)).setCell ⟨W0.heap.size, 3, none⟩ (.bool nm)) := by
      have h0 := HB0.out.drew
      have h0a := h0.alloc h0.size (.cells #[.string ⟨#[]⟩, .int .i64 0, .int .i64 0, .bool false] 33)
      have h1 : Below w.heap.size w w1 := h0a.trans (B1.out.mono h0a.size)
      have hw1 : W0.heap.size + 1 ≤ w1.heap.size := by have := B1.out.size; simpa using this
      have hq : w.heap.size ≤ W0.heap.size := Nat.le_of_lt hlt0
      have hl1 : Lay1 w w.heap.size k l s w1 := ⟨⟨d0, d1, d2⟩, by omega, h1⟩
      have hrow : w1.heap[W0.heap.size]? = some (.cells #[.string ⟨#[]⟩, .int .i64 0, .int .i64 0, .bool false] 33 (0, 0)) := (B1.out.block W0.heap.size (by simp)).trans (heap_alloc_new W0.drew _)
      exact LayTF.set4 hl1 hrow (by omega) hq
    generalize (((w1.setCell ⟨W0.heap.size, 0, none⟩ (.string f)).setCell ⟨W0.heap.size, 1, none⟩ (.int .i64 mn)).setCell ⟨W0.heap.size, 2, none⟩ (.int .i64 mx)).setCell ⟨W0.heap.size, 3, none⟩ (.bool nm) = W2 at LF ⊢
    generalize W0.heap.size = q at LF ⊢
    have HLF := Lib.hid LF
    obtain ⟨⟨⟨c0', c1', c2'⟩, _⟩, _, hrq⟩ := LF
    obtain ⟨f0, f1, f2, f3⟩ := formCells hrq
    clear hrq c0 c1 c2 hcw hfw d0 d1 d2 q1 q2
    go_wp2_with fail
    refine (implFits f mn mx nm k l s _ true HF.out).mono ?_
    rintro e w9 ⟨rfl, b9⟩
    have L9 := Lib.hid (HLF.out.below b9)
    clear c0' c1' c2' f0 f1 f2 f3 b9
    obtain ⟨⟨⟨c0, c1, c2⟩, _⟩, _, hr9⟩ := L9.out
    obtain ⟨f0, f1, f2, f3⟩ := formCells hr9
    clear hr9
    go_wp2_with fail
    go_region_held3 (fun w' => w'.cell? ⟨w.heap.size, 1, none⟩ = some (.int .i64 l) ∧ w'.cell? ⟨q, 0, none⟩ = some (.string f))
      (go_keep)
      ((go_at_call 13; refine (implDecIs l _ h0 h1 (HT.out _ (below_toDrew L9.out.1.2.2)) D hN.out).mono ?_; rintro e w10 ⟨rfl, b10⟩; have L10 := Lib.hid (L9.out.below (below_drewL b10)); obtain ⟨⟨⟨g0, g1, g2⟩, _⟩, _, hr10⟩ := L10.out; obtain ⟨e0, e1, e2, e3⟩ := formCells hr10; clear hr10 b10))
    go_wp2_with fail
    go_ret
    exact ⟨by rw [HR.out]; rfl, L10.out.1.2.2⟩

end Go.Proofs.YtndbmnnomokfkaaDoor
