/- impl.TypeOk. -/
import Derived.Test.YtndbmnnomokfkaaTypeOk
import Derived.Deep.RegionHeld3
namespace Go.Proofs.Ytndbmnnomokfkaa
open Go.RowKit

theorem drew_heap (W : World) : W.drew.heap = W.heap := rfl

theorem blockCells {W w1 : World} (hb : Below W.heap.size W w1) : (∀ b o, b < W.heap.size → w1.cell? ⟨b, o, none⟩ = W.cell? ⟨b, o, none⟩) ∧ (∀ b o, b < W.heap.size → w1.frozen? ⟨b, o, none⟩ = W.frozen? ⟨b, o, none⟩) :=
  ⟨fun b o h => hb.cell (p := ⟨b, o, none⟩) h, fun b o h => hb.frozen (p := ⟨b, o, none⟩) h⟩

theorem below_setCell {B : Nat} {w0 w : World} (h : Below B w0 w) {q j : Nat} {v : Value} (hB : B ≤ w.heap.size) (hq : B ≤ q) : Below B w0 (w.setCell ⟨q, j, none⟩ v) :=
  h.grown (row := some q) ⟨rfl, rfl, rfl, by simp [World.setCell], fun k _ hne => Below.heap_setCell _ _ _ _ (fun e => hne (by rw [e]))⟩ hB (fun k hk => by cases hk; exact hq)

theorem size_setCell (w : World) (a : Addr) (v : Value) : (w.setCell a v).heap.size = w.heap.size := by simp [World.setCell]

set_option maxHeartbeats 2000000 in
theorem implTypeOk (k l : Int) (s : ByteArray) (w : World) (hk : (Lit.int .i64 k).wf = true) (v : Bool) (hv : typeOkB k l s = v) :
    Calls Try.prog 19 #[.agg #[.int .i64 k, .int .i64 l, .string s]] w fun e w' => e = .returned (.bool v) ∧ Below w.heap.size w w' := by
  have hlay := Lib.hid (lay1_new w 25 k l s)
  by_cases hr : 0 ≤ k ∧ k ≤ 4
  · obtain ⟨f, mn, mx, nm, hf, hfit⟩ := typeOk_eq k l s hr
    have hd : decide (0 ≤ k ∧ k ≤ 4) = true := decide_eq_true hr
    have HL : Hid (∀ (W : World) (b : Nat), W.ownsMap Try.prog 3 formR b 5 formsD → (Instr.lookup 49 (.map (some b)) (.int .i64 k) true).run Try.prog W = .ok (.tuple #[.agg #[.string f, .int .i64 mn, .int .i64 mx, .bool nm], .bool true]) W) :=
      fun W b h => by rw [lookForm h k hk, hf, hd]
    have HF : Hid (fitsB mn mx nm l s = v) := hfit.trans hv
    clear hf hfit hv hr hd hk
    go_enter Try.func19, Try.ntmps19
    go_wp2_with fail
    generalize w.alloc (.cells #[.int .i64 k, .int .i64 l, .string s] 25) = W0 at hlay ⊢
    obtain ⟨⟨c0, c1, c2⟩, hlt0, hb0⟩ := hlay.out
    have hne : ¬ W0.heap.size = w.heap.size := by omega
    have hne' : ¬ w.heap.size = W0.heap.size := by omega
    have hst : Hid (∀ a b : World, W0.heap.size ≤ a.heap.size → (a.cell? ⟨w.heap.size, 0, none⟩ = some (.int .i64 k) ∧ a.cell? ⟨w.heap.size, 1, none⟩ = some (.int .i64 l) ∧ a.cell? ⟨w.heap.size, 2, none⟩ = some (.string s)) → Below a.heap.size a b → (b.cell? ⟨w.heap.size, 0, none⟩ = some (.int .i64 k) ∧ b.cell? ⟨w.heap.size, 1, none⟩ = some (.int .i64 l) ∧ b.cell? ⟨w.heap.size, 2, none⟩ = some (.string s))) :=
      fun a b hle h hb => ⟨(hb.cell (p := ⟨w.heap.size, 0, none⟩) (Nat.lt_of_lt_of_le hlt0 hle)).trans h.1, (hb.cell (p := ⟨w.heap.size, 1, none⟩) (Nat.lt_of_lt_of_le hlt0 hle)).trans h.2.1, (hb.cell (p := ⟨w.heap.size, 2, none⟩) (Nat.lt_of_lt_of_le hlt0 hle)).trans h.2.2⟩
    have HB0 := Lib.hid hb0
    clear hb0
    go_region_held3 (fun w' => w'.cell? ⟨w.heap.size, 0, none⟩ = some (.int .i64 k) ∧ w'.cell? ⟨w.heap.size, 1, none⟩ = some (.int .i64 l) ∧ w'.cell? ⟨w.heap.size, 2, none⟩ = some (.string s))
      (go_keep)
      ((go_at_call 34; refine (implForms _).mono ?_; rintro e w1 ⟨rfl, o1, b1⟩; have q1 := HL.out _ _ o1; have q2 := fun o => HL.out _ _ (World.ownsMap.alloc o1 o); obtain ⟨hcw, hfw⟩ := blockCells b1; (try simp only [World.size_alloc, drew_heap] at q1 q2); obtain ⟨d0, d1, d2⟩ := hst.out _ _ (by simp) (by assumption) b1; have O1 := Lib.hid o1; have B1 := Lib.hid b1; clear o1 b1))
    · go_wp2_with fail
      refine (implFits f mn mx nm k l s _ v HF.out).mono ?_
      rintro e w9 ⟨rfl, b9⟩
      go_wp2_with fail
      go_ret
      have h0 := HB0.out.drew
      have h1 : Below w.heap.size w w1 := h0.trans (B1.out.mono h0.size)
      have h2 := h1.alloc h1.size (.cells #[.string f, .int .i64 mn, .int .i64 mx, .bool nm] 47)
      exact ⟨rfl, h2.trans (b9.mono h2.size)⟩
    · go_wp2_with fail
      refine (implFits f mn mx nm k l s _ v HF.out).mono ?_
      rintro e w9 ⟨rfl, b9⟩
      go_wp2_with fail
      go_ret
      have h0 := HB0.out.drew
      have h1 : Below w.heap.size w w1 := h0.trans (B1.out.mono h0.size)
      have h2 := h1.alloc h1.size (.cells #[.string f, .int .i64 mn, .int .i64 mx, .bool nm] 47)
      exact ⟨rfl, h2.trans (b9.mono h2.size)⟩
    · go_wp2_with fail
      refine (implFits f mn mx nm k l s _ v HF.out).mono ?_
      rintro e w9 ⟨rfl, b9⟩
      go_wp2_with fail
      go_ret
      have h0 := HB0.out.drew
      have h0a := h0.alloc h0.size (.cells #[.string ⟨#[]⟩, .int .i64 0, .int .i64 0, .bool false] 47)
      have h1 : Below w.heap.size w w1 := h0a.trans (B1.out.mono h0a.size)
      have hq : w.heap.size ≤ W0.heap.size := Nat.le_of_lt hlt0
      have s1 := below_setCell (j := 0) (v := .string f) h1 h1.size hq
      have s2 := below_setCell (j := 1) (v := .int .i64 mn) s1 s1.size hq
      have s3 := below_setCell (j := 2) (v := .int .i64 mx) s2 s2.size hq
      have h2 := below_setCell (j := 3) (v := .bool nm) s3 s3.size hq
      exact ⟨rfl, h2.trans (b9.mono h2.size)⟩
  · have hd : decide (0 ≤ k ∧ k ≤ 4) = false := decide_eq_false hr
    obtain ⟨f, mn, mx, nm, hf⟩ : ∃ f mn mx nm, formOf k = .agg #[.string f, .int .i64 mn, .int .i64 mx, .bool nm] := ⟨⟨#[]⟩, 0, 0, false, by
      unfold formOf
      rw [if_neg (by omega), if_neg (by omega), if_neg (by omega), if_neg (by omega), if_neg (by omega)]
      rfl⟩
    have HL : Hid (∀ (W : World) (b : Nat), W.ownsMap Try.prog 3 formR b 5 formsD → (Instr.lookup 49 (.map (some b)) (.int .i64 k) true).run Try.prog W = .ok (.tuple #[.agg #[.string f, .int .i64 mn, .int .i64 mx, .bool nm], .bool false]) W) :=
      fun W b h => by rw [lookForm h k hk, hf, hd]
    have HF : Hid (v = false) := by
      unfold Hid
      rw [← hv, typeOkB, if_neg (by omega), if_neg (by omega), if_neg (by omega)]
    clear hf hv hr hd hk
    go_enter Try.func19, Try.ntmps19
    go_wp2_with fail
    generalize w.alloc (.cells #[.int .i64 k, .int .i64 l, .string s] 25) = W0 at hlay ⊢
    obtain ⟨⟨c0, c1, c2⟩, hlt0, hb0⟩ := hlay.out
    have hne : ¬ W0.heap.size = w.heap.size := by omega
    have hne' : ¬ w.heap.size = W0.heap.size := by omega
    have hst : Hid (∀ a b : World, W0.heap.size ≤ a.heap.size → (a.cell? ⟨w.heap.size, 0, none⟩ = some (.int .i64 k) ∧ a.cell? ⟨w.heap.size, 1, none⟩ = some (.int .i64 l) ∧ a.cell? ⟨w.heap.size, 2, none⟩ = some (.string s)) → Below a.heap.size a b → (b.cell? ⟨w.heap.size, 0, none⟩ = some (.int .i64 k) ∧ b.cell? ⟨w.heap.size, 1, none⟩ = some (.int .i64 l) ∧ b.cell? ⟨w.heap.size, 2, none⟩ = some (.string s))) :=
      fun a b hle h hb => ⟨(hb.cell (p := ⟨w.heap.size, 0, none⟩) (Nat.lt_of_lt_of_le hlt0 hle)).trans h.1, (hb.cell (p := ⟨w.heap.size, 1, none⟩) (Nat.lt_of_lt_of_le hlt0 hle)).trans h.2.1, (hb.cell (p := ⟨w.heap.size, 2, none⟩) (Nat.lt_of_lt_of_le hlt0 hle)).trans h.2.2⟩
    have HB0 := Lib.hid hb0
    clear hb0
    go_region_held3 (fun w' => w'.cell? ⟨w.heap.size, 0, none⟩ = some (.int .i64 k) ∧ w'.cell? ⟨w.heap.size, 1, none⟩ = some (.int .i64 l) ∧ w'.cell? ⟨w.heap.size, 2, none⟩ = some (.string s))
      (go_keep)
      ((go_at_call 34; refine (implForms _).mono ?_; rintro e w1 ⟨rfl, o1, b1⟩; have q1 := HL.out _ _ o1; have q2 := fun o => HL.out _ _ (World.ownsMap.alloc o1 o); obtain ⟨hcw, hfw⟩ := blockCells b1; (try simp only [World.size_alloc, drew_heap] at q1 q2); obtain ⟨d0, d1, d2⟩ := hst.out _ _ (by simp) (by assumption) b1; have O1 := Lib.hid o1; have B1 := Lib.hid b1; clear o1 b1))
    · go_wp2_with fail
      go_ret
      have h0 := HB0.out.drew
      have h1 : Below w.heap.size w w1 := h0.trans (B1.out.mono h0.size)
      have h2 := h1.alloc h1.size (.cells #[.string f, .int .i64 mn, .int .i64 mx, .bool nm] 47)
      exact ⟨by rw [HF.out]; rfl, h2⟩
    · go_wp2_with fail
      go_ret
      have h0 := HB0.out.drew
      have h1 : Below w.heap.size w w1 := h0.trans (B1.out.mono h0.size)
      have h2 := h1.alloc h1.size (.cells #[.string f, .int .i64 mn, .int .i64 mx, .bool nm] 47)
      exact ⟨by rw [HF.out]; rfl, h2⟩
    · go_wp2_with fail
      go_ret
      have h0 := HB0.out.drew
      have h0a := h0.alloc h0.size (.cells #[.string ⟨#[]⟩, .int .i64 0, .int .i64 0, .bool false] 47)
      have h1 : Below w.heap.size w w1 := h0a.trans (B1.out.mono h0a.size)
      have hq : w.heap.size ≤ W0.heap.size := Nat.le_of_lt hlt0
      have s1 := below_setCell (j := 0) (v := .string f) h1 h1.size hq
      have s2 := below_setCell (j := 1) (v := .int .i64 mn) s1 s1.size hq
      have s3 := below_setCell (j := 2) (v := .int .i64 mx) s2 s2.size hq
      have h2 := below_setCell (j := 3) (v := .bool nm) s3 s3.size hq
      exact ⟨by rw [HF.out]; rfl, h2⟩

end Go.Proofs.Ytndbmnnomokfkaa
