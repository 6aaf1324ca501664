/- spec.Gives. -/
import Derived.Test.YtefjjcoaeanagaaDoorSofS
namespace Go.Proofs.YtefjjcoaeanagaaDoor
open Go.RowKit

/-- What may stand where a type does, of what the values of an expression are. -/
def gvK (ls : List Lb) (t : Ty) (e : Ex) (k : Int) : Bool :=
  if (k == 4) = true then true else if (k == 0) = true then t.kind == 0 else if (k == 2) = true then t.kind == 2
  else if (t.kind == 1) = true then true else if (t.kind == 3) = true ∧ (e.kind == 2) = true ∧ (e.text.size : Int) ≤ t.len then true
  else if (t.kind == 4) = true ∧ (e.kind == 2) = true then labB ls t.name e.text else false

def gvS (ls : List Lb) (t : Ty) (e : Ex) : Bool := if (sofS [] ls e).2 = 0 then gvK ls t e (sofS [] ls e).1.kind else false

set_option maxRecDepth 100000 in
set_option maxHeartbeats 8000000 in
theorem specGives (e : Ex) (ak : Option Addr) (ck d : Nat) (t : Ty) (la : Option Addr) (lc : Nat) (ls : List Lb) (w : World) (hfit : e.fit) (hk : KidsAt w d ak ck e.kids) (hwt : e.wt ≤ 1048576) (hL : Lbs w la lc ls) :
    Calls Tryd.prog 14 #[.agg #[.int .i64 e.kind, .string e.text, .int .i64 e.num, .slice ak e.kids.length ck], .agg #[.int .i64 t.kind, .int .i64 t.len, .string t.name], .slice la ls.length lc] w fun x w' => x = .returned (.bool (gvS ls t e)) ∧ Below w.heap.size w w' := by
  have HK := Lib.hid (fun w' hb => hk.below (w' := w') hb)
  have HL := Lib.hid (fun w' hb => hL.below (w' := w') hb)
  have HG : Hid (gvS ls t e = if (sofS [] ls e).2 = 0 then gvK ls t e (sofS [] ls e).1.kind else false) := rfl
  have HSO := Lib.hid (fun w' (hb : Below w.heap.size w w') ca => specSortOf e ak ck d ca 0 [] la lc ls w' hfit (HK.out w' hb) hwt)
  clear hk hL
  go_enter Tryd.func14, Tryd.ntmps14
  go_wp2_with fail
  refine (HSO.out _ ((((Below.refl _ _).alloc (Nat.le_refl _) _).alloc (by simp) _).alloc (by simp; omega) _) (some ⟨w.heap.size + 1 + 1, 0, none⟩) ⟨Nat.le_refl _, by unfold maxLen; omega, (fun h => by cases h), fun h => absurd h (by simp)⟩ (HL.out _ ((((Below.refl _ _).alloc (Nat.le_refl _) _).alloc (by simp) _).alloc (by simp; omega) _))).mono ?_
  rintro x w2 ⟨rfl, b2⟩
  have BE := Lib.hid (Blk.call b2 (((blk_new w _ [.int .i64 e.kind, .string e.text, .int .i64 e.num, .slice ak e.kids.length ck]).alloc _).alloc _))
  have BT := Lib.hid (Blk.call b2 ((blk_new' (w := w.alloc _) (b := w.heap.size + 1) (by simp) _ [.int .i64 t.kind, .int .i64 t.len, .string t.name]).alloc _))
  have HB := Lib.hid (show Below w.heap.size w w2 from Below.call b2 ((((Below.refl _ _).alloc (Nat.le_refl _) _).alloc (by simp) _).alloc (by simp; omega) _))
  have e0 : w2.cell? ⟨w.heap.size, 0, none⟩ = some (.int .i64 e.kind) := (BE.out.2 0 (by simp)).1
  have e1 : w2.cell? ⟨w.heap.size, 1, none⟩ = some (.string e.text) := (BE.out.2 1 (by simp)).1
  have t0 : w2.cell? ⟨w.heap.size + 1, 0, none⟩ = some (.int .i64 t.kind) := (BT.out.2 0 (by simp)).1
  have t1 : w2.cell? ⟨w.heap.size + 1, 1, none⟩ = some (.int .i64 t.len) := (BT.out.2 1 (by simp)).1
  have t2 : w2.cell? ⟨w.heap.size + 1, 2, none⟩ = some (.string t.name) := (BT.out.2 2 (by simp)).1
  have he0 : w.heap.size < w2.heap.size := BE.out.1
  have ht0 : w.heap.size + 1 < w2.heap.size := BT.out.1
  have hts : e.text.size ≤ 9223372036854775807 := by have := hfit.1; unfold maxLen at this; omega
  have HB4 : Hid (∀ o, Below w.heap.size w (w2.alloc o)) := fun o => HB.out.alloc (by omega) o
  have HB5 : Hid (∀ o n, Below w.heap.size w ((w2.alloc o).drewN n)) := fun o n => below_drewN (HB4.out o) n
  have HLL : Hid (∀ o, Lbs (w2.alloc o) la lc ls) := fun o => HL.out _ (HB4.out o)
  generalize hsf : sofS [] ls e = sf
  rw [hsf] at HG
  obtain ⟨⟨sk, sn⟩, code⟩ := sf
  clear b2 HSO
  unfold So.v
  simp only at HG ⊢
  by_cases hcd : code = 0
  · subst hcd
    have HG2 : Hid (gvS ls t e = gvK ls t e sk) := by unfold Hid; rw [HG.out]; rfl
    cases h4 : (sk == 4) with
    | true =>
      have HE : Hid (gvS ls t e = true) := by unfold Hid; rw [HG2.out]; simp [gvK, h4]
      go_wp2_with fail
      go_ret
      exact ⟨by rw [HE.out]; rfl, HB4.out _⟩
    | false =>
    cases h0 : (sk == 0) with
    | true =>
      have HE : Hid (gvS ls t e = (t.kind == 0)) := by unfold Hid; rw [HG2.out]; simp [gvK, h4, h0]
      go_wp2_with fail
      go_ret
      exact ⟨by rw [HE.out]; rfl, HB4.out _⟩
    | false =>
    cases h2 : (sk == 2) with
    | true =>
      have HE : Hid (gvS ls t e = (t.kind == 2)) := by unfold Hid; rw [HG2.out]; simp [gvK, h4, h0, h2]
      go_wp2_with fail
      go_ret
      exact ⟨by rw [HE.out]; rfl, HB4.out _⟩
    | false =>
    cases k1 : (t.kind == 1) with
    | true =>
      have HE : Hid (gvS ls t e = true) := by unfold Hid; rw [HG2.out]; simp [gvK, h4, h0, h2, k1]
      go_wp2_with fail
      go_ret
      exact ⟨by rw [HE.out]; rfl, HB4.out _⟩
    | false =>
    cases k3 : (t.kind == 3) with
    | true =>
      have k4 : (t.kind == 4) = false := by simp at k3 ⊢; omega
      cases ek : (e.kind == 2) with
      | true =>
        cases hl : decide ((e.text.size : Int) ≤ t.len) with
        | true =>
          have hl' : (e.text.size : Int) ≤ t.len := by simpa using hl
          have HE : Hid (gvS ls t e = true) := by unfold Hid; rw [HG2.out]; simp [gvK, h4, h0, h2, k1, k3, ek, hl']
          go_wp2_with fail
          go_ret
          exact ⟨by rw [HE.out]; rfl, HB4.out _⟩
        | false =>
          have hl' : ¬ (e.text.size : Int) ≤ t.len := by simpa using hl
          have HE : Hid (gvS ls t e = false) := by unfold Hid; rw [HG2.out]; simp [gvK, h4, h0, h2, k1, k3, ek, hl', k4]
          go_wp2_with fail
          go_ret
          exact ⟨by rw [HE.out]; rfl, HB4.out _⟩
      | false =>
        have HE : Hid (gvS ls t e = false) := by unfold Hid; rw [HG2.out]; simp [gvK, h4, h0, h2, k1, k3, ek, k4]
        go_wp2_with fail
        go_ret
        exact ⟨by rw [HE.out]; rfl, HB4.out _⟩
    | false =>
    cases k4 : (t.kind == 4) with
    | true =>
      cases ek : (e.kind == 2) with
      | true =>
        have HE : Hid (gvS ls t e = labB ls t.name e.text) := by unfold Hid; rw [HG2.out]; simp [gvK, h4, h0, h2, k1, k3, k4, ek]
        go_wp2_with fail
        refine (specLabel la lc ls t.name e.text _ (HLL.out _)).mono ?_
        rintro x w3 ⟨rfl, nn, rfl⟩
        go_wp2_with fail
        go_ret
        exact ⟨by rw [HE.out]; rfl, HB5.out _ _⟩
      | false =>
        have HE : Hid (gvS ls t e = false) := by unfold Hid; rw [HG2.out]; simp [gvK, h4, h0, h2, k1, k3, k4, ek]
        go_wp2_with fail
        go_ret
        exact ⟨by rw [HE.out]; rfl, HB4.out _⟩
    | false =>
      have HE : Hid (gvS ls t e = false) := by unfold Hid; rw [HG2.out]; simp [gvK, h4, h0, h2, k1, k3, k4]
      go_wp2_with fail
      go_ret
      exact ⟨by rw [HE.out]; rfl, HB4.out _⟩
  · have hcn : (code != 0) = true := by simpa using hcd
    have HE : Hid (gvS ls t e = false) := by unfold Hid; rw [HG.out, if_neg hcd]
    clear hcd
    go_wp2_with fail
    go_ret
    exact ⟨by rw [HE.out]; rfl, HB4.out _⟩

end Go.Proofs.YtefjjcoaeanagaaDoor
