/- spec.l05Fit: whether two kids fit. -/
import Derived.Test.YtefjjcoaeanagaaDoorSrtP
import Derived.Laws.StructEq
import Derived.Deep.RegionHeld3
import Derived.Deep.DrawnRows
namespace Go.Proofs.YtefjjcoaeanagaaDoor
open Go.RowKit

theorem eqlSo (k : Int) (s : ByteArray) (k' : Int) (s' : ByteArray) (w : World) :
    (binOp .eql 32 (.agg #[.int .i64 k, .string s]) (.agg #[.int .i64 k', .string s'])).run Tryd.prog w = .ok (.bool (soEq ⟨k, s⟩ ⟨k', s'⟩)) w := by
  have u3 := Tryd.underlying3
  have u9 := Tryd.underlying9
  have hS : Tryd.prog.underlying 32 = some (.struct (Tryd.prog.fieldsOf 32)) := by kernel_rfl
  have hp : Tryd.prog.stoodInHeld 32 = false := by kernel_rfl
  rw [run_eql_struct, show (10000 : Nat) = 9999 + 1 from rfl, run_equalIn_agg w 9999 32 _ _ hS hp]
  simp only [Program.fieldsOf, Tryd.underlying32]
  unfold soEq
  go_simp
  by_cases h1 : k = k' <;> by_cases h3 : s.toList = s'.toList <;> simp [h1, h3]

theorem guardSo (x y : Operand) (k : Int) (s : ByteArray) (k' : Int) (s' : ByteArray) (w : World) :
    (eqGuard .eql 32 x y (.agg #[.int .i64 k, .string s]) (.agg #[.int .i64 k', .string s'])).run Tryd.prog w = .ok () w :=
  run_eqGuard_agg w .eql 32 x y _ _ (by kernel_rfl)

theorem drewB {B : Nat} {a w : World} (h : Below B a w) : Below B a w.drew := ⟨h.os, h.tape, h.output, h.size, h.block⟩

set_option maxRecDepth 100000 in
set_option maxHeartbeats 4000000 in
theorem specFit (e x y : Ex) (ak : Option Addr) (ck d : Nat) (a b : So) (la : Option Addr) (lc : Nat) (ls : List Lb) (w : World) (hk : KidsAt w (d + 1) ak ck e.kids) (he : e.kids = [x, y]) (hL : Lbs w la lc ls) :
    Calls Tryd.prog 68 #[.agg #[.int .i64 e.kind, .string e.text, .int .i64 e.num, .slice ak e.kids.length ck], a.v, b.v, .slice la ls.length lc] w fun v w' => v = .returned (.bool (fitS ls x y a b)) ∧ Below w.heap.size w w' := by
  obtain ⟨k1, s1⟩ := a
  obtain ⟨k2, s2⟩ := b
  rw [he] at hk ⊢
  obtain ⟨kb, off, rfl, hbl, q0, q1, q2, _, xa, xc, q3, _⟩ := hk.spot (i := 0) (by simp)
  obtain ⟨kb', off', hab, _, r0, r1, r2, _, ya, yc, r3, _⟩ := hk.spot (i := 1) (by simp)
  cases hab
  simp only [List.getElem_cons_zero, List.getElem_cons_succ, Nat.zero_mul, Nat.one_mul, Nat.add_zero] at q0 q1 q2 q3 r0 r1 r2 r3
  have hq := fun w => eqlSo k1 s1 k2 s2 w
  have hG := fun x y w => guardSo x y k1 s1 k2 s2 w
  have hne : kb ≠ w.heap.size := by omega
  have hne1 : kb ≠ w.heap.size + 1 := by omega
  have hne2 : kb ≠ w.heap.size + 1 + 1 := by omega
  have HX := Lib.hid (fun w' hb => hL.below (w' := w') hb)
  obtain ⟨W1, hW⟩ : ∃ W1, W1 = (((w.alloc (.cells #[.int .i64 e.kind, .string e.text, .int .i64 e.num, .slice (some ⟨kb, off, none⟩) 2 ck] 26)).alloc (.cells #[.int .i64 k1, .string s1] 32)).alloc (.cells #[.int .i64 k2, .string s2] 32)) := ⟨_, rfl⟩
  have hB : Below w.heap.size w W1 := by rw [hW]; exact (((Below.refl _ _).alloc (Nat.le_refl _) _).alloc (by simp) _).alloc (by simp; omega) _
  have hc := fun o => hB.cell (p := ⟨kb, o, none⟩) hbl
  have p0 : W1.cell? ⟨w.heap.size, 3, none⟩ = some (.slice (some ⟨kb, off, none⟩) 2 ck) := by rw [hW]; simp [go_sem]
  have p1 : W1.cell? ⟨w.heap.size + 1, 0, none⟩ = some (.int .i64 k1) := by rw [hW]; simp [go_sem]
  have p2 : W1.cell? ⟨w.heap.size + 1, 1, none⟩ = some (.string s1) := by rw [hW]; simp [go_sem]
  have p3 : W1.cell? ⟨w.heap.size + 1 + 1, 0, none⟩ = some (.int .i64 k2) := by rw [hW]; simp [go_sem]
  have p4 : W1.cell? ⟨w.heap.size + 1 + 1, 1, none⟩ = some (.string s2) := by rw [hW]; simp [go_sem]
  have q0' : W1.cell? ⟨kb, off, none⟩ = some (.int .i64 x.kind) := (hc _).trans q0
  have q1' : W1.cell? ⟨kb, off + 1, none⟩ = some (.string x.text) := (hc _).trans q1
  have q2' : W1.cell? ⟨kb, off + 2, none⟩ = some (.int .i64 x.num) := (hc _).trans q2
  have q3' : W1.cell? ⟨kb, off + 3, none⟩ = some (.slice xa x.kids.length xc) := (hc _).trans q3
  have r0' : W1.cell? ⟨kb, off + 4, none⟩ = some (.int .i64 y.kind) := (hc _).trans r0
  have r1' : W1.cell? ⟨kb, off + 4 + 1, none⟩ = some (.string y.text) := (hc _).trans r1
  have r2' : W1.cell? ⟨kb, off + 4 + 2, none⟩ = some (.int .i64 y.num) := (hc _).trans r2
  have r3' : W1.cell? ⟨kb, off + 4 + 3, none⟩ = some (.slice ya y.kids.length yc) := (hc _).trans r3
  have m0 := World.new_ne W1 _ p0
  have m1 := World.new_ne W1 _ p1
  have m2 := World.new_ne W1 _ p3
  have m3 := World.new_ne W1 _ q0'
  simp only at m0 m1 m2 m3
  have HB3 : Hid (∀ o1 o2 n, Below w.heap.size w (((W1.alloc o1).alloc o2).drewN n)) := fun o1 o2 n => below_drewN ((hB.alloc hB.size _).alloc (by have := hB.size; simp; omega) _) n
  have HB2 : Hid (∀ o1 o2, Below w.heap.size w ((W1.alloc o1).alloc o2).drew) := fun o1 o2 => drewB ((hB.alloc hB.size _).alloc (by have := hB.size; simp; omega) _)
  clear hk hL hB hc q0 q1 q2 q3 r0 r1 r2 r3
  unfold So.v
  simp only [List.length_cons, List.length_nil]
  go_enter Tryd.func68, Tryd.ntmps68
  go_wp2_with fail
  rw [← hW]
  clear hW
  go_region_held3 (fun w' => w'.cell? ⟨w.heap.size, 3, none⟩ = some (.slice (some ⟨kb, off, none⟩) 2 ck) ∧ w'.cell? ⟨w.heap.size + 1, 0, none⟩ = some (.int .i64 k1) ∧ w'.cell? ⟨w.heap.size + 1, 1, none⟩ = some (.string s1) ∧ w'.cell? ⟨w.heap.size + 1 + 1, 0, none⟩ = some (.int .i64 k2) ∧ w'.cell? ⟨w.heap.size + 1 + 1, 1, none⟩ = some (.string s2) ∧ w'.cell? ⟨kb, off, none⟩ = some (.int .i64 x.kind) ∧ w'.cell? ⟨kb, off + 1, none⟩ = some (.string x.text) ∧ w'.cell? ⟨kb, off + 2, none⟩ = some (.int .i64 x.num) ∧ w'.cell? ⟨kb, off + 3, none⟩ = some (.slice xa x.kids.length xc) ∧ w'.cell? ⟨kb, off + 4, none⟩ = some (.int .i64 y.kind) ∧ w'.cell? ⟨kb, off + 4 + 1, none⟩ = some (.string y.text) ∧ w'.cell? ⟨kb, off + 4 + 2, none⟩ = some (.int .i64 y.num) ∧ w'.cell? ⟨kb, off + 4 + 3, none⟩ = some (.slice ya y.kids.length yc)) (go_keep) (fail)
  all_goals
    cases h1 : soEq ⟨k1, s1⟩ ⟨k2, s2⟩ with
    | true =>
      have HE : Hid (fitS ls x y ⟨k1, s1⟩ ⟨k2, s2⟩ = true) := by unfold Hid fitS; simp [h1]
      go_wp2_with fail
      go_ret
      exact ⟨by rw [HE.out]; rfl, HB2.out _ _⟩
    | false =>
      cases h2 : (k1 == 4) with
      | true =>
        have HE : Hid (fitS ls x y ⟨k1, s1⟩ ⟨k2, s2⟩ = true) := by unfold Hid fitS; simp [h1, h2]
        go_wp2_with fail
        go_ret
        exact ⟨by rw [HE.out]; rfl, HB2.out _ _⟩
      | false =>
        cases h3 : (k2 == 4) with
        | true =>
          have HE : Hid (fitS ls x y ⟨k1, s1⟩ ⟨k2, s2⟩ = true) := by unfold Hid fitS; simp [h1, h2, h3]
          go_wp2_with fail
          go_ret
          exact ⟨by rw [HE.out]; rfl, HB2.out _ _⟩
        | false =>
          cases h4 : (k1 == 3) with
          | true =>
            cases h5 : (y.kind == 2) with
            | true =>
              have HE : Hid (fitS ls x y ⟨k1, s1⟩ ⟨k2, s2⟩ = labB ls s1 y.text) := by unfold Hid fitS; simp [h1, h2, h3, h4, h5]
              go_wp2_with fail
              refine (specLabel la lc ls s1 y.text _ (HX.out _ (HB2.out _ _))).mono ?_
              rintro e w2 ⟨rfl, nn, rfl⟩
              go_wp2_with fail
              go_ret
              exact ⟨by rw [HE.out]; rfl, HB3.out _ _ _⟩
            | false =>
              cases h6 : (k2 == 3) with
              | true =>
                cases h7 : (x.kind == 2) with
                | true =>
                  have HE : Hid (fitS ls x y ⟨k1, s1⟩ ⟨k2, s2⟩ = labB ls s2 x.text) := by unfold Hid fitS; simp [h1, h2, h3, h4, h5, h6, h7]
                  go_wp2_with fail
                  refine (specLabel la lc ls s2 x.text _ (HX.out _ (HB2.out _ _))).mono ?_
                  rintro e w2 ⟨rfl, nn, rfl⟩
                  go_wp2_with fail
                  go_ret
                  exact ⟨by rw [HE.out]; rfl, HB3.out _ _ _⟩
                | false =>
                  have HE : Hid (fitS ls x y ⟨k1, s1⟩ ⟨k2, s2⟩ = false) := by unfold Hid fitS; simp [h1, h2, h3, h4, h5, h6, h7]
                  go_wp2_with fail
                  go_ret
                  exact ⟨by rw [HE.out]; rfl, HB2.out _ _⟩
              | false =>
                have HE : Hid (fitS ls x y ⟨k1, s1⟩ ⟨k2, s2⟩ = false) := by unfold Hid fitS; simp [h1, h2, h3, h4, h5, h6]
                go_wp2_with fail
                go_ret
                exact ⟨by rw [HE.out]; rfl, HB2.out _ _⟩
          | false =>
            cases h6 : (k2 == 3) with
            | true =>
              cases h7 : (x.kind == 2) with
              | true =>
                have HE : Hid (fitS ls x y ⟨k1, s1⟩ ⟨k2, s2⟩ = labB ls s2 x.text) := by unfold Hid fitS; simp [h1, h2, h3, h4, h6, h7]
                go_wp2_with fail
                refine (specLabel la lc ls s2 x.text _ (HX.out _ (HB2.out _ _))).mono ?_
                rintro e w2 ⟨rfl, nn, rfl⟩
                go_wp2_with fail
                go_ret
                exact ⟨by rw [HE.out]; rfl, HB3.out _ _ _⟩
              | false =>
                have HE : Hid (fitS ls x y ⟨k1, s1⟩ ⟨k2, s2⟩ = false) := by unfold Hid fitS; simp [h1, h2, h3, h4, h6, h7]
                go_wp2_with fail
                go_ret
                exact ⟨by rw [HE.out]; rfl, HB2.out _ _⟩
            | false =>
              have HE : Hid (fitS ls x y ⟨k1, s1⟩ ⟨k2, s2⟩ = false) := by unfold Hid fitS; simp [h1, h2, h3, h4, h6]
              go_wp2_with fail
              go_ret
              exact ⟨by rw [HE.out]; rfl, HB2.out _ _⟩

end Go.Proofs.YtefjjcoaeanagaaDoor
