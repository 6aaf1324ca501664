/- spec.l04Put: two kids; the whole; spec.PutExpr. -/
/- spec.Join and impl.Join (over strings.Join) both answer the texts with another between them. -/
/- Columns and rules that can be written: when they can, and how they are written. Nothing of the program. -/
/- The program's table of the kinds of expressions: what the row lists of it, cell by cell. -/
/- The program's table of the kinds of rules: what the row lists of it, cell by cell; what a row lists behind another. -/
/- The laws' own helpers over expressions: the size that is left. -/
/- The helpers over texts, expressions and types in the one form that schemas take; blocks that are written step by step. -/
import Derived.Test.YtpdcmmhhgnackaaGreatDoorMExNodes
import Derived.Test.YtpdcmmhhgnackaaGreatDoorMMem
import Derived.Test.YtpdcmmhhgnackaaGreatDoorMPl
import Derived.Test.YtpdcmmhhgnackaaGreatDoorMShelf
import Derived.Lib.Join
import Derived.Test.YtpdcmmhhgnackaaGreatDoorMBuilder
import Derived.Test.YtpdcmmhhgnackaaGreatDoorCards
import Derived.OpenShut
import Derived.LaidMore
import Derived.Lib.LaidTab
import Derived.Below
import Derived.Stop.LaidErr
import Derived.Test.YtpdcmmhhgnackaaGreatDoorMNameImpl
namespace Go.Proofs.YtpdcmmhhgnackaaGreatDoor
open Go.RowKit

/-- The argument's box and the two kids, cell by cell. -/
structure TwoK (n0 : Nat) (w : World) (k : Int) (bb off c : Nat) (x y : Ex) (ax ay : Option Addr) (cx cy d : Nat) (w' : World) : Prop where
  lt : n0 < w'.heap.size
  lb : bb < w'.heap.size
  k0 : w'.cell? ⟨n0, 0, none⟩ = some (.int .i64 k)
  k3 : w'.cell? ⟨n0, 3, none⟩ = some (.slice (some ⟨bb, off, none⟩) 2 c)
  x0 : w'.cell? ⟨bb, off, none⟩ = some (.int .i64 x.kind)
  x1 : w'.cell? ⟨bb, off + 1, none⟩ = some (.string x.text)
  x2 : w'.cell? ⟨bb, off + 2, none⟩ = some (.int .i64 x.num)
  x3 : w'.cell? ⟨bb, off + 3, none⟩ = some (.slice ax x.kids.length cx)
  y0 : w'.cell? ⟨bb, off + 4, none⟩ = some (.int .i64 y.kind)
  y1 : w'.cell? ⟨bb, off + 4 + 1, none⟩ = some (.string y.text)
  y2 : w'.cell? ⟨bb, off + 4 + 2, none⟩ = some (.int .i64 y.num)
  y3 : w'.cell? ⟨bb, off + 4 + 3, none⟩ = some (.slice ay y.kids.length cy)
  kx : KidsAt w' d ax cx x.kids
  ky : KidsAt w' d ay cy y.kids
  bel : Below w.heap.size w w'

theorem TwoK.below {n0 : Nat} {w wa wb : World} {k : Int} {bb off c : Nat} {x y : Ex} {ax ay : Option Addr} {cx cy d : Nat} (h : TwoK n0 w k bb off c x y ax ay cx cy d wa) (hb : Below wa.heap.size wa wb) : TwoK n0 w k bb off c x y ax ay cx cy d wb :=
  ⟨Nat.lt_of_lt_of_le h.lt hb.size, Nat.lt_of_lt_of_le h.lb hb.size, (hb.cell (p := ⟨n0, 0, none⟩) h.lt).trans h.k0, (hb.cell (p := ⟨n0, 3, none⟩) h.lt).trans h.k3,
   (hb.cell (p := ⟨bb, off, none⟩) h.lb).trans h.x0, (hb.cell (p := ⟨bb, off + 1, none⟩) h.lb).trans h.x1, (hb.cell (p := ⟨bb, off + 2, none⟩) h.lb).trans h.x2, (hb.cell (p := ⟨bb, off + 3, none⟩) h.lb).trans h.x3,
   (hb.cell (p := ⟨bb, off + 4, none⟩) h.lb).trans h.y0, (hb.cell (p := ⟨bb, off + 4 + 1, none⟩) h.lb).trans h.y1, (hb.cell (p := ⟨bb, off + 4 + 2, none⟩) h.lb).trans h.y2, (hb.cell (p := ⟨bb, off + 4 + 3, none⟩) h.lb).trans h.y3,
   h.kx.below hb, h.ky.below hb, h.bel.trans (hb.mono h.bel.size)⟩

theorem TwoK.drew {n0 : Nat} {w wa : World} {k : Int} {bb off c : Nat} {x y : Ex} {ax ay : Option Addr} {cx cy d : Nat} (h : TwoK n0 w k bb off c x y ax ay cx cy d wa) : TwoK n0 w k bb off c x y ax ay cx cy d wa.drew := h.below (below_drewE (Below.refl _ _))

def CellsT (n0 : Nat) (k : Int) (bb off c : Nat) (x y : Ex) (ax ay : Option Addr) (cx cy : Nat) (w' : World) : Prop :=
  w'.cell? ⟨n0, 0, none⟩ = some (.int .i64 k) ∧ w'.cell? ⟨n0, 3, none⟩ = some (.slice (some ⟨bb, off, none⟩) 2 c) ∧
  w'.cell? ⟨bb, off, none⟩ = some (.int .i64 x.kind) ∧ w'.cell? ⟨bb, off + 1, none⟩ = some (.string x.text) ∧ w'.cell? ⟨bb, off + 2, none⟩ = some (.int .i64 x.num) ∧ w'.cell? ⟨bb, off + 3, none⟩ = some (.slice ax x.kids.length cx) ∧
  w'.cell? ⟨bb, off + 4, none⟩ = some (.int .i64 y.kind) ∧ w'.cell? ⟨bb, off + 4 + 1, none⟩ = some (.string y.text) ∧ w'.cell? ⟨bb, off + 4 + 2, none⟩ = some (.int .i64 y.num) ∧ w'.cell? ⟨bb, off + 4 + 3, none⟩ = some (.slice ay y.kids.length cy)

theorem TwoK.cells {n0 : Nat} {w wa : World} {k : Int} {bb off c : Nat} {x y : Ex} {ax ay : Option Addr} {cx cy d : Nat} (h : TwoK n0 w k bb off c x y ax ay cx cy d wa) : CellsT n0 k bb off c x y ax ay cx cy wa :=
  ⟨h.k0, h.k3, h.x0, h.x1, h.x2, h.x3, h.y0, h.y1, h.y2, h.y3⟩

theorem specSignEB (k : Int) (h0 : 8 ≤ k) (h1 : k ≤ 18) (w : World) (s : ByteArray) (hs : txt (signK k) = s) : Calls Tryz.prog 111 #[.int .i64 k] w fun e w' => e = .returned (.string s) ∧ w' = w := by
  subst hs; exact specSignE k h0 h1 w

set_option maxRecDepth 100000 in
set_option maxHeartbeats 4000000 in
theorem putTwo (d : Nat) (ih : PutP d) (k : Int) (hk : k ∈ ([8, 9, 10, 11, 12, 13, 14, 15, 16, 17, 18] : List Int)) (t : ByteArray) (n : Int) (x y : Ex) (a : Option Addr) (c : Nat) (L : Nat) (w : World) (hsx : shapeE x = true) (hsy : shapeE y = true) (hn : x.nodes ≤ 39 ∧ y.nodes ≤ 39) (hL : L ≤ 7) (hx : KidsAt w (d + 1) a c [x, y]) :
    Calls Tryz.prog 70 #[.agg #[.int .i64 k, .string t, .int .i64 n, .slice a 2 c], .int .i64 (L : Int)] w fun z w' => z = .returned (.string (tE (.mk k t n [x, y]) L)) ∧ Below w.heap.size w w' := by
  have HBX := Lib.hid (fun T => boxK_new w k t n a 2 c T)
  have HK := Lib.hid (fun w' hb => hx.below (w' := w') hb)
  clear hx
  obtain ⟨hb6, hb3⟩ := two_binds hk
  have hb1 := (binds_range k).1
  have hk18 : 8 ≤ k ∧ k ≤ 18 := by
    have : ∀ k ∈ ([8, 9, 10, 11, 12, 13, 14, 15, 16, 17, 18] : List Int), 8 ≤ k ∧ k ≤ 18 := by decide
    exact this k hk
  have kb : (k == 0) = false ∧ (k == 1) = false ∧ (k == 2) = false ∧ (k == 3) = false ∧ (k == 4) = false ∧ (k == 5) = false ∧ (k == 6) = false ∧ (k == 7) = false := by
    refine ⟨?_, ?_, ?_, ?_, ?_, ?_, ?_, ?_⟩ <;> (simp; omega)
  obtain ⟨kb0, kb1, kb2, kb3, kb4, kb5, kb6, kb7⟩ := kb
  have l3 : (ByteArray.mk #[40]).size = 1 := rfl
  have l4 : (ByteArray.mk #[41]).size = 1 := rfl
  have l5 : (ByteArray.mk #[32]).size = 1 := rfl
  obtain ⟨rs, hrs⟩ : ∃ rs : Ex → Int → ByteArray, rs = fun z m => tE z m.toNat := ⟨_, rfl⟩
  obtain ⟨sg, hsg⟩ : ∃ sg, txt (signK k) = sg := ⟨_, rfl⟩
  obtain ⟨bI, hbI⟩ : ∃ bI : Int, (bindsK k : Int) = bI := ⟨_, rfl⟩
  obtain ⟨fi, hfi⟩ : ∃ fi : Int, (firstK k : Int) = fi := ⟨_, rfl⟩
  obtain ⟨si, hsi⟩ : ∃ si : Int, bI + 1 = si := ⟨_, rfl⟩
  have hw1 : IntKind.i64.wrap (bI + 1) = si := by rw [hsi]; exact IntWalk.i64_in _ (by omega)
  have hzx : (rs x fi).size ≤ 8400 := by rw [hrs]; exact tE_size hsx (by omega)
  have hzy : (rs y si).size ≤ 8400 := by rw [hrs]; exact tE_size hsy (by omega)
  have hzs : sg.size ≤ 3 := by rw [← hsg, txt_size]; exact (sign_no hk).2.2
  obtain ⟨p1, hp1⟩ : ∃ p, p = rs x fi ++ (ByteArray.mk #[32]) := ⟨_, rfl⟩
  obtain ⟨p2, hp2⟩ : ∃ p, p = p1 ++ sg := ⟨_, rfl⟩
  obtain ⟨p3, hp3⟩ : ∃ p, p = p2 ++ (ByteArray.mk #[32]) := ⟨_, rfl⟩
  obtain ⟨p4, hp4⟩ : ∃ p, p = p3 ++ rs y si := ⟨_, rfl⟩
  have z1 : p1.size ≤ 8401 := by rw [hp1, ByteArray.size_append]; omega
  have z2 : p2.size ≤ 8404 := by rw [hp2, ByteArray.size_append]; omega
  have z3 : p3.size ≤ 8405 := by rw [hp3, ByteArray.size_append]; omega
  have z4 : p4.size ≤ 16805 := by rw [hp4, ByteArray.size_append]; omega
  have ad1 : ∀ w, (Op.stringOp .add (rs x fi) (ByteArray.mk #[32])).run Tryz.prog w = .ok (.string p1) w := fun w => by rw [hp1]; exact run_string_add_sum w _ _ (by omega)
  have ad2 : ∀ w, (Op.stringOp .add p1 sg).run Tryz.prog w = .ok (.string p2) w := fun w => by rw [hp2]; exact run_string_add_sum w _ _ (by omega)
  have ad3 : ∀ w, (Op.stringOp .add p2 (ByteArray.mk #[32])).run Tryz.prog w = .ok (.string p3) w := fun w => by rw [hp3]; exact run_string_add_sum w _ _ (by omega)
  have ad4 : ∀ w, (Op.stringOp .add p3 (rs y si)).run Tryz.prog w = .ok (.string p4) w := fun w => by rw [hp4]; exact run_string_add_sum w _ _ (by omega)
  have ad5 : ∀ w, (Op.stringOp .add (ByteArray.mk #[40]) p4).run Tryz.prog w = .ok (.string ((ByteArray.mk #[40]) ++ p4)) w := fun w => run_string_add_sum w _ _ (by omega)
  have ad6 : ∀ w, (Op.stringOp .add ((ByteArray.mk #[40]) ++ p4) (ByteArray.mk #[41])).run Tryz.prog w = .ok (.string ((ByteArray.mk #[40]) ++ p4 ++ (ByteArray.mk #[41]))) w := fun w => run_string_add_sum w _ _ (by rw [ByteArray.size_append]; omega)
  have HE := Lib.hid (tE_end (e := .mk k t n [x, y]) (L := L) (s := p4) (by
    rw [tE_two hk, hp4, hp3, hp2, hp1, hrs, hsg, ← hsi, ← hbI, ← hfi]
    simp only [Int.toNat_natCast]
    rw [show ((bindsK k : Int) + 1).toNat = bindsK k + 1 by omega]
    rfl))
  have cxy : Hid (∀ (z : Ex) (za : Option Addr) (zc : Nat) (m : Int) (W : World), ((z = x ∧ m = fi) ∨ (z = y ∧ m = si)) → KidsAt W d za zc z.kids →
      Calls Tryz.prog 70 #[.agg #[.int .i64 z.kind, .string z.text, .int .i64 z.num, .slice za z.kids.length zc], .int .i64 m] W fun e w' => e = .returned (.string (rs z m)) ∧ Below W.heap.size W w') := by
    intro z za zc m W h hz
    have h7 : firstK k ≤ 7 := by unfold firstK; split <;> omega
    rcases h with ⟨rfl, rfl⟩ | ⟨rfl, rfl⟩
    · have := ih z za zc (firstK k) W hsx (by omega) h7 hz
      rw [hfi] at this
      rw [hrs]
      simp only
      rw [← hfi, Int.toNat_natCast, hfi]
      exact this
    · have := ih z za zc (bindsK k + 1) W hsy (by omega) (by omega) hz
      have e : ((bindsK k + 1 : Nat) : Int) = m := by rw [← hsi, ← hbI]; omega
      rw [e] at this
      rw [hrs]
      simp only
      rw [← e, Int.toNat_natCast, e]
      exact this
  have hfib : fi = if bI = 4 then 5 else bI := by
    rw [← hfi, ← hbI]
    unfold firstK
    split
    · rw [if_pos (by omega)]; rfl
    · rw [if_neg (by omega)]
  have HbI := Lib.hid hbI
  have HSG := Lib.hid hsg
  have hbr : 1 ≤ bI ∧ bI ≤ 6 := by omega
  clear hrs hsg hp1 hp2 hp3 hp4 hsi hfi hbI ih
  by_cases h4 : bI = 4
  · rw [if_pos h4] at hfib
    have hb4 : (bI == 4) = true := by simp; exact h4
    clear h4
    subst hfib
    go_enter Tryz.func70, Tryz.ntmps70
    go_wp2_with fail
    refine (specBindsB k (by omega) (by omega) _ bI HbI.out).mono ?_
    rintro e w1 ⟨rfl, rfl⟩
    have BX := HBX.out 66
    generalize w.alloc (.cells #[.int .i64 k, .string t, .int .i64 n, .slice a 2 c] 66) = W1 at BX ⊢
    obtain ⟨hW1, c0, c1, c2, c3, bW1⟩ := BX
    obtain ⟨b, off, rfl, hbl, d0, d1, d2, _, ax, cx, d3, hkx⟩ := (HK.out _ bW1).spot (i := 0) (by simp)
    obtain ⟨b', off', he, hbl', e0, e1, e2, _, ay, cy, e3, hky⟩ := (HK.out _ bW1).spot (i := 1) (by simp)
    cases he
    simp only [List.getElem_cons_zero, List.getElem_cons_succ, Nat.zero_mul, Nat.one_mul, Nat.add_zero] at d0 d1 d2 d3 hkx e0 e1 e2 e3 hky
    have T1 : Hid (TwoK w.heap.size w k b off c x y ax ay cx cy d W1) := ⟨hW1, hbl, c0, c3, d0, d1, d2, d3, e0, e1, e2, e3, hkx, hky, bW1⟩
    clear c0 c1 c2 c3 d0 d1 d2 d3 e0 e1 e2 e3 hkx hky
    obtain ⟨c0, c3, d0, d1, d2, d3, e0, e1, e2, e3⟩ := T1.out.cells
    have hst : Hid (∀ p q : World, (CellsT w.heap.size k b off c x y ax ay cx cy p ∧ Hid (TwoK w.heap.size w k b off c x y ax ay cx cy d p)) → Below p.heap.size p q → (CellsT w.heap.size k b off c x y ax ay cx cy q ∧ Hid (TwoK w.heap.size w k b off c x y ax ay cx cy d q))) := fun p q h hb => ⟨(h.2.out.below hb).cells, h.2.out.below hb⟩
    unfold CellsT at hst
    go_wp2_with fail
    clear c0 c3 d0 d1 d2 d3 e0 e1 e2 e3
    go_region_held3 (fun w' => (w'.cell? ⟨w.heap.size, 0, none⟩ = some (.int .i64 k) ∧ w'.cell? ⟨w.heap.size, 3, none⟩ = some (.slice (some ⟨b, off, none⟩) 2 c) ∧ w'.cell? ⟨b, off, none⟩ = some (.int .i64 x.kind) ∧ w'.cell? ⟨b, off + 1, none⟩ = some (.string x.text) ∧ w'.cell? ⟨b, off + 2, none⟩ = some (.int .i64 x.num) ∧ w'.cell? ⟨b, off + 3, none⟩ = some (.slice ax x.kids.length cx) ∧
        w'.cell? ⟨b, off + 4, none⟩ = some (.int .i64 y.kind) ∧ w'.cell? ⟨b, off + 4 + 1, none⟩ = some (.string y.text) ∧ w'.cell? ⟨b, off + 4 + 2, none⟩ = some (.int .i64 y.num) ∧ w'.cell? ⟨b, off + 4 + 3, none⟩ = some (.slice ay y.kids.length cy)) ∧ Hid (TwoK w.heap.size w k b off c x y ax ay cx cy d w')) (first | assumption | exact ⟨T1.out.drew.cells, T1.out.drew⟩)
      (first
        | (go_at_call 70; refine (cxy.out _ _ _ _ _ (by first | exact .inl ⟨rfl, rfl⟩ | exact .inr ⟨rfl, rfl⟩) (by first | exact (And.right (by assumption : _ ∧ Hid (TwoK w.heap.size w k b off c x y ax ay cx cy d _))).out.kx | exact (And.right (by assumption : _ ∧ Hid (TwoK w.heap.size w k b off c x y ax ay cx cy d _))).out.ky)).mono ?_; rintro e wq ⟨rfl, bq⟩; have hq := hst.out _ _ (by assumption) bq)
        | (go_at_call 111; refine (specSignEB k (by omega) (by omega) _ sg HSG.out).mono ?_; rintro e wz ⟨rfl, rfl⟩))
    have B9 := Lib.hid hq.2.out.bel
    clear hq
    by_cases hlt : bI < (L : Int)
    · have HR := Lib.hid (HE.out.1 (by show bindsK k < L; have := HbI.out; omega))
      go_wp2_with fail
      go_ret
      exact ⟨by rw [HR.out]; rfl, B9.out⟩
    · have HR := Lib.hid (HE.out.2 (by show ¬ bindsK k < L; have := HbI.out; omega))
      go_wp2_with fail
      go_ret
      exact ⟨by rw [HR.out]; rfl, B9.out⟩
  · rw [if_neg h4] at hfib
    have hb4 : (bI == 4) = false := by simp; exact h4
    clear h4
    have hfib' := hfib.symm
    subst hfib'
    go_enter Tryz.func70, Tryz.ntmps70
    go_wp2_with fail
    refine (specBindsB k (by omega) (by omega) _ bI HbI.out).mono ?_
    rintro e w1 ⟨rfl, rfl⟩
    have BX := HBX.out 66
    generalize w.alloc (.cells #[.int .i64 k, .string t, .int .i64 n, .slice a 2 c] 66) = W1 at BX ⊢
    obtain ⟨hW1, c0, c1, c2, c3, bW1⟩ := BX
    obtain ⟨b, off, rfl, hbl, d0, d1, d2, _, ax, cx, d3, hkx⟩ := (HK.out _ bW1).spot (i := 0) (by simp)
    obtain ⟨b', off', he, hbl', e0, e1, e2, _, ay, cy, e3, hky⟩ := (HK.out _ bW1).spot (i := 1) (by simp)
    cases he
    simp only [List.getElem_cons_zero, List.getElem_cons_succ, Nat.zero_mul, Nat.one_mul, Nat.add_zero] at d0 d1 d2 d3 hkx e0 e1 e2 e3 hky
    have T1 : Hid (TwoK w.heap.size w k b off c x y ax ay cx cy d W1) := ⟨hW1, hbl, c0, c3, d0, d1, d2, d3, e0, e1, e2, e3, hkx, hky, bW1⟩
    clear c0 c1 c2 c3 d0 d1 d2 d3 e0 e1 e2 e3 hkx hky
    obtain ⟨c0, c3, d0, d1, d2, d3, e0, e1, e2, e3⟩ := T1.out.cells
    have hst : Hid (∀ p q : World, (CellsT w.heap.size k b off c x y ax ay cx cy p ∧ Hid (TwoK w.heap.size w k b off c x y ax ay cx cy d p)) → Below p.heap.size p q → (CellsT w.heap.size k b off c x y ax ay cx cy q ∧ Hid (TwoK w.heap.size w k b off c x y ax ay cx cy d q))) := fun p q h hb => ⟨(h.2.out.below hb).cells, h.2.out.below hb⟩
    unfold CellsT at hst
    go_wp2_with fail
    clear c0 c3 d0 d1 d2 d3 e0 e1 e2 e3
    go_region_held3 (fun w' => (w'.cell? ⟨w.heap.size, 0, none⟩ = some (.int .i64 k) ∧ w'.cell? ⟨w.heap.size, 3, none⟩ = some (.slice (some ⟨b, off, none⟩) 2 c) ∧ w'.cell? ⟨b, off, none⟩ = some (.int .i64 x.kind) ∧ w'.cell? ⟨b, off + 1, none⟩ = some (.string x.text) ∧ w'.cell? ⟨b, off + 2, none⟩ = some (.int .i64 x.num) ∧ w'.cell? ⟨b, off + 3, none⟩ = some (.slice ax x.kids.length cx) ∧
        w'.cell? ⟨b, off + 4, none⟩ = some (.int .i64 y.kind) ∧ w'.cell? ⟨b, off + 4 + 1, none⟩ = some (.string y.text) ∧ w'.cell? ⟨b, off + 4 + 2, none⟩ = some (.int .i64 y.num) ∧ w'.cell? ⟨b, off + 4 + 3, none⟩ = some (.slice ay y.kids.length cy)) ∧ Hid (TwoK w.heap.size w k b off c x y ax ay cx cy d w')) (first | assumption | exact ⟨T1.out.drew.cells, T1.out.drew⟩)
      (first
        | (go_at_call 70; refine (cxy.out _ _ _ _ _ (by first | exact .inl ⟨rfl, rfl⟩ | exact .inr ⟨rfl, rfl⟩) (by first | exact (And.right (by assumption : _ ∧ Hid (TwoK w.heap.size w k b off c x y ax ay cx cy d _))).out.kx | exact (And.right (by assumption : _ ∧ Hid (TwoK w.heap.size w k b off c x y ax ay cx cy d _))).out.ky)).mono ?_; rintro e wq ⟨rfl, bq⟩; have hq := hst.out _ _ (by assumption) bq)
        | (go_at_call 111; refine (specSignEB k (by omega) (by omega) _ sg HSG.out).mono ?_; rintro e wz ⟨rfl, rfl⟩))
    have B9 := Lib.hid hq.2.out.bel
    clear hq
    by_cases hlt : bI < (L : Int)
    · have HR := Lib.hid (HE.out.1 (by show bindsK k < L; have := HbI.out; omega))
      go_wp2_with fail
      go_ret
      exact ⟨by rw [HR.out]; rfl, B9.out⟩
    · have HR := Lib.hid (HE.out.2 (by show ¬ bindsK k < L; have := HbI.out; omega))
      go_wp2_with fail
      go_ret
      exact ⟨by rw [HR.out]; rfl, B9.out⟩

theorem specPut : ∀ d, PutP d
  | 0 => fun _ _ _ _ _ _ _ _ h => h.elim
  | d + 1 => by
    intro e a c L w hs hn hL hk
    obtain ⟨k, t, n, kids⟩ := e
    obtain ⟨h1, hl⟩ := shape_parts hs
    have hne := Ex.nodes_eq (.mk k t n kids)
    match kids, h1, hl, hk, hne with
    | [], h1, _, _, _ => exact putLeaf k t n a c L w h1 hL
    | [x], h1, hl, hk, hne =>
      rw [shapeL, Bool.and_eq_true] at hl
      change _ = 1 + nodesL [x] at hne
      rw [nodesL, nodesL] at hne
      exact putOne d (specPut d) k (one_kid (arity h1)) t n x a c L w hl.1 (by omega) hL hk
    | [x, y], h1, hl, hk, hne =>
      rw [shapeL, shapeL, Bool.and_eq_true, Bool.and_eq_true] at hl
      change _ = 1 + nodesL [x, y] at hne
      rw [nodesL, nodesL, nodesL] at hne
      exact putTwo d (specPut d) k (two_mem (arity h1)) t n x y a c L w hl.1 hl.2.1 (by omega) hL hk
    | x :: y :: z :: r, h1, _, _, _ =>
      have := arity h1
      unfold kidsK at this
      simp only [List.length_cons] at this
      split at this
      · omega
      · split at this
        · omega
        · split at this <;> omega

/-- What PutExpr answers. -/
def putT (e : Ex) : ByteArray := if (decide (e.nodes ≤ 40) && shapeE e) = true then tE e 1 else txt []

end Go.Proofs.YtpdcmmhhgnackaaGreatDoor

namespace Go.Proofs.YtpdcmmhhgnackaaGreatDoor
open Go.RowKit

def joinL (xs : List ByteArray) (by_ : ByteArray) : List UInt8 := Lib.join (xs.map (·.data.toList)) by_.data.toList
def joinT (xs : List ByteArray) (by_ : ByteArray) : ByteArray := ⟨(joinL xs by_).toArray⟩

theorem join_snoc (l : List (List UInt8)) (x sep : List UInt8) (h : l ≠ []) : Lib.join (l ++ [x]) sep = Lib.join l sep ++ sep ++ x := by
  cases l with
  | nil => exact absurd rfl h
  | cons y r =>
    rw [List.cons_append, Lib.join_cons, Lib.join_cons]
    simp [Lib.joinTail]

theorem joinL_first (xs : List ByteArray) (b : ByteArray) (k : Nat) (h0 : k = 0) (h : k < xs.length) : joinL (xs.take (k + 1)) b = joinL (xs.take k) b ++ xs[k].data.toList := by
  subst h0
  unfold joinL
  rw [List.take_succ_eq_append_getElem h]
  simp [Lib.join_one, Lib.join_nil]

theorem joinL_next (xs : List ByteArray) (b : ByteArray) (k : Nat) (h0 : 0 < k) (h : k < xs.length) : joinL (xs.take (k + 1)) b = joinL (xs.take k) b ++ b.data.toList ++ xs[k].data.toList := by
  unfold joinL
  rw [List.take_succ_eq_append_getElem h, List.map_append]
  refine join_snoc _ _ _ ?_
  intro he
  have hlen : ((xs.take k).map (·.data.toList)).length = k := by rw [List.length_map, List.length_take_of_le (by omega)]
  rw [he] at hlen
  simp at hlen
  omega

theorem joinL_len (xs : List ByteArray) (b : ByteArray) : ∀ k, k ≤ xs.length → (joinL (xs.take k) b).length ≤ lets (xs.take k) + k * b.size
  | 0, _ => by simp [joinL, Lib.join_nil]
  | k + 1, h => by
    have ih := joinL_len xs b k (by omega)
    rw [lets_take xs k (by omega)]
    have hb : b.data.toList.length = b.size := by simp
    have hx : xs[k].data.toList.length = xs[k].size := by simp
    rcases Nat.eq_zero_or_pos k with hp | hp
    · rw [joinL_first xs b k hp (by omega), List.length_append, hx, Nat.succ_mul]
      omega
    · rw [joinL_next xs b k hp (by omega), List.length_append, List.length_append, hb, hx, Nat.succ_mul]
      omega

set_option maxHeartbeats 1000000 in
theorem specJoin (a : Option Addr) (c : Nat) (xs : List ByteArray) (s : ByteArray) (w : World) (hx : Strs w a c xs) (hJ : lets xs + xs.length * s.size ≤ 70368744177664) :
    Calls Tryz.prog 86 #[.slice a xs.length c, .string s] w fun e w' => e = .returned (.string (joinT xs s)) ∧ Below w.heap.size w w' := by
  obtain ⟨i0, hi0, hz0, hz1, hz2⟩ := info_parts Tryz.infoByte
  have hl := hx.len
  go_enter Tryz.func86, Tryz.ntmps86
  go_wp2
  go_loopw [5, 6] (fun v i wr => ∃ (k : Nat) (a1 : Option Addr) (c1 : Nat), k ≤ xs.length ∧ i = .int .i64 k ∧ v = .slice a1 (joinL (xs.take k) s).length c1 ∧ OwnB wr w.heap.size a1 c1 (joinL (xs.take k) s) ∧ Below w.heap.size w wr) (fun _ i _ => xs.length - (intOf i).toNat)
  case atStart => exact ⟨0, _, _, Nat.zero_le _, rfl, rfl, ownBEmpty w, (Below.refl _ _).alloc (Nat.le_refl _) _⟩
  case round =>
    obtain ⟨k, a1, c1, hk, rfl, rfl, hown, hb⟩ := hrel
    have hsz := hb.size
    have hlk : (joinL (xs.take k) s).length ≤ 70368744177664 := by
      have h1 := joinL_len xs s k hk
      have h2 := lets_le xs k
      have h3 : k * s.size ≤ xs.length * s.size := Nat.mul_le_mul_right _ hk
      omega
    by_cases hlt : k < xs.length
    · obtain ⟨b, off, rfl, hbl, hc⟩ := (hx.below hb).spot hlt
      have hxs : xs[k].size ≤ 70368744177664 := by have := lets_mem (List.getElem_mem hlt); omega
      have hss : s.size ≤ 70368744177664 := by
        have : 1 * s.size ≤ xs.length * s.size := Nat.mul_le_mul_right _ (by omega)
        omega
      have hlk1 : (joinL (xs.take (k + 1)) s).length ≤ 70368744177664 := by
        have h1 := joinL_len xs s (k + 1) (by omega)
        have h2 := lets_le xs (k + 1)
        have h3 : (k + 1) * s.size ≤ xs.length * s.size := Nat.mul_le_mul_right _ (by omega)
        omega
      rcases Nat.eq_zero_or_pos k with h0 | h0
      · have HS := Lib.hid (joinL_first xs s k h0 hlt)
        have ht : decide (0 < k) = false := by simp; omega
        have Hk := Lib.hid h0
        clear h0
        go_wp2_with (at_builtin; refine wpAppendText rfl (.tmp 19) (.tmp 23) rfl i0 hi0 hz0 hz1 hz2 w.heap.size a1 c1 _ xs[k] rfl hown rfl (by omega) hsz ?_; intro a2 c2 w2 hown2 hg2)
        have hb2 : Below w.heap.size w w2 := hb.grown hg2 hsz (fun q hq => (hown.lt hq).1)
        go_roundw
        case rel => exact ⟨k + 1, a2, c2, by omega, by go_num, by rw [HS.out, List.length_append]; simp, by rw [HS.out]; exact hown2, hb2⟩
        case measure => simp [intOf]; omega
      · have HS := Lib.hid (joinL_next xs s k h0 hlt)
        have hsum : (joinL (xs.take k) s).length + s.size + xs[k].size ≤ 70368744177664 := by
          have h := hlk1
          rw [HS.out, List.length_append, List.length_append] at h
          simpa using h
        go_wp2_with (first
          | ((at_builtin; refine wpAppendText rfl (.tmp 16) (.tmp 17) rfl i0 hi0 hz0 hz1 hz2 w.heap.size a1 c1 _ s rfl hown rfl (by omega) hsz ?_; intro a2 c2 w2 hown2 hg2); (have hb2 : Below w.heap.size w w2 := hb.grown hg2 hsz (fun q hq => (hown.lt hq).1)); (have hsz2 := hb2.size); (have hc2 := (hx.below hb2).spot hlt); (have hc2' : w2.cell? ⟨b, off + k, none⟩ = some (.string xs[k]) := by obtain ⟨b', off', he', _, h⟩ := hc2; cases he'; exact h); clear hc2)
          | (at_builtin; refine wpAppendText rfl (.tmp 19) (.tmp 23) rfl i0 hi0 hz0 hz1 hz2 w.heap.size a2 c2 (joinL (xs.take k) s ++ s.data.toList) xs[k] (by simp [go_sem]) hown2 rfl (by simp; omega) hsz2 ?_; intro a3 c3 w3 hown3 hg3))
        have hb3 : Below w.heap.size w w3 := hb2.grown hg3 hsz2 (fun q hq => (hown2.lt hq).1)
        go_roundw
        case rel => exact ⟨k + 1, a3, c3, by omega, by go_num, by rw [HS.out, List.length_append, List.length_append]; simp [Nat.add_assoc], by rw [HS.out]; exact hown3, hb3⟩
        case measure => simp [intOf]; omega
    · obtain rfl : k = xs.length := by omega
      rw [List.take_length] at hown ⊢
      have hcv := convBytes hown
      go_wp2
      go_ret
      exact ⟨rfl, hb⟩

theorem implJoin (a : Option Addr) (c : Nat) (xs : List ByteArray) (s : ByteArray) (w : World) (hx : Strs w a c xs) (hJ : lets xs + xs.length * s.size ≤ 70368744177664) (hn : xs.length ≤ 140737488355328) :
    Calls Tryz.prog 83 #[.slice a xs.length c, .string s] w fun e w' => e = .returned (.string (joinT xs s)) ∧ Below w.heap.size w w' := by
  have hlen : (joinL xs s).length ≤ 140737488355328 := by
    have := joinL_len xs s xs.length (Nat.le_refl _)
    rw [List.take_length] at this
    omega
  rcases Nat.eq_zero_or_pos xs.length with h0 | h0
  · have hnil : xs = [] := List.eq_nil_of_length_eq_zero h0
    subst hnil
    have hz : joinT [] s = ⟨#[]⟩ := by simp [joinT, joinL, Lib.join_nil]
    rw [hz]
    clear hlen hJ h0 hn hz
    go_enter Tryz.func83, Tryz.ntmps83
    go_wp2_with (go_at_call 122; refine (Tryz.strings_Join_none a c s w).mono ?_; rintro e w' ⟨rfl, rfl⟩)
    go_ret
    exact ⟨rfl, Below.refl _ _⟩
  · obtain ⟨b, off, rfl, hb, hc⟩ := hx.2.2.2.2 h0
    have hcap := hx.1
    have hcs : ∀ (j : Nat) (x : ByteArray), xs[j]? = some x → w.cell? ⟨b, off + j, none⟩ = some (.string x) := by
      intro j x hj
      obtain ⟨h, rfl⟩ := List.getElem?_eq_some_iff.1 hj
      exact hc j h
    have HC := Lib.hid hcs
    have HL := Lib.hid hlen
    clear hcs hc hlen
    go_enter Tryz.func83, Tryz.ntmps83
    go_wp2_with (go_at_call 122; refine (Tryz.strings_Join b off c xs s w HC.out hb hn hcap HL.out).mono ?_; rintro e w' ⟨rfl, hb'⟩)
    go_ret
    exact ⟨rfl, hb'⟩

end Go.Proofs.YtpdcmmhhgnackaaGreatDoor

namespace Go.Proofs.YtpdcmmhhgnackaaGreatDoor
open Go.RowKit

/-- An expression that is right. -/
def okX (e : Ex) : Bool := decide (e.nodes ≤ 40) && shapeE e

def nmB (s : ByteArray) : Bool := nameB s.data.toList

def namesB (xs : List ByteArray) (most : Int) : Bool := inI xs.length 1 most && xs.all nmB

def exprsB (xs : List Ex) (least most : Int) : Bool := inI xs.length least most && xs.all okX

def tyB (t : Ty) : Bool := typeOkB t.kind t.len t.name

def colB (x : Co) : Bool := nmB x.name && (tyB x.ty && exprsB x.dflt 0 1)

def noB (s : ByteArray) : Bool := s.toList.isEmpty

def ruleB (r : Ru) : Bool := nmB r.name &&
  (if r.kind = 0 ∨ r.kind = 1 then namesB r.cols 4 && (r.expr.isEmpty && (noB r.table && r.to.isEmpty))
   else if r.kind = 2 then r.cols.isEmpty && (exprsB r.expr 1 1 && (noB r.table && r.to.isEmpty))
   else if r.kind = 3 then namesB r.cols 4 && (r.expr.isEmpty && (nmB r.table && (namesB r.to 4 && (r.to.length == r.cols.length))))
   else false)

theorem all_take {X : Type} (f : X → Bool) (xs : List X) (k : Nat) (h : k < xs.length) : (xs.take (k + 1)).all f = ((xs.take k).all f && f xs[k]) := by
  rw [List.take_succ_eq_append_getElem h, List.all_append]
  simp

theorem all_hit {X : Type} (f : X → Bool) (xs : List X) (k : Nat) (h : k < xs.length) (hf : f xs[k] = false) : xs.all f = false := by
  rw [← Bool.not_eq_true, List.all_eq_true]
  intro hh
  have := hh _ (List.getElem_mem h)
  rw [hf] at this
  cases this

theorem all_miss {X : Type} (f : X → Bool) (xs : List X) (h : ∀ m (hm : m < xs.length), f xs[m] = true) : xs.all f = true := by
  rw [List.all_eq_true]
  intro x hx
  obtain ⟨m, hm, rfl⟩ := List.mem_iff_getElem.1 hx
  exact h m hm

def tyT (t : Ty) : ByteArray := typeTextT t.kind t.len t.name

def listT (xs : List ByteArray) : ByteArray := txt [40] ++ joinT (xs.map nameT) (txt [44, 32]) ++ txt [41]

theorem ba_assoc (a b c : ByteArray) : a ++ b ++ c = a ++ (b ++ c) := ByteArray.append_assoc

theorem ba_ext {a b : ByteArray} (h : a.data.toList = b.data.toList) : a = b := by
  cases a with
  | mk a => cases b with
    | mk b => rw [show a = b from Array.ext' h]

theorem ba_list (a b : ByteArray) : (a ++ b).data.toList = a.data.toList ++ b.data.toList := by
  simp

theorem joinT_list (xs : List ByteArray) (s : ByteArray) : (joinT xs s).data.toList = Lib.join (xs.map (·.data.toList)) s.data.toList := rfl

theorem joinT_one (a s : ByteArray) : joinT [a] s = a := by
  apply ba_ext
  rw [joinT_list, List.map_cons, List.map_nil, Lib.join_one]

theorem joinT_cons (a b : ByteArray) (r : List ByteArray) (s : ByteArray) : joinT (a :: b :: r) s = a ++ s ++ joinT (b :: r) s := by
  apply ba_ext
  rw [ba_list, ba_list, joinT_list, joinT_list]
  simp only [List.map_cons]
  rw [Lib.join_cons, Lib.join_cons]
  simp [Lib.joinTail]

theorem nmB_size {s : ByteArray} (h : nmB s = true) : s.size ≤ 40 := by
  unfold nmB nameB at h
  simp only [Bool.and_eq_true, decide_eq_true_eq] at h
  have := h.1.2
  simpa using this

theorem nameT_small {s : ByteArray} (h : nmB s = true) : (nameT s).size ≤ 82 := by
  have h1 := nameT_size s
  have h2 := nmB_size h
  omega

theorem tyT_small {t : Ty} (h : tyB t = true) : (tyT t).size ≤ 100 := by
  obtain ⟨k, l, s⟩ := t
  unfold tyB at h
  unfold tyT typeTextT
  simp only at h ⊢
  rw [h]
  unfold typeOkB at h
  simp only [Bool.true_eq_false, if_false]
  split
  · decide
  · split
    · decide
    · split
      · decide
      · split
        · rename_i h3
          rw [if_neg (by omega), if_pos h3] at h
          simp only [Bool.and_eq_true, inI, decide_eq_true_eq] at h
          have hd := dec_size l (by omega) (by omega)
          simp only [ByteArray.size_append]
          have e1 : (ByteArray.mk #[99, 104, 97, 114, 40]).size = 5 := rfl
          have e2 : (ByteArray.mk #[41]).size = 1 := rfl
          omega
        · by_cases h4 : k = 4
          · rw [if_neg (by omega), if_neg (by omega), if_pos h4] at h
            simp only [Bool.and_eq_true] at h
            have hn := nameT_small (s := s) h.2
            simp only [ByteArray.size_append]
            have e1 : (ByteArray.mk #[101, 110, 117, 109, 32]).size = 5 := rfl
            omega
          · rw [if_neg (by omega), if_neg (by omega), if_neg h4] at h
            cases h

theorem putT_small {e : Ex} (h : okX e = true) : (putT e).size ≤ 8400 := by
  unfold putT
  unfold okX at h
  rw [if_pos h]
  simp only [Bool.and_eq_true, decide_eq_true_eq] at h
  exact tE_size h.2 h.1

def wNN : List UInt8 := [32, 110, 111, 116, 32, 110, 117, 108, 108]
def wDf : List UInt8 := [32, 100, 101, 102, 97, 117, 108, 116, 32]

def nnT (x : Co) : ByteArray := if x.notNull = true then nameT x.name ++ txt [32] ++ tyT x.ty ++ txt wNN else nameT x.name ++ txt [32] ++ tyT x.ty

/-- A text with the first expression of a list behind it, if there is one. -/
def dfT (w : List UInt8) (s : ByteArray) : List Ex → ByteArray
  | [] => s
  | e :: _ => s ++ txt w ++ putT e

/-- What PutCol answers. -/
def colT (x : Co) : ByteArray := if colB x = true then dfT wDf (nnT x) x.dflt else txt []

theorem colB_parts {x : Co} (h : colB x = true) : nmB x.name = true ∧ tyB x.ty = true ∧ x.dflt.length ≤ 1 ∧ ∀ e ∈ x.dflt, okX e = true := by
  unfold colB exprsB inI at h
  simp only [Bool.and_eq_true, decide_eq_true_eq, List.all_eq_true] at h
  exact ⟨h.1, h.2.1, by omega, h.2.2.2⟩

end Go.Proofs.YtpdcmmhhgnackaaGreatDoor

namespace Go.Proofs.YtpdcmmhhgnackaaGreatDoor
open Go.ChangeShapes Go.WideShapes Go.RowKit

structure Fm where
  kids : Int
  strength : Int
  token : Int
  text : List UInt8

def formsL : List Fm := [⟨0, 7, 0, []⟩, ⟨0, 7, 0, []⟩, ⟨0, 7, 0, []⟩, ⟨0, 7, 0, wTrue⟩, ⟨0, 7, 0, wFalse⟩, ⟨0, 7, 0, wNull⟩, ⟨1, 3, 0, wNot⟩, ⟨1, 4, 0, wIs⟩, ⟨2, 2, 0, wAnd⟩, ⟨2, 1, 0, wOr⟩,
  ⟨2, 4, 4, [61]⟩, ⟨2, 4, 4, [60, 62]⟩, ⟨2, 4, 4, [60]⟩, ⟨2, 4, 4, [60, 61]⟩, ⟨2, 4, 4, [62]⟩, ⟨2, 4, 4, [62, 61]⟩, ⟨2, 5, 4, [43]⟩, ⟨2, 5, 4, [45]⟩, ⟨2, 6, 4, [42]⟩]

def Fm.d {H : Type} (f : Fm) : DataW H := .agg [.lit (.int .i64 f.kids), .lit (.int .i64 f.strength), .lit (.int .i64 f.token), .lit (.string f.text)]

theorem forms_laid : (Rows.laid_loop_example_g00751_impl_exprForms : DataW Unit) = .agg (formsL.map Fm.d) := rfl

theorem gForms : Tryz.prog.globalNamed "loop.example/g00751/impl.exprForms" = some 1 := by kernel_rfl
theorem gFormsType : (Tryz.prog.globals[1]?).map (·.type) = some 145 := by kernel_rfl
theorem cellsForms : Tryz.prog.cellsOf 145 = 76 := by kernel_rfl
theorem cellsForm : Tryz.prog.cellsOf 144 = 4 := by kernel_rfl
theorem cellsIntF : Tryz.prog.cellsOf 3 = 1 := by kernel_rfl
theorem cellsStrF : Tryz.prog.cellsOf 9 = 1 := by kernel_rfl

def fm (i : Nat) : Fm := formsL.getD i ⟨0, 0, 0, []⟩

/-- The table lies as the text lays it. -/
def FormsAt (w : World) : Prop := 1 < w.heap.size ∧ ∀ i, i < 19 →
  w.cell? ⟨1, i * 4, none⟩ = some (.int .i64 (fm i).kids) ∧ w.cell? ⟨1, i * 4 + 1, none⟩ = some (.int .i64 (fm i).strength) ∧
  w.cell? ⟨1, i * 4 + 2, none⟩ = some (.int .i64 (fm i).token) ∧ w.cell? ⟨1, i * 4 + 3, none⟩ = some (.string (txt (fm i).text))

theorem FormsAt.below {w w' : World} {B : Nat} (h : FormsAt w) (hb : Below B w w') (hB : 1 < B) : FormsAt w' := by
  refine ⟨Nat.lt_of_lt_of_le h.1 hb.size, fun i hi => ?_⟩
  obtain ⟨h0, h1, h2, h3⟩ := h.2 i hi
  have e := fun o => hb.cell (p := ⟨1, o, none⟩) hB
  exact ⟨(e _).trans h0, (e _).trans h1, (e _).trans h2, (e _).trans h3⟩

set_option maxRecDepth 100000 in
theorem form_cells {H : Type} {enc : TypeId × Value → H} {W : World} {base : Nat} {sp : Nat → Bool} {held : Bool} {fuel : Nat} {cs : List Value} {x : DataW H × List MemPlace} (h : DataW.trod enc Tryz.prog W base sp held fuel 144 cs = some x) {f : Fm} (hx : x.1 = f.d) :
    cs = [.int .i64 f.kids, .int .i64 f.strength, .int .i64 f.token, .string (txt f.text)] := by
  obtain ⟨ys, n, hn, hxe, hl, hyl, hf⟩ := DataW.trod_struct Tryz.underlying144 h
  subst hn
  rw [cellsForm] at hl
  match cs, hl with
  | [c0, c1, c2, c3], _ =>
    have hs : ys.length = 4 := hyl
    match ys, hs with
    | [y0, y1, y2, y3], _ =>
      have f0 : DataW.trod enc Tryz.prog W base sp held n 3 (([c0, c1, c2, c3].drop 0).take (Tryz.prog.cellsOf 3)) = some y0 := hf 0 _ rfl
      have f1 : DataW.trod enc Tryz.prog W base sp held n 3 (([c0, c1, c2, c3].drop 1).take (Tryz.prog.cellsOf 3)) = some y1 := hf 1 _ rfl
      have f2 : DataW.trod enc Tryz.prog W base sp held n 3 (([c0, c1, c2, c3].drop 2).take (Tryz.prog.cellsOf 3)) = some y2 := hf 2 _ rfl
      have f3 : DataW.trod enc Tryz.prog W base sp held n 9 (([c0, c1, c2, c3].drop 3).take (Tryz.prog.cellsOf 9)) = some y3 := hf 3 _ rfl
      rw [cellsIntF] at f0 f1 f2
      rw [cellsStrF] at f3
      obtain ⟨k0, e0, d0, _⟩ := DataW.trod_int Tryz.underlying3 f0
      obtain ⟨k1, e1, d1, _⟩ := DataW.trod_int Tryz.underlying3 f1
      obtain ⟨k2, e2, d2, _⟩ := DataW.trod_int Tryz.underlying3 f2
      obtain ⟨s, e3, d3, _⟩ := DataW.trod_string Tryz.underlying9 f3
      simp at e0 e1 e2 e3
      subst e0 e1 e2 e3 d0 d1 d2 d3
      rw [hxe] at hx
      simp only [List.map_cons, List.map_nil, Fm.d, DataW.agg.injEq, List.cons.injEq, DataW.lit.injEq, Lit.int.injEq, Lit.string.injEq, true_and, and_true] at hx
      obtain ⟨rfl, rfl, rfl, h3⟩ := hx
      have : s = txt f.text := by rw [← h3]; obtain ⟨⟨l⟩⟩ := s; rfl
      rw [this]

set_option maxRecDepth 100000 in
theorem formsAt_of {W : World} {rest : List (String × DataW Unit)} (h : laidMet Tryz.prog (("loop.example/g00751/impl.exprForms", Rows.laid_loop_example_g00751_impl_exprForms) :: rest) W) : FormsAt W := by
  obtain ⟨ps, hL, _, _⟩ := h
  obtain ⟨g, t, cs, fuel, p, q, h1, h2, h3, h4, _, _⟩ := hL
  obtain rfl := Option.some.inj (gForms.symm.trans h1)
  obtain rfl := Option.some.inj (gFormsType.symm.trans h2)
  obtain ⟨xs, m, hm, hx, hl, hxl, hel⟩ := DataW.trod_array Tryz.underlying145 h4
  have hd : xs.map (·.1) = formsL.map Fm.d := by
    have := congrArg Prod.fst hx
    rw [forms_laid] at this
    exact (DataW.agg.inj this).symm
  rw [cellsForms] at hl
  have hvar : ∀ o (ho : o < 76), W.cell? ⟨1, o, none⟩ = cs.toList[o]? := by
    intro o ho
    unfold World.var? at h3
    rw [gForms, Option.bind_some] at h3
    unfold World.cell?
    split at h3
    · rename_i c tt fr hb
      cases h3
      simp [hb]
    · cases h3
  have hlt : 1 < W.heap.size := by
    have h0 := hvar 0 (by omega)
    rw [List.getElem?_eq_getElem (by omega)] at h0
    exact World.block_lt_of_cell? W ⟨1, 0, none⟩ h0
  refine ⟨hlt, fun i hi => ?_⟩
  have hxi : i < xs.length := by omega
  have hfi : i < formsL.length := by have : formsL.length = 19 := rfl
                                     omega
  have he := hel i hi
  rw [cellsForm, List.getElem?_eq_getElem hxi] at he
  have hfm : fm i = formsL[i] := by unfold fm; rw [List.getD_eq_getElem?_getD, List.getElem?_eq_getElem hfi]; rfl
  have hdi : xs[i].1 = (fm i).d := by
    have : (xs.map (·.1))[i]? = (formsL.map Fm.d)[i]? := by rw [hd]
    rw [List.getElem?_map, List.getElem?_map, List.getElem?_eq_getElem hxi, List.getElem?_eq_getElem hfi] at this
    rw [hfm]
    simpa using this
  have hc := form_cells he hdi
  have at' : ∀ j, j < 4 → cs.toList[i * 4 + j]? = [Value.int .i64 (fm i).kids, .int .i64 (fm i).strength, .int .i64 (fm i).token, .string (txt (fm i).text)][j]? := by
    intro j hj
    rw [← hc, List.getElem?_take, if_pos hj, List.getElem?_drop]
  exact ⟨(hvar _ (by omega)).trans (at' 0 (by omega)), (hvar _ (by omega)).trans (at' 1 (by omega)), (hvar _ (by omega)).trans (at' 2 (by omega)), (hvar _ (by omega)).trans (at' 3 (by omega))⟩

end Go.Proofs.YtpdcmmhhgnackaaGreatDoor

namespace Go.Proofs.YtpdcmmhhgnackaaGreatDoor
open Go.ChangeShapes Go.WideShapes Go.RowKit

theorem laidDrop {P : Program} {W : World} : ∀ (n : Nat) {l : List (String × DataW Unit)}, laidMet P l W → laidMet P (l.drop n) W
  | 0, _, h => h
  | n + 1, [], h => h
  | n + 1, _ :: _, h => laidDrop n (laidMet.tail h)

structure Rf where
  start : List UInt8
  c0 : Int
  c1 : Int
  e0 : Int
  e1 : Int
  refers : Bool

def rulesL : List Rf := [⟨[112, 114, 105, 109, 97, 114, 121, 32, 107, 101, 121], 1, 4, 0, 0, false⟩, ⟨[117, 110, 105, 113, 117, 101], 1, 4, 0, 0, false⟩, ⟨[99, 104, 101, 99, 107], 0, 0, 1, 1, false⟩, ⟨[102, 111, 114, 101, 105, 103, 110, 32, 107, 101, 121], 1, 4, 0, 0, true⟩]

def Rf.d {H : Type} (f : Rf) : DataW H := .agg [.lit (.string f.start), .agg [.lit (.int .i64 f.c0), .lit (.int .i64 f.c1)], .agg [.lit (.int .i64 f.e0), .lit (.int .i64 f.e1)], .lit (.bool f.refers)]

theorem rules_laid : (Rows.laid_loop_example_g00751_impl_ruleForms : DataW Unit) = .agg (rulesL.map Rf.d) := rfl

theorem gRules : Tryz.prog.globalNamed "loop.example/g00751/impl.ruleForms" = some 0 := by kernel_rfl
theorem gRulesType : (Tryz.prog.globals[0]?).map (·.type) = some 83 := by kernel_rfl
theorem cellsRules : Tryz.prog.cellsOf 83 = 24 := by kernel_rfl
theorem cellsRuleF : Tryz.prog.cellsOf 82 = 6 := by kernel_rfl
theorem cellsSpan : Tryz.prog.cellsOf 80 = 2 := by kernel_rfl
theorem cellsBoolF : Tryz.prog.cellsOf 4 = 1 := by kernel_rfl

def rf (i : Nat) : Rf := rulesL.getD i ⟨[], 0, 0, 0, 0, false⟩

def Rf.vs (f : Rf) : List Value := [.string (txt f.start), .int .i64 f.c0, .int .i64 f.c1, .int .i64 f.e0, .int .i64 f.e1, .bool f.refers]

/-- The table lies as the text lays it. -/
def RulesAt (w : World) : Prop := 0 < w.heap.size ∧ ∀ i, i < 4 → ∀ (j : Nat) (hj : j < (rf i).vs.length), w.cell? ⟨0, i * 6 + j, none⟩ = some (rf i).vs[j]

theorem RulesAt.below {w w' : World} {B : Nat} (h : RulesAt w) (hb : Below B w w') (hB : 0 < B) : RulesAt w' :=
  ⟨Nat.lt_of_lt_of_le h.1 hb.size, fun i hi j hj => (hb.cell (p := ⟨0, _, none⟩) hB).trans (h.2 i hi j hj)⟩

theorem RulesAt.call {w w' : World} (h : RulesAt w) (hb : Below w.heap.size w w') : RulesAt w' := h.below hb h.1

theorem FormsAt.call {w w' : World} (h : FormsAt w) (hb : Below w.heap.size w w') : FormsAt w' := h.below hb h.1

set_option maxRecDepth 100000 in
theorem span_cells {H : Type} {enc : TypeId × Value → H} {W : World} {base : Nat} {sp : Nat → Bool} {held : Bool} {fuel : Nat} {cs : List Value} {x : DataW H × List MemPlace} (h : DataW.trod enc Tryz.prog W base sp held fuel 80 cs = some x) {a b : Int} (hx : x.1 = .agg [.lit (.int .i64 a), .lit (.int .i64 b)]) :
    cs = [.int .i64 a, .int .i64 b] := by
  obtain ⟨ys, n, hn, hxe, hl, hyl, hf⟩ := DataW.trod_struct Tryz.underlying80 h
  subst hn
  rw [cellsSpan] at hl
  match cs, hl with
  | [c0, c1], _ =>
    have hs : ys.length = 2 := hyl
    match ys, hs with
    | [y0, y1], _ =>
      have f0 : DataW.trod enc Tryz.prog W base sp held n 3 (([c0, c1].drop 0).take (Tryz.prog.cellsOf 3)) = some y0 := hf 0 _ rfl
      have f1 : DataW.trod enc Tryz.prog W base sp held n 3 (([c0, c1].drop 1).take (Tryz.prog.cellsOf 3)) = some y1 := hf 1 _ rfl
      rw [cellsIntF] at f0 f1
      obtain ⟨k0, e0, d0, _⟩ := DataW.trod_int Tryz.underlying3 f0
      obtain ⟨k1, e1, d1, _⟩ := DataW.trod_int Tryz.underlying3 f1
      simp at e0 e1
      subst e0 e1 d0 d1
      rw [hxe] at hx
      simp only [List.map_cons, List.map_nil, DataW.agg.injEq, List.cons.injEq, DataW.lit.injEq, Lit.int.injEq, true_and, and_true] at hx
      obtain ⟨rfl, rfl⟩ := hx
      rfl

set_option maxRecDepth 100000 in
theorem rule_cells {H : Type} {enc : TypeId × Value → H} {W : World} {base : Nat} {sp : Nat → Bool} {held : Bool} {fuel : Nat} {cs : List Value} {x : DataW H × List MemPlace} (h : DataW.trod enc Tryz.prog W base sp held fuel 82 cs = some x) {f : Rf} (hx : x.1 = f.d) :
    cs = f.vs := by
  obtain ⟨ys, n, hn, hxe, hl, hyl, hf⟩ := DataW.trod_struct Tryz.underlying82 h
  subst hn
  rw [cellsRuleF] at hl
  match cs, hl with
  | [c0, c1, c2, c3, c4, c5], _ =>
    have hs : ys.length = 4 := hyl
    match ys, hs with
    | [y0, y1, y2, y3], _ =>
      have f0 : DataW.trod enc Tryz.prog W base sp held n 9 (([c0, c1, c2, c3, c4, c5].drop 0).take (Tryz.prog.cellsOf 9)) = some y0 := hf 0 _ rfl
      have f1 : DataW.trod enc Tryz.prog W base sp held n 80 (([c0, c1, c2, c3, c4, c5].drop 1).take (Tryz.prog.cellsOf 80)) = some y1 := hf 1 _ rfl
      have f2 : DataW.trod enc Tryz.prog W base sp held n 80 (([c0, c1, c2, c3, c4, c5].drop 3).take (Tryz.prog.cellsOf 80)) = some y2 := hf 2 _ rfl
      have f3 : DataW.trod enc Tryz.prog W base sp held n 4 (([c0, c1, c2, c3, c4, c5].drop 5).take (Tryz.prog.cellsOf 4)) = some y3 := hf 3 _ rfl
      rw [cellsStrF] at f0
      rw [cellsSpan] at f1 f2
      rw [cellsBoolF] at f3
      rw [hxe] at hx
      simp only [List.map_cons, List.map_nil, Rf.d, DataW.agg.injEq, List.cons.injEq, and_true] at hx
      obtain ⟨h0, h1, h2, h3⟩ := hx
      obtain ⟨s, e0, d0, _⟩ := DataW.trod_string Tryz.underlying9 f0
      obtain ⟨b, e3, d3⟩ := DataW.trod_bool Tryz.underlying4 f3
      have g1 := span_cells f1 h1
      have g2 := span_cells f2 h2
      simp at e0 e3 g1 g2
      obtain ⟨g1a, g1b⟩ := g1
      obtain ⟨g2a, g2b⟩ := g2
      subst e0 e3 g1a g1b g2a g2b d0 d3
      simp only [DataW.lit.injEq, Lit.string.injEq, Lit.bool.injEq] at h0 h3
      have : s = txt f.start := by rw [← h0]; obtain ⟨⟨l⟩⟩ := s; rfl
      rw [this, h3]
      rfl

set_option maxRecDepth 100000 in
theorem rules_of {W : World} {rest : List (String × DataW Unit)} (h : laidMet Tryz.prog (("loop.example/g00751/impl.ruleForms", Rows.laid_loop_example_g00751_impl_ruleForms) :: rest) W) : RulesAt W := by
  obtain ⟨ps, hL, _, _⟩ := h
  obtain ⟨g, t, cs, fuel, p, q, h1, h2, h3, h4, _, _⟩ := hL
  obtain rfl := Option.some.inj (gRules.symm.trans h1)
  obtain rfl := Option.some.inj (gRulesType.symm.trans h2)
  obtain ⟨xs, m, hm, hx, hl, hxl, hel⟩ := DataW.trod_array Tryz.underlying83 h4
  have hd : xs.map (·.1) = rulesL.map Rf.d := by
    have := congrArg Prod.fst hx
    rw [rules_laid] at this
    exact (DataW.agg.inj this).symm
  rw [cellsRules] at hl
  have hvar : ∀ o (ho : o < 24), W.cell? ⟨0, o, none⟩ = cs.toList[o]? := by
    intro o ho
    unfold World.var? at h3
    rw [gRules, Option.bind_some] at h3
    unfold World.cell?
    split at h3
    · rename_i c tt fr hb
      cases h3
      simp [hb]
    · cases h3
  have hlt : 0 < W.heap.size := by
    have h0 := hvar 0 (by omega)
    rw [List.getElem?_eq_getElem (by omega)] at h0
    exact World.block_lt_of_cell? W ⟨0, 0, none⟩ h0
  refine ⟨hlt, fun i hi j hj => ?_⟩
  have hxi : i < xs.length := by omega
  have hfi : i < rulesL.length := by have : rulesL.length = 4 := rfl
                                     omega
  have he := hel i hi
  rw [cellsRuleF, List.getElem?_eq_getElem hxi] at he
  have hfm : rf i = rulesL[i] := by unfold rf; rw [List.getD_eq_getElem?_getD, List.getElem?_eq_getElem hfi]; rfl
  have hdi : xs[i].1 = (rf i).d := by
    have : (xs.map (·.1))[i]? = (rulesL.map Rf.d)[i]? := by rw [hd]
    rw [List.getElem?_map, List.getElem?_map, List.getElem?_eq_getElem hxi, List.getElem?_eq_getElem hfi] at this
    rw [hfm]
    simpa using this
  have hc := rule_cells he hdi
  have hj6 : j < 6 := hj
  rw [hvar _ (by omega), ← List.getElem?_eq_getElem hj, ← hc, List.getElem?_take, if_pos hj6, List.getElem?_drop]

end Go.Proofs.YtpdcmmhhgnackaaGreatDoor

namespace Go.Proofs.YtpdcmmhhgnackaaGreatDoor
open Go.RowKit

def leftN (n : Nat) (left : Int) : Int := if left < n then -1 else left - n

theorem leftN_le {n : Nat} (h : ¬ leftN n 1048576 < 0) : n ≤ 1048576 := by
  unfold leftN at h
  split at h
  · omega
  · omega

def SzP (d : Nat) : Prop := ∀ (e : Ex) (a : Option Addr) (c : Nat) (left : Int) (w : World), e.fit → KidsAt w d a c e.kids → 0 ≤ left → left ≤ 1048576 →
  Calls Tryz.prog 58 #[.agg #[.int .i64 e.kind, .string e.text, .int .i64 e.num, .slice a e.kids.length c], .int .i64 left] w fun x w' => x = .returned (.int .i64 (leftN e.wt left)) ∧ Below w.heap.size w w'

set_option maxHeartbeats 1000000 in
theorem szKids (d : Nat) (ih : SzP d) (a : Option Addr) (c : Nat) (xs : List Ex) (left : Int) (w : World) (hx : KidsAt w (d + 1) a c xs) (h0 : 0 ≤ left) (h1 : left ≤ 1048576) :
    Calls Tryz.prog 22 #[.slice a xs.length c, .int .i64 left] w fun e w' => e = .returned (.int .i64 (leftN (xs.length + wtL xs) left)) ∧ Below w.heap.size w w' := by
  have hl := hx.len
  by_cases hs : left < xs.length
  · have H : Hid (leftN (xs.length + wtL xs) left = -1) := by unfold Hid leftN; rw [if_pos (by omega)]
    go_enter Tryz.func22, Tryz.ntmps22
    go_wp2
    go_ret
    exact ⟨by rw [H.out]; rfl, Below.refl _ _⟩
  · have hs' : (xs.length : Int) ≤ left := by omega
    go_enter Tryz.func22, Tryz.ntmps22
    go_wp2
    go_loopw [1, 5] (fun l i wr => ∃ k : Nat, k ≤ xs.length ∧ i = .int .i64 k ∧ wtL (xs.take k) ≤ left - xs.length ∧ l = .int .i64 (left - xs.length - wtL (xs.take k)) ∧ Below w.heap.size w wr) (fun _ i _ => xs.length - (intOf i).toNat)
    case atStart => exact ⟨0, Nat.zero_le _, rfl, by simp [wtL]; omega, by simp [wtL], Below.refl _ _⟩
    case round =>
      obtain ⟨k, hk, rfl, hsm, rfl, hb⟩ := hrel
      by_cases hlt : k < xs.length
      · obtain ⟨b, off, rfl, hbl, hc0, hc1, hc2, hfit, a', c', hc3, hkid⟩ := (hx.below hb).spot hlt
        have HT := Lib.hid (wtL_take xs k hlt)
        have HL := Lib.hid (wtL_mono xs (k + 1))
        have HK := Lib.hid hkid
        clear hkid hx
        go_wp2_with fail
        refine (ih xs[k] a' c' (left - xs.length - wtL (xs.take k)) _ hfit HK.out (by omega) (by omega)).mono ?_
        by_cases hle : left - xs.length - wtL (xs.take k) < xs[k].wt
        · rw [show leftN xs[k].wt (left - xs.length - wtL (xs.take k)) = -1 from if_pos hle]
          rintro e w2 ⟨rfl, hb2⟩
          have H : Hid (leftN (xs.length + wtL xs) left = -1) := by unfold Hid leftN; rw [if_pos (by have := HT.out; have := HL.out; omega)]
          go_wp2_with fail
          go_ret
          exact ⟨by rw [H.out]; rfl, hb.trans (hb2.mono hb.size)⟩
        · rw [show leftN xs[k].wt (left - xs.length - wtL (xs.take k)) = left - xs.length - wtL (xs.take k) - xs[k].wt from if_neg hle]
          rintro e w2 ⟨rfl, hb2⟩
          go_wp2_with fail
          go_roundw
          case rel => exact ⟨k + 1, by omega, by go_num, by have := HT.out; omega, by rw [HT.out]; go_num, hb.trans (hb2.mono hb.size)⟩
          case measure => simp [intOf]; omega
      · obtain rfl : k = xs.length := by omega
        have H : Hid (leftN (xs.length + wtL xs) left = left - xs.length - wtL xs) := by
          unfold Hid leftN; rw [List.take_length] at hsm; rw [if_neg (by omega)]; omega
        go_wp2_with fail
        go_ret
        exact ⟨by rw [H.out, List.take_length]; rfl, hb⟩

set_option maxHeartbeats 1000000 in
theorem szEx : ∀ d, SzP d
  | 0 => fun _ _ _ _ _ _ h => h.elim
  | d + 1 => by
    intro e a c left w hfit hk h0 h1
    have hks := szKids d (szEx d) a c e.kids
    have ht : e.text.size ≤ 9223372036854775807 := by have := hfit.1; unfold maxLen at this; omega
    have hwt := Lib.hid (Ex.wt_eq e)
    have hn := hk.len
    have HK := Lib.hid (fun o => hk.below ((Below.refl w.heap.size w).alloc (Nat.le_refl _) o))
    clear hk
    by_cases hs : left - e.text.size < 0
    · have H : Hid (leftN e.wt left = -1) := by unfold Hid leftN; rw [if_pos (by have := hwt.out; omega)]
      go_enter Tryz.func58, Tryz.ntmps58
      go_wp2_with fail
      go_ret
      exact ⟨by rw [H.out]; rfl, (Below.refl _ _).alloc (Nat.le_refl _) _⟩
    · have hd : decide (left - (e.text.size : Int) < 0) = false := by simpa using hs
      go_enter Tryz.func58, Tryz.ntmps58
      go_wp2_with fail
      refine (hks (left - e.text.size) _ (HK.out _) (by omega) (by omega)).mono ?_
      by_cases hle : left - e.text.size < (e.kids.length + wtL e.kids : Nat)
      · rw [show leftN (e.kids.length + wtL e.kids) (left - e.text.size) = -1 from if_pos hle]
        rintro x w2 ⟨rfl, hb2⟩
        have H : Hid (leftN e.wt left = -1) := by unfold Hid leftN; rw [if_pos (by have := hwt.out; omega)]
        go_wp2_with fail
        go_ret
        exact ⟨by rw [H.out]; rfl, ((Below.refl _ _).alloc (Nat.le_refl _) _).trans (hb2.mono (by simp))⟩
      · rw [show leftN (e.kids.length + wtL e.kids) (left - e.text.size) = left - e.text.size - (e.kids.length + wtL e.kids : Nat) from if_neg hle]
        rintro x w2 ⟨rfl, hb2⟩
        have H : Hid (leftN e.wt left = left - e.text.size - (e.kids.length + wtL e.kids : Nat)) := by unfold Hid leftN; rw [if_neg (by have := hwt.out; omega)]; have := hwt.out; omega
        have hd2 : decide (left - (e.text.size : Int) - ((e.kids.length + wtL e.kids : Nat) : Int) < 0) = false := by simp; omega
        go_wp2_with fail
        go_ret
        exact ⟨by rw [H.out]; rfl, ((Below.refl _ _).alloc (Nat.le_refl _) _).trans (hb2.mono (by simp))⟩

end Go.Proofs.YtpdcmmhhgnackaaGreatDoor

namespace Go.Proofs.YtpdcmmhhgnackaaGreatDoor
open Go.RowKit

theorem Below.call {n : Nat} {w W w' : World} (hb : Below W.heap.size W w') (h : Below n w W) (hn : n ≤ w.heap.size := by omega) : Below n w w' := h.trans (hb.mono (Nat.le_trans hn h.size))

theorem Blk.call {W w' : World} {b : Nat} {vs : List Value} (hb : Below W.heap.size W w') (h : Blk W b vs) : Blk w' b vs := h.below hb

theorem Kept.call {lo : Nat} {w W w' : World} (hb : Below W.heap.size W w') (h : Kept lo w W) : Kept lo w w' := h.trans (Kept.below hb)

theorem Blk.alloc {w : World} {b : Nat} {vs : List Value} (h : Blk w b vs) (o : Obj) : Blk (w.alloc o) b vs := h.below ((Below.refl _ _).alloc (Nat.le_refl _) _)

theorem blk_new (w : World) (T : TypeId) (vs : List Value) : Blk (w.alloc (.cells vs.toArray T)) w.heap.size vs := by
  refine ⟨by simp, fun j hj => ⟨?_, ?_⟩⟩
  · rw [cell_of_row _ _ _ _ _ _ (heap_alloc_new w _)]
    simp [hj]
  · simp [go_sem]

theorem blk_new' {w : World} {b : Nat} (hb : b = w.heap.size) (T : TypeId) (vs : List Value) : Blk (w.alloc (.cells vs.toArray T)) b vs := by
  subst hb
  exact blk_new w T vs

theorem Blk.set {w : World} {b : Nat} {vs : List Value} (h : Blk w b vs) (j : Nat) (v : Value) : Blk (w.setCell ⟨b, j, none⟩ v) b (vs.set j v) := by
  refine ⟨by simpa [World.setCell] using h.1, fun i hi => ?_⟩
  have hi' : i < vs.length := by simpa using hi
  refine ⟨?_, (World.frozen?_setCell ..).trans (h.2 i hi').2⟩
  by_cases e : i = j
  · subst e
    rw [World.cell?_setCell_same _ _ _ (h.2 i hi').1, List.getElem_set_self]
  · have ha : (⟨b, j, none⟩ : Addr) ≠ ⟨b, i, none⟩ := fun q => e (by cases q; rfl)
    rw [World.cell?_setCell_other _ _ _ _ ha, List.getElem_set_ne (by omega), (h.2 i hi').1]

theorem Blk.other {w : World} {b b' : Nat} {vs : List Value} (h : Blk w b vs) (hne : b ≠ b') (j : Nat) (v : Value) : Blk (w.setCell ⟨b', j, none⟩ v) b vs :=
  ⟨by simpa [World.setCell] using h.1, fun i hi => ⟨(World.cell?_setCell_other _ _ _ _ (fun q => hne (by cases q; rfl))).trans (h.2 i hi).1, (World.frozen?_setCell ..).trans (h.2 i hi).2⟩⟩

theorem Blk.belowB {B : Nat} {w w' : World} {b : Nat} {vs : List Value} (h : Blk w b vs) (hb : Below B w w') (hlt : b < B) : Blk w' b vs :=
  ⟨Nat.lt_of_lt_of_le h.1 hb.size, fun j hj => ⟨(hb.cell (p := ⟨b, j, none⟩) hlt).trans (h.2 j hj).1, (hb.frozen (p := ⟨b, j, none⟩) hlt).trans (h.2 j hj).2⟩⟩

theorem leftOf_eq (xs : List ByteArray) (left : Int) : leftOf xs left = leftN (xs.length + lets xs) left := by
  unfold leftOf leftN
  split
  · rw [if_pos (by omega)]
  · rw [if_neg (by omega)]; omega

theorem szSs (a : Option Addr) (c : Nat) (xs : List ByteArray) (left : Int) (w : World) (h : Ss 0 w a c xs) (h0 : 0 ≤ left) (h1 : left ≤ 1048576) :
    Calls Tryz.prog 37 #[.slice a xs.length c, .int .i64 left] w fun e w' => e = .returned (.int .i64 (leftN (xs.length + lets xs) left)) ∧ Below w.heap.size w w' := by
  refine (szStrs a c xs left w h.1 h0 h1).mono ?_
  rintro e w' ⟨rfl, rfl⟩
  exact ⟨by rw [leftOf_eq], Below.refl _ _⟩

theorem szKs (a : Option Addr) (c : Nat) (xs : List Ex) (left : Int) (w : World) (h : Ks 0 w a c xs) (h0 : 0 ≤ left) (h1 : left ≤ 1048576) :
    Calls Tryz.prog 22 #[.slice a xs.length c, .int .i64 left] w fun e w' => e = .returned (.int .i64 (leftN (xs.length + wtL xs) left)) ∧ Below w.heap.size w w' := by
  obtain ⟨d, h⟩ := h
  exact szKids d (szEx d) a c xs left w h.at h0 h1

theorem szTy0 (k l : Int) (s : ByteArray) (n : Int) (w : World) (hs : s.size ≤ maxLen) (h0 : 0 ≤ n) (h1 : n ≤ 1048576) :
    Calls Tryz.prog 21 #[.agg #[.int .i64 k, .int .i64 l, .string s], .int .i64 n] w fun e w' => e = .returned (.int .i64 (leftN s.size n)) ∧ Below w.heap.size w w' := by
  refine (szTy k l s n w hs h0 h1).mono ?_
  rintro e w' ⟨rfl, hb⟩
  refine ⟨?_, hb⟩
  unfold leftN
  split
  · rw [if_pos (by omega)]
  · rw [if_neg (by omega)]

theorem toSs (a : Option Addr) (c : Nat) (xs : List ByteArray) (w : World) (h : Ss 0 w a c xs) (hn : xs.length + lets xs ≤ 1048576) :
    Calls Tryz.prog 40 #[.slice a xs.length c] w fun e w' => ∃ a' c', e = .returned (.slice a' xs.length c') ∧ Ss w.heap.size w' a' c' xs ∧ Below w.heap.size w w' := by
  refine (toStrs a c xs w h.1 (by omega)).mono ?_
  rintro e w' ⟨a', c', rfl, ho, hb⟩
  exact ⟨a', c', rfl, ho.ss h.1.2.2.1, hb⟩

theorem toKs (a : Option Addr) (c : Nat) (xs : List Ex) (w : World) (h : Ks 0 w a c xs) (hn : xs.length + wtL xs ≤ 1048576) :
    Calls Tryz.prog 28 #[.slice a xs.length c] w fun e w' => ∃ a' c', e = .returned (.slice a' xs.length c') ∧ Ks w.heap.size w' a' c' xs ∧ Below w.heap.size w w' := by
  obtain ⟨d, h⟩ := h
  refine (toKids d (toEx d) a c xs w h.at hn).mono ?_
  rintro e w' ⟨a', c', rfl, ho, hb⟩
  exact ⟨a', c', rfl, ⟨d, ho⟩, hb⟩

theorem eqSs (a a' : Option Addr) (c c' : Nat) (xs : List ByteArray) (w : World) (h : Ss 0 w a c xs) (h' : Ss 0 w a' c' xs) :
    Calls Tryz.prog 46 #[.slice a xs.length c, .slice a' xs.length c'] w fun e w' => e = .returned (.bool true) ∧ Below w.heap.size w w' := by
  refine (eqStrs a a' c c' xs xs w h.1 h'.1 rfl).mono ?_
  rintro e w' ⟨rfl, n, rfl⟩
  exact ⟨rfl, below_drewN (Below.refl _ _) n⟩

theorem eqKs (a a' : Option Addr) (c c' : Nat) (xs : List Ex) (w : World) (h : Ks 0 w a c xs) (h' : Ks 0 w a' c' xs) :
    Calls Tryz.prog 36 #[.slice a xs.length c, .slice a' xs.length c'] w fun e w' => e = .returned (.bool true) ∧ Below w.heap.size w w' := by
  obtain ⟨d, h⟩ := h
  obtain ⟨d', h'⟩ := h'
  exact eqKids (max d d') (eqEx _) a a' c c' xs w (h.at.mono (by omega)) (h'.at.mono (by omega))

set_option maxHeartbeats 1000000 in
theorem eqTy0 (k l : Int) (s : ByteArray) (w : World) :
    Calls Tryz.prog 35 #[.agg #[.int .i64 k, .int .i64 l, .string s], .agg #[.int .i64 k, .int .i64 l, .string s]] w fun e w' => e = .returned (.bool true) ∧ Below w.heap.size w w' := by
  have e1 : (k != k) = false := by simp
  have e2 : (l != l) = false := by simp
  have e3 : (!(s.toList == s.toList)) = false := by simp
  go_enter Tryz.func35, Tryz.ntmps35
  go_wp2_with fail
  go_ret
  exact ⟨rfl, below2 _ _ _⟩

end Go.Proofs.YtpdcmmhhgnackaaGreatDoor
