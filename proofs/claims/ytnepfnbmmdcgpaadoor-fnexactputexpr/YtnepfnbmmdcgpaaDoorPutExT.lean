/- spec.l04Put: two kids; the whole; spec.PutExpr. -/
import Derived.Test.YtnepfnbmmdcgpaaDoorPutExS
import Derived.Test.YtnepfnbmmdcgpaaDoorExEq
namespace Go.Proofs.YtnepfnbmmdcgpaaDoor
open Go.RowKit

/-- The argument's box and the two kids, cell by cell. -/
structure TwoK (n0 : Nat) (w : World) (k : Int) (bb off c : Nat) (x y : Ex) (ax ay : Option Addr) (cx cy d : Nat) (w' : World) : Prop where
  lt : n0 < w'.heap.size
  lb : bb < w'.heap.size
  k0 : w'.cell? ⟨n0, 0, none⟩ = some (.int .i64 k)
  k3 : w'.cell? ⟨n0, 3, none⟩ = some (.slice (some ⟨bb, off, none⟩) 2 c)
  x0 : w'.cell? ⟨bb, off, none⟩ = some (.int .i64 x.kind)
  x1 : w'.cell? ⟨bb, off + 1, none⟩ = some (.string x.text)
  x2 : w'.cell? ⟨bb, off + 2, none⟩ = some (.int .i64 x.num)
  x3 : w'.cell? ⟨bb, off + 3, none⟩ = some (.slice ax x.kids.length cx)
  y0 : w'.cell? ⟨bb, off + 4, none⟩ = some (.int .i64 y.kind)
  y1 : w'.cell? ⟨bb, off + 4 + 1, none⟩ = some (.string y.text)
  y2 : w'.cell? ⟨bb, off + 4 + 2, none⟩ = some (.int .i64 y.num)
  y3 : w'.cell? ⟨bb, off + 4 + 3, none⟩ = some (.slice ay y.kids.length cy)
  kx : KidsAt w' d ax cx x.kids
  ky : KidsAt w' d ay cy y.kids
  bel : Below w.heap.size w w'

theorem TwoK.below {n0 : Nat} {w wa wb : World} {k : Int} {bb off c : Nat} {x y : Ex} {ax ay : Option Addr} {cx cy d : Nat} (h : TwoK n0 w k bb off c x y ax ay cx cy d wa) (hb : Below wa.heap.size wa wb) : TwoK n0 w k bb off c x y ax ay cx cy d wb :=
  ⟨Nat.lt_of_lt_of_le h.lt hb.size, Nat.lt_of_lt_of_le h.lb hb.size, (hb.cell (p := ⟨n0, 0, none⟩) h.lt).trans h.k0, (hb.cell (p := ⟨n0, 3, none⟩) h.lt).trans h.k3,
   (hb.cell (p := ⟨bb, off, none⟩) h.lb).trans h.x0, (hb.cell (p := ⟨bb, off + 1, none⟩) h.lb).trans h.x1, (hb.cell (p := ⟨bb, off + 2, none⟩) h.lb).trans h.x2, (hb.cell (p := ⟨bb, off + 3, none⟩) h.lb).trans h.x3,
   (hb.cell (p := ⟨bb, off + 4, none⟩) h.lb).trans h.y0, (hb.cell (p := ⟨bb, off + 4 + 1, none⟩) h.lb).trans h.y1, (hb.cell (p := ⟨bb, off + 4 + 2, none⟩) h.lb).trans h.y2, (hb.cell (p := ⟨bb, off + 4 + 3, none⟩) h.lb).trans h.y3,
   h.kx.below hb, h.ky.below hb, h.bel.trans (hb.mono h.bel.size)⟩

theorem TwoK.drew {n0 : Nat} {w wa : World} {k : Int} {bb off c : Nat} {x y : Ex} {ax ay : Option Addr} {cx cy d : Nat} (h : TwoK n0 w k bb off c x y ax ay cx cy d wa) : TwoK n0 w k bb off c x y ax ay cx cy d wa.drew := h.below (below_drewE (Below.refl _ _))

def CellsT (n0 : Nat) (k : Int) (bb off c : Nat) (x y : Ex) (ax ay : Option Addr) (cx cy : Nat) (w' : World) : Prop :=
  w'.cell? ⟨n0, 0, none⟩ = some (.int .i64 k) ∧ w'.cell? ⟨n0, 3, none⟩ = some (.slice (some ⟨bb, off, none⟩) 2 c) ∧
  w'.cell? ⟨bb, off, none⟩ = some (.int .i64 x.kind) ∧ w'.cell? ⟨bb, off + 1, none⟩ = some (.string x.text) ∧ w'.cell? ⟨bb, off + 2, none⟩ = some (.int .i64 x.num) ∧ w'.cell? ⟨bb, off + 3, none⟩ = some (.slice ax x.kids.length cx) ∧
  w'.cell? ⟨bb, off + 4, none⟩ = some (.int .i64 y.kind) ∧ w'.cell? ⟨bb, off + 4 + 1, none⟩ = some (.string y.text) ∧ w'.cell? ⟨bb, off + 4 + 2, none⟩ = some (.int .i64 y.num) ∧ w'.cell? ⟨bb, off + 4 + 3, none⟩ = some (.slice ay y.kids.length cy)

theorem TwoK.cells {n0 : Nat} {w wa : World} {k : Int} {bb off c : Nat} {x y : Ex} {ax ay : Option Addr} {cx cy d : Nat} (h : TwoK n0 w k bb off c x y ax ay cx cy d wa) : CellsT n0 k bb off c x y ax ay cx cy wa :=
  ⟨h.k0, h.k3, h.x0, h.x1, h.x2, h.x3, h.y0, h.y1, h.y2, h.y3⟩

theorem specSignEB (k : Int) (h0 : 8 ≤ k) (h1 : k ≤ 18) (w : World) (s : ByteArray) (hs : txt (signK k) = s) : Calls Tryd.prog 59 #[.int .i64 k] w fun e w' => e = .returned (.string s) ∧ w' = w := by
  subst hs; exact specSignE k h0 h1 w

set_option maxRecDepth 100000 in
set_option maxHeartbeats 4000000 in
theorem putTwo (d : Nat) (ih : PutP d) (k : Int) (hk : k ∈ ([8, 9, 10, 11, 12, 13, 14, 15, 16, 17, 18] : List Int)) (t : ByteArray) (n : Int) (x y : Ex) (a : Option Addr) (c : Nat) (L : Nat) (w : World) (hsx : shapeE x = true) (hsy : shapeE y = true) (hn : x.nodes ≤ 39 ∧ y.nodes ≤ 39) (hL : L ≤ 7) (hx : KidsAt w (d + 1) a c [x, y]) :
    Calls Tryd.prog 36 #[.agg #[.int .i64 k, .string t, .int .i64 n, .slice a 2 c], .int .i64 (L : Int)] w fun z w' => z = .returned (.string (tE (.mk k t n [x, y]) L)) ∧ Below w.heap.size w w' := by
  have HBX := Lib.hid (fun T => boxK_new w k t n a 2 c T)
  have HK := Lib.hid (fun w' hb => hx.below (w' := w') hb)
  clear hx
  obtain ⟨hb6, hb3⟩ := two_binds hk
  have hb1 := (binds_range k).1
  have hk18 : 8 ≤ k ∧ k ≤ 18 := by
    have : ∀ k ∈ ([8, 9, 10, 11, 12, 13, 14, 15, 16, 17, 18] : List Int), 8 ≤ k ∧ k ≤ 18 := by decide
    exact this k hk
  have kb : (k == 0) = false ∧ (k == 1) = false ∧ (k == 2) = false ∧ (k == 3) = false ∧ (k == 4) = false ∧ (k == 5) = false ∧ (k == 6) = false ∧ (k == 7) = false := by
    refine ⟨?_, ?_, ?_, ?_, ?_, ?_, ?_, ?_⟩ <;> (simp; omega)
  obtain ⟨kb0, kb1, kb2, kb3, kb4, kb5, kb6, kb7⟩ := kb
  have l3 : (ByteArray.mk #[40]).size = 1 := rfl
  have l4 : (ByteArray.mk #[41]).size = 1 := rfl
  have l5 : (ByteArray.mk #[32]).size = 1 := rfl
  obtain ⟨rs, hrs⟩ : ∃ rs : Ex → Int → ByteArray, rs = fun z m => tE z m.toNat := ⟨_, rfl⟩
  obtain ⟨sg, hsg⟩ : ∃ sg, txt (signK k) = sg := ⟨_, rfl⟩
  obtain ⟨bI, hbI⟩ : ∃ bI : Int, (bindsK k : Int) = bI := ⟨_, rfl⟩
  obtain ⟨fi, hfi⟩ : ∃ fi : Int, (firstK k : Int) = fi := ⟨_, rfl⟩
  obtain ⟨si, hsi⟩ : ∃ si : Int, bI + 1 = si := ⟨_, rfl⟩
  have hw1 : IntKind.i64.wrap (bI + 1) = si := by rw [hsi]; exact IntWalk.i64_in _ (by omega)
  have hzx : (rs x fi).size ≤ 8400 := by rw [hrs]; exact tE_size hsx (by omega)
  have hzy : (rs y si).size ≤ 8400 := by rw [hrs]; exact tE_size hsy (by omega)
  have hzs : sg.size ≤ 3 := by rw [← hsg, txt_size]; exact (sign_no hk).2.2
  obtain ⟨p1, hp1⟩ : ∃ p, p = rs x fi ++ (ByteArray.mk #[32]) := ⟨_, rfl⟩
  obtain ⟨p2, hp2⟩ : ∃ p, p = p1 ++ sg := ⟨_, rfl⟩
  obtain ⟨p3, hp3⟩ : ∃ p, p = p2 ++ (ByteArray.mk #[32]) := ⟨_, rfl⟩
  obtain ⟨p4, hp4⟩ : ∃ p, p = p3 ++ rs y si := ⟨_, rfl⟩
  have z1 : p1.size ≤ 8401 := by rw [hp1, ByteArray.size_append]; omega
  have z2 : p2.size ≤ 8404 := by rw [hp2, ByteArray.size_append]; omega
  have z3 : p3.size ≤ 8405 := by rw [hp3, ByteArray.size_append]; omega
  have z4 : p4.size ≤ 16805 := by rw [hp4, ByteArray.size_append]; omega
  have ad1 : ∀ w, (Op.stringOp .add (rs x fi) (ByteArray.mk #[32])).run Tryd.prog w = .ok (.string p1) w := fun w => by rw [hp1]; exact run_string_add_sum w _ _ (by omega)
  have ad2 : ∀ w, (Op.stringOp .add p1 sg).run Tryd.prog w = .ok (.string p2) w := fun w => by rw [hp2]; exact run_string_add_sum w _ _ (by omega)
  have ad3 : ∀ w, (Op.stringOp .add p2 (ByteArray.mk #[32])).run Tryd.prog w = .ok (.string p3) w := fun w => by rw [hp3]; exact run_string_add_sum w _ _ (by omega)
  have ad4 : ∀ w, (Op.stringOp .add p3 (rs y si)).run Tryd.prog w = .ok (.string p4) w := fun w => by rw [hp4]; exact run_string_add_sum w _ _ (by omega)
  have ad5 : ∀ w, (Op.stringOp .add (ByteArray.mk #[40]) p4).run Tryd.prog w = .ok (.string ((ByteArray.mk #[40]) ++ p4)) w := fun w => run_string_add_sum w _ _ (by omega)
  have ad6 : ∀ w, (Op.stringOp .add ((ByteArray.mk #[40]) ++ p4) (ByteArray.mk #[41])).run Tryd.prog w = .ok (.string ((ByteArray.mk #[40]) ++ p4 ++ (ByteArray.mk #[41]))) w := fun w => run_string_add_sum w _ _ (by rw [ByteArray.size_append]; omega)
  have HE := Lib.hid (tE_end (e := .mk k t n [x, y]) (L := L) (s := p4) (by
    rw [tE_two hk, hp4, hp3, hp2, hp1, hrs, hsg, ← hsi, ← hbI, ← hfi]
    simp only [Int.toNat_natCast]
    rw [show ((bindsK k : Int) + 1).toNat = bindsK k + 1 by omega]
    rfl))
  have cxy : Hid (∀ (z : Ex) (za : Option Addr) (zc : Nat) (m : Int) (W : World), ((z = x ∧ m = fi) ∨ (z = y ∧ m = si)) → KidsAt W d za zc z.kids →
      Calls Tryd.prog 36 #[.agg #[.int .i64 z.kind, .string z.text, .int .i64 z.num, .slice za z.kids.length zc], .int .i64 m] W fun e w' => e = .returned (.string (rs z m)) ∧ Below W.heap.size W w') := by
    intro z za zc m W h hz
    have h7 : firstK k ≤ 7 := by unfold firstK; split <;> omega
    rcases h with ⟨rfl, rfl⟩ | ⟨rfl, rfl⟩
    · have := ih z za zc (firstK k) W hsx (by omega) h7 hz
      rw [hfi] at this
      rw [hrs]
      simp only
      rw [← hfi, Int.toNat_natCast, hfi]
      exact this
    · have := ih z za zc (bindsK k + 1) W hsy (by omega) (by omega) hz
      have e : ((bindsK k + 1 : Nat) : Int) = m := by rw [← hsi, ← hbI]; omega
      rw [e] at this
      rw [hrs]
      simp only
      rw [← e, Int.toNat_natCast, e]
      exact this
  have hfib : fi = if bI = 4 then 5 else bI := by
    rw [← hfi, ← hbI]
    unfold firstK
    split
    · rw [if_pos (by omega)]; rfl
    · rw [if_neg (by omega)]
  have HbI := Lib.hid hbI
  have HSG := Lib.hid hsg
  have hbr : 1 ≤ bI ∧ bI ≤ 6 := by omega
  clear hrs hsg hp1 hp2 hp3 hp4 hsi hfi hbI ih
  by_cases h4 : bI = 4
  · rw [if_pos h4] at hfib
    have hb4 : (bI == 4) = true := by simp; exact h4
    clear h4
    subst hfib
    go_enter Tryd.func36, Tryd.ntmps36
    go_wp2_with fail
    refine (specBindsB k (by omega) (by omega) _ bI HbI.out).mono ?_
    rintro e w1 ⟨rfl, rfl⟩
    have BX := HBX.out 26
    generalize w.alloc (.cells #[.int .i64 k, .string t, .int .i64 n, .slice a 2 c] 26) = W1 at BX ⊢
    obtain ⟨hW1, c0, c1, c2, c3, bW1⟩ := BX
    obtain ⟨b, off, rfl, hbl, d0, d1, d2, _, ax, cx, d3, hkx⟩ := (HK.out _ bW1).spot (i := 0) (by simp)
    obtain ⟨b', off', he, hbl', e0, e1, e2, _, ay, cy, e3, hky⟩ := (HK.out _ bW1).spot (i := 1) (by simp)
    cases he
    simp only [List.getElem_cons_zero, List.getElem_cons_succ, Nat.zero_mul, Nat.one_mul, Nat.add_zero] at d0 d1 d2 d3 hkx e0 e1 e2 e3 hky
    have T1 : Hid (TwoK w.heap.size w k b off c x y ax ay cx cy d W1) := ⟨hW1, hbl, c0, c3, d0, d1, d2, d3, e0, e1, e2, e3, hkx, hky, bW1⟩
    clear c0 c1 c2 c3 d0 d1 d2 d3 e0 e1 e2 e3 hkx hky
    obtain ⟨c0, c3, d0, d1, d2, d3, e0, e1, e2, e3⟩ := T1.out.cells
    have hst : Hid (∀ p q : World, (CellsT w.heap.size k b off c x y ax ay cx cy p ∧ Hid (TwoK w.heap.size w k b off c x y ax ay cx cy d p)) → Below p.heap.size p q → (CellsT w.heap.size k b off c x y ax ay cx cy q ∧ Hid (TwoK w.heap.size w k b off c x y ax ay cx cy d q))) := fun p q h hb => ⟨(h.2.out.below hb).cells, h.2.out.below hb⟩
    unfold CellsT at hst
    go_wp2_with fail
    clear c0 c3 d0 d1 d2 d3 e0 e1 e2 e3
    go_region_held3 (fun w' => (w'.cell? ⟨w.heap.size, 0, none⟩ = some (.int .i64 k) ∧ w'.cell? ⟨w.heap.size, 3, none⟩ = some (.slice (some ⟨b, off, none⟩) 2 c) ∧ w'.cell? ⟨b, off, none⟩ = some (.int .i64 x.kind) ∧ w'.cell? ⟨b, off + 1, none⟩ = some (.string x.text) ∧ w'.cell? ⟨b, off + 2, none⟩ = some (.int .i64 x.num) ∧ w'.cell? ⟨b, off + 3, none⟩ = some (.slice ax x.kids.length cx) ∧
        w'.cell? ⟨b, off + 4, none⟩ = some (.int .i64 y.kind) ∧ w'.cell? ⟨b, off + 4 + 1, none⟩ = some (.string y.text) ∧ w'.cell? ⟨b, off + 4 + 2, none⟩ = some (.int .i64 y.num) ∧ w'.cell? ⟨b, off + 4 + 3, none⟩ = some (.slice ay y.kids.length cy)) ∧ Hid (TwoK w.heap.size w k b off c x y ax ay cx cy d w')) (first | assumption | exact ⟨T1.out.drew.cells, T1.out.drew⟩)
      (first
        | (go_at_call 36; refine (cxy.out _ _ _ _ _ (by first | exact .inl ⟨rfl, rfl⟩ | exact .inr ⟨rfl, rfl⟩) (by first | exact (And.right (by assumption : _ ∧ Hid (TwoK w.heap.size w k b off c x y ax ay cx cy d _))).out.kx | exact (And.right (by assumption : _ ∧ Hid (TwoK w.heap.size w k b off c x y ax ay cx cy d _))).out.ky)).mono ?_; rintro e wq ⟨rfl, bq⟩; have hq := hst.out _ _ (by assumption) bq)
        | (go_at_call 59; refine (specSignEB k (by omega) (by omega) _ sg HSG.out).mono ?_; rintro e wz ⟨rfl, rfl⟩))
    have B9 := Lib.hid hq.2.out.bel
    clear hq
    by_cases hlt : bI < (L : Int)
    · have HR := Lib.hid (HE.out.1 (by show bindsK k < L; have := HbI.out; omega))
      go_wp2_with fail
      go_ret
      exact ⟨by rw [HR.out]; rfl, B9.out⟩
    · have HR := Lib.hid (HE.out.2 (by show ¬ bindsK k < L; have := HbI.out; omega))
      go_wp2_with fail
      go_ret
      exact ⟨by rw [HR.out]; rfl, B9.out⟩
  · rw [if_neg h4] at hfib
    have hb4 : (bI == 4) = false := by simp; exact h4
    clear h4
    have hfib' := hfib.symm
    subst hfib'
    go_enter Tryd.func36, Tryd.ntmps36
    go_wp2_with fail
    refine (specBindsB k (by omega) (by omega) _ bI HbI.out).mono ?_
    rintro e w1 ⟨rfl, rfl⟩
    have BX := HBX.out 26
    generalize w.alloc (.cells #[.int .i64 k, .string t, .int .i64 n, .slice a 2 c] 26) = W1 at BX ⊢
    obtain ⟨hW1, c0, c1, c2, c3, bW1⟩ := BX
    obtain ⟨b, off, rfl, hbl, d0, d1, d2, _, ax, cx, d3, hkx⟩ := (HK.out _ bW1).spot (i := 0) (by simp)
    obtain ⟨b', off', he, hbl', e0, e1, e2, _, ay, cy, e3, hky⟩ := (HK.out _ bW1).spot (i := 1) (by simp)
    cases he
    simp only [List.getElem_cons_zero, List.getElem_cons_succ, Nat.zero_mul, Nat.one_mul, Nat.add_zero] at d0 d1 d2 d3 hkx e0 e1 e2 e3 hky
    have T1 : Hid (TwoK w.heap.size w k b off c x y ax ay cx cy d W1) := ⟨hW1, hbl, c0, c3, d0, d1, d2, d3, e0, e1, e2, e3, hkx, hky, bW1⟩
    clear c0 c1 c2 c3 d0 d1 d2 d3 e0 e1 e2 e3 hkx hky
    obtain ⟨c0, c3, d0, d1, d2, d3, e0, e1, e2, e3⟩ := T1.out.cells
    have hst : Hid (∀ p q : World, (CellsT w.heap.size k b off c x y ax ay cx cy p ∧ Hid (TwoK w.heap.size w k b off c x y ax ay cx cy d p)) → Below p.heap.size p q → (CellsT w.heap.size k b off c x y ax ay cx cy q ∧ Hid (TwoK w.heap.size w k b off c x y ax ay cx cy d q))) := fun p q h hb => ⟨(h.2.out.below hb).cells, h.2.out.below hb⟩
    unfold CellsT at hst
    go_wp2_with fail
    clear c0 c3 d0 d1 d2 d3 e0 e1 e2 e3
    go_region_held3 (fun w' => (w'.cell? ⟨w.heap.size, 0, none⟩ = some (.int .i64 k) ∧ w'.cell? ⟨w.heap.size, 3, none⟩ = some (.slice (some ⟨b, off, none⟩) 2 c) ∧ w'.cell? ⟨b, off, none⟩ = some (.int .i64 x.kind) ∧ w'.cell? ⟨b, off + 1, none⟩ = some (.string x.text) ∧ w'.cell? ⟨b, off + 2, none⟩ = some (.int .i64 x.num) ∧ w'.cell? ⟨b, off + 3, none⟩ = some (.slice ax x.kids.length cx) ∧
        w'.cell? ⟨b, off + 4, none⟩ = some (.int .i64 y.kind) ∧ w'.cell? ⟨b, off + 4 + 1, none⟩ = some (.string y.text) ∧ w'.cell? ⟨b, off + 4 + 2, none⟩ = some (.int .i64 y.num) ∧ w'.cell? ⟨b, off + 4 + 3, none⟩ = some (.slice ay y.kids.length cy)) ∧ Hid (TwoK w.heap.size w k b off c x y ax ay cx cy d w')) (first | assumption | exact ⟨T1.out.drew.cells, T1.out.drew⟩)
      (first
        | (go_at_call 36; refine (cxy.out _ _ _ _ _ (by first | exact .inl ⟨rfl, rfl⟩ | exact .inr ⟨rfl, rfl⟩) (by first | exact (And.right (by assumption : _ ∧ Hid (TwoK w.heap.size w k b off c x y ax ay cx cy d _))).out.kx | exact (And.right (by assumption : _ ∧ Hid (TwoK w.heap.size w k b off c x y ax ay cx cy d _))).out.ky)).mono ?_; rintro e wq ⟨rfl, bq⟩; have hq := hst.out _ _ (by assumption) bq)
        | (go_at_call 59; refine (specSignEB k (by omega) (by omega) _ sg HSG.out).mono ?_; rintro e wz ⟨rfl, rfl⟩))
    have B9 := Lib.hid hq.2.out.bel
    clear hq
    by_cases hlt : bI < (L : Int)
    · have HR := Lib.hid (HE.out.1 (by show bindsK k < L; have := HbI.out; omega))
      go_wp2_with fail
      go_ret
      exact ⟨by rw [HR.out]; rfl, B9.out⟩
    · have HR := Lib.hid (HE.out.2 (by show ¬ bindsK k < L; have := HbI.out; omega))
      go_wp2_with fail
      go_ret
      exact ⟨by rw [HR.out]; rfl, B9.out⟩

theorem specPut : ∀ d, PutP d
  | 0 => fun _ _ _ _ _ _ _ _ h => h.elim
  | d + 1 => by
    intro e a c L w hs hn hL hk
    obtain ⟨k, t, n, kids⟩ := e
    obtain ⟨h1, hl⟩ := shape_parts hs
    have hne := Ex.nodes_eq (.mk k t n kids)
    match kids, h1, hl, hk, hne with
    | [], h1, _, _, _ => exact putLeaf k t n a c L w h1 hL
    | [x], h1, hl, hk, hne =>
      rw [shapeL, Bool.and_eq_true] at hl
      change _ = 1 + nodesL [x] at hne
      rw [nodesL, nodesL] at hne
      exact putOne d (specPut d) k (one_kid (arity h1)) t n x a c L w hl.1 (by omega) hL hk
    | [x, y], h1, hl, hk, hne =>
      rw [shapeL, shapeL, Bool.and_eq_true, Bool.and_eq_true] at hl
      change _ = 1 + nodesL [x, y] at hne
      rw [nodesL, nodesL, nodesL] at hne
      exact putTwo d (specPut d) k (two_mem (arity h1)) t n x y a c L w hl.1 hl.2.1 (by omega) hL hk
    | x :: y :: z :: r, h1, _, _, _ =>
      have := arity h1
      unfold kidsK at this
      simp only [List.length_cons] at this
      split at this
      · omega
      · split at this
        · omega
        · split at this <;> omega

/-- What PutExpr answers. -/
def putT (e : Ex) : ByteArray := if (decide (e.nodes ≤ 40) && shapeE e) = true then tE e 1 else txt []

end Go.Proofs.YtnepfnbmmdcgpaaDoor
