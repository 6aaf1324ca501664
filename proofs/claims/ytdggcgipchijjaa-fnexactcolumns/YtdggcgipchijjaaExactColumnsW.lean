/- The walk of FnExactColumns. -/
import Derived.Test.YtdggcgipchijjaaColsI
import Derived.Test.YtdggcgipchijjaaColsS
import Derived.Test.YtdggcgipchijjaaExMark
import Derived.Test.YtdggcgipchijjaaExBoxes
import Derived.Test.YtdggcgipchijjaaOwn
namespace Go.Proofs.Ytdggcgipchijjaa
open Go.ChangeShapes Go.WideShapes Go.ChangeAt Go.RowKit

theorem OwnAt.turnB {w w' : World} {lo hi : Nat} {a : Option Addr} {c : Nat} {xs : List ByteArray} {bs : List Nat} (h : OwnAt w lo hi a c xs) (ht : TurnB w w' bs) (hr : ∀ g ∈ bs, g < lo ∨ hi ≤ g) : OwnAt w' lo hi a c xs :=
  ⟨ownsRow_block h.1 fun g hg => ht.2.2.2.2 g (h.1.lt hg).2 (fun hm => by have h1 := (h.1.lt hg).1; have h2 := h.2 g hg; have h3 := hr g hm; omega), h.2⟩

theorem Box4.turnB {w w' : World} {b : Nat} {e : Ex} {a : Option Addr} {c : Nat} {bs : List Nat} (h : Box4 w b e a c) (ht : TurnB w w' bs) (hb : b ∉ bs) : Box4 w' b e a c := by
  obtain ⟨h0, h1, h2, h3, h4⟩ := h
  have hbl := ht.2.2.2.2 b h0 hb
  have ce : ∀ o, w'.cell? ⟨b, o, none⟩ = w.cell? ⟨b, o, none⟩ := fun o => World.cell?_of_block (a := ⟨b, o, none⟩) hbl
  exact ⟨Nat.lt_of_lt_of_le h0 ht.2.2.2.1, (ce 0).trans h1, (ce 1).trans h2, (ce 2).trans h3, (ce 3).trans h4⟩

theorem Box4.grown {w w' : World} {b : Nat} {e : Ex} {a : Option Addr} {c : Nat} {row : Option Nat} (h : Box4 w b e a c) (hg : w.grownBy w' row) (hb : some b ≠ row) : Box4 w' b e a c := by
  obtain ⟨h0, h1, h2, h3, h4⟩ := h
  have ce : ∀ o, w'.cell? ⟨b, o, none⟩ = w.cell? ⟨b, o, none⟩ := fun o => hg.cell_far ⟨b, o, none⟩ h0 hb
  exact ⟨Nat.lt_of_lt_of_le h0 hg.size, (ce 0).trans h1, (ce 1).trans h2, (ce 2).trans h3, (ce 3).trans h4⟩

/-- What lies ahead of the marks. -/
structure EC (w : World) (X : Nat) (e : Ex) (a a4 : Option Addr) (c c4 d : Nat) (bs : List Nat) (lw hw lg hg : Nat) (aw ag : Option Addr) (cw cg : Nat) (ys : List ByteArray) (W : World) : Prop where
  two : Two w X e a a4 c c4 d W
  ko : KidsO W d a4 c4 e.kids bs
  w0 : OwnAt W lw hw aw cw ys
  g0 : OwnAt W lg hg ag cg ys

theorem EC.below {w : World} {X : Nat} {e : Ex} {a a4 : Option Addr} {c c4 d : Nat} {bs : List Nat} {lw hw lg hg : Nat} {aw ag : Option Addr} {cw cg : Nat} {ys : List ByteArray} {W W' : World} (h : EC w X e a a4 c c4 d bs lw hw lg hg aw ag cw cg ys W) (hb : Below W.heap.size W W') : EC w X e a a4 c c4 d bs lw hw lg hg aw ag cw cg ys W' :=
  ⟨h.two.below hb, h.ko.below hb, h.w0.below hb, h.g0.below hb⟩

/-- What lies behind the marks of the argument's copy. -/
structure ED (w : World) (e : Ex) (a : Option Addr) (c lw hw lg hg : Nat) (aw ag : Option Addr) (cw cg : Nat) (ys zs : List ByteArray) (W : World) : Prop where
  box : Box4 W w.heap.size e a c
  w0 : OwnAt W lw hw aw cw ys
  g0 : OwnAt W lg hg ag cg zs
  bel : Below w.heap.size w W

theorem ED.below {w : World} {e : Ex} {a : Option Addr} {c lw hw lg hg : Nat} {aw ag : Option Addr} {cw cg : Nat} {ys zs : List ByteArray} {W W' : World} (h : ED w e a c lw hw lg hg aw ag cw cg ys zs W) (hb : Below W.heap.size W W') : ED w e a c lw hw lg hg aw ag cw cg ys zs W' :=
  ⟨h.box.below hb, h.w0.below hb, h.g0.below hb, h.bel.trans (hb.mono h.bel.size)⟩

set_option maxRecDepth 100000 in
set_option maxHeartbeats 4000000 in
theorem walkFnExactColumns (e : Ex) (a : Option Addr) (c d : Nat) (w : World) (he : e.fit ∧ KidsAt w d a c e.kids) :
    Calls Try.prog 5 #[e.v a c] w fun x w' => x = .returned (.bool true) ∧ Below w.heap.size w w' := by
  obtain ⟨hfit, hk⟩ := he
  unfold Ex.v
  have HK := Lib.hid (fun w' hb => hk.below (w' := w') hb)
  have HB := Lib.hid (fun T => box4_new w T e a c)
  have hb0 := fun o => (Below.refl w.heap.size w).alloc (Nat.le_refl _) o
  have HB0 := Lib.hid hb0
  clear hk hb0
  go_enter Try.func5, Try.ntmps5
  go_wp2_with fail
  refine (szEx d e a c 1048576 _ hfit (HK.out _ (HB0.out _)) (by omega) (by omega)).mono ?_
  by_cases h1 : (1048576 : Int) < e.wt
  · rw [show leftN e.wt 1048576 = -1 from if_pos h1]
    rintro x w1 ⟨rfl, b1⟩
    go_wp2_with fail
    go_ret
    exact ⟨rfl, (HB0.out _).trans (b1.mono (by simp))⟩
  · rw [show leftN e.wt 1048576 = 1048576 - e.wt from if_neg h1]
    have hwt : e.wt ≤ 1048576 := by omega
    have hn : e.nodes ≤ 1048577 := by have := nodes_wt e; omega
    have hd : decide ((1048576 : Int) - e.wt < 0) = false := by simp; omega
    have hszs : Hid (∀ s ∈ e.ucols, s.size ≤ maxLen) := fun s hs => by have := ucols_wt e s hs; unfold maxLen; omega
    have hul : e.ucols.length ≤ 1048577 := by have := (ucols_facts e).2.2; omega
    rintro x w1 ⟨rfl, b1⟩
    have B1 := Lib.hid ((HB0.out _).trans (b1.mono (by simp)))
    have X1 := Lib.hid ((HB.out _).below b1)
    obtain ⟨_, c0, c1, c2, c3⟩ := X1.out
    clear b1
    go_wp2_with fail
    refine (toEx d e a c _ hfit hwt (HK.out _ B1.out)).mono ?_
    rintro x w2 ⟨a2, c2', rfl, k2, b2⟩
    have B2 := Lib.hid (B1.out.trans (b2.mono B1.out.size))
    have X2 := Lib.hid (X1.out.below b2)
    clear b2 c0 c1 c2 c3
    have K2 := Lib.hid k2.at
    clear k2
    go_wp2_with fail
    refine (specCols d e a2 c2' _ hfit hwt K2.out).mono ?_
    rintro x w3 ⟨aw, cw, rfl, own3, b3⟩
    have B3 := Lib.hid (B2.out.trans (b3.mono B2.out.size))
    have X3 := Lib.hid (X2.out.below b3)
    have W3 := Lib.hid own3.at_
    have HZ23 : Hid (w2.heap.size ≤ w3.heap.size) := b3.size
    obtain ⟨_, c0, c1, c2, c3⟩ := X3.out
    clear b3 own3 K2
    go_wp2_with fail
    refine (toO d e a c _ hfit hwt (HK.out _ B3.out)).mono ?_
    rintro x w4 ⟨a4, c4, bs, rfl, k4, nd4, lo4, b4⟩
    have B4 := Lib.hid (B3.out.trans (b4.mono B3.out.size))
    have X4 := Lib.hid (X3.out.below b4)
    have W4 := Lib.hid (W3.out.below b4)
    have K4 := Lib.hid k4
    have hi4 := Lib.hid (k4.lt)
    have lo4' := Lib.hid lo4
    have HZ34 : Hid (w3.heap.size ≤ w4.heap.size) := b4.size
    have hnd := Lib.hid nd4
    clear b4 c0 c1 c2 c3 k4 lo4 nd4 W3
    go_wp2_with fail
    have T4 := Lib.hid (Two.new X4.out K4.out.at B4.out 26)
    have b5 : Below w4.heap.size w4 (w4.alloc (.cells #[.int .i64 e.kind, .string e.text, .int .i64 e.num, .slice a4 e.kids.length c4] 26)) := (Below.refl _ _).alloc (Nat.le_refl _) _
    have K5 := Lib.hid (K4.out.below b5)
    have W5 := Lib.hid (W4.out.below b5)
    have hs5 : (w4.alloc (.cells #[.int .i64 e.kind, .string e.text, .int .i64 e.num, .slice a4 e.kids.length c4] 26)).heap.size = w4.heap.size + 1 := by simp
    have HS5 := Lib.hid hs5
    clear b5 K4 W4 hs5
    refine (implCols e a4 c4 d _ hfit T4.out.2.2.1 hwt).mono ?_
    rintro x w5 ⟨ag, cg, rfl, own5, b5⟩
    have G5 := own5.at_
    rw [HS5.out] at G5
    have E5 : Hid (EC w w4.heap.size e a a4 c c4 d bs w2.heap.size w3.heap.size (w4.heap.size + 1) w5.heap.size aw ag cw cg e.ucols w5) := ⟨T4.out.below b5, K5.out.below b5, W5.out.below b5, G5⟩
    have hz5 : Hid (w.heap.size < w2.heap.size ∧ w2.heap.size ≤ w3.heap.size ∧ w3.heap.size ≤ w4.heap.size ∧ w4.heap.size + 1 ≤ w5.heap.size) := by
      refine ⟨X2.out.1, HZ23.out, HZ34.out, ?_⟩
      have := b5.size
      rw [HS5.out] at this
      exact this
    clear b5 own5 G5 K5 W5 T4 HS5
    generalize w4.heap.size = X at *
    go_wp2_with fail
    refine (eqStrs ag aw cg cw _ _ _ (E5.out.g0.1.strs hszs.out) (E5.out.w0.1.strs hszs.out) rfl).mono ?_
    rintro x w6 ⟨rfl, n6, rfl⟩
    have E6 := Lib.hid (E5.out.below (below_drewN (Below.refl _ _) n6))
    clear E5
    generalize w5.drewN n6 = w6 at E6 ⊢
    have E6d := Lib.hid (E6.out.below (below_drewE (Below.refl _ _)))
    have hst : Hid (∀ p q : World, (Cells8 w.heap.size X e a a4 c c4 p ∧ Hid (EC w X e a a4 c c4 d bs w2.heap.size w3.heap.size (X + 1) w5.heap.size aw ag cw cg e.ucols p)) → Below p.heap.size p q → (Cells8 w.heap.size X e a a4 c c4 q ∧ Hid (EC w X e a a4 c c4 d bs w2.heap.size w3.heap.size (X + 1) w5.heap.size aw ag cw cg e.ucols q))) := fun p q h hb => ⟨(h.2.out.below hb).two.cells, h.2.out.below hb⟩
    unfold Cells8 at hst
    go_wp2_with fail
    go_region_held3 (fun w' => ((w'.cell? ⟨w.heap.size, 0, none⟩ = some (.int .i64 e.kind) ∧ w'.cell? ⟨w.heap.size, 1, none⟩ = some (.string e.text) ∧ w'.cell? ⟨w.heap.size, 2, none⟩ = some (.int .i64 e.num) ∧ w'.cell? ⟨w.heap.size, 3, none⟩ = some (.slice a e.kids.length c)) ∧ (w'.cell? ⟨X, 0, none⟩ = some (.int .i64 e.kind) ∧ w'.cell? ⟨X, 1, none⟩ = some (.string e.text) ∧ w'.cell? ⟨X, 2, none⟩ = some (.int .i64 e.num) ∧ w'.cell? ⟨X, 3, none⟩ = some (.slice a4 e.kids.length c4))) ∧ Hid (EC w X e a a4 c c4 d bs w2.heap.size w3.heap.size (X + 1) w5.heap.size aw ag cw cg e.ucols w')) (first | assumption | exact ⟨E6d.out.two.cells, E6d.out⟩)
      (first
        | (go_at_call 21; refine (toEx d e a c _ hfit hwt (HK.out _ (And.right (by assumption : _ ∧ Hid (EC w X e a a4 c c4 d bs w2.heap.size w3.heap.size (X + 1) w5.heap.size aw ag cw cg e.ucols _))).out.two.2.2.2)).mono ?_; rintro x wq ⟨a6, c6, rfl, k6, bq⟩; have hq := hst.out _ _ (by assumption) bq; have K6 := Lib.hid k6.at; clear k6)
        | (go_at_call 23; refine (eqEx d e a4 a6 c4 c6 _ hq.2.out.two.2.2.1 K6.out).mono ?_; rintro x wz ⟨rfl, bz⟩; have hz := hst.out _ _ (by assumption) bz; have E9 := Lib.hid hz.2.out))
    clear hz hq K6 E6 E6d hst
    generalize wz = w9 at E9 ⊢
    obtain ⟨⟨c0, c1, c2, c3⟩, ⟨x0, x1, x2, x3⟩⟩ := E9.out.two.cells
    -- x0 is marked
    go_wp2_with fail
    refine (markEx e a4 c4 d bs w9 E9.out.ko hnd.out hn).mono ?_
    rintro x w10 ⟨rfl, _, hT10⟩
    have hbs : Hid (∀ b ∈ bs, w3.heap.size ≤ b ∧ b < X) := fun b hb => ⟨lo4'.out b hb, hi4.out b hb⟩
    have D10 : Hid (ED w e a c w2.heap.size w3.heap.size (X + 1) w5.heap.size aw ag cw cg e.ucols e.ucols w10) := by
      have hz := hz5.out
      refine ⟨E9.out.two.1.turnB hT10 (fun hm => by have := (hbs.out _ hm).1; omega), E9.out.w0.turnB hT10 (fun g hm => .inr (hbs.out g hm).1), E9.out.g0.turnB hT10 (fun g hm => .inl (by have := (hbs.out g hm).2; omega)), ?_⟩
      have hb9 := E9.out.two.2.2.2
      exact hb9.trans (hT10.bel (fun b hm => by have := (hbs.out b hm).1; omega) hb9.size)
    clear hT10 E9 c0 c1 c2 c3 x0 x1 x2 x3
    have ht10 : decide (((1 + 3 * nodesL e.kids : Nat) : Int) < 0) = false := by simp; omega
    generalize ((1 + 3 * nodesL e.kids : Nat) : Int) = z10 at ht10 ⊢
    go_wp2_with fail
    refine (eqStrs ag aw cg cw _ _ _ (D10.out.g0.1.strs hszs.out) (D10.out.w0.1.strs hszs.out) rfl).mono ?_
    rintro x w11 ⟨rfl, n11, rfl⟩
    have D11 := Lib.hid (D10.out.below (below_drewN (Below.refl _ _) n11))
    clear D10
    generalize w10.drewN n11 = w11 at D11 ⊢
    -- g0 is marked, and found marked
    go_wp2_with fail
    refine (markStrs1 ag cg _ _ _ D11.out.g0.1 (by omega)).mono ?_
    rintro x w12 ⟨rfl, own12, hg12⟩
    have D12 : Hid (ED w e a c w2.heap.size w3.heap.size (X + 1) w5.heap.size aw ag cw cg e.ucols (marks 1 e.ucols.length) w12) := by
      have hz := hz5.out
      have hrow : ∀ g, (Value.slice ag e.ucols.length cg).ownBlock = some g → X + 1 ≤ g ∧ g < w5.heap.size := fun g h => ⟨(D11.out.g0.1.lt h).1, D11.out.g0.2 g h⟩
      refine ⟨D11.out.box.grown hg12 (fun e => by have := (hrow _ e.symm).1; omega), D11.out.w0.grown hg12 (fun g h => .inr (by have := (hrow g h).1; omega)), ⟨own12, fun g h => ?_⟩, D11.out.bel.grown hg12 D11.out.bel.size (fun g h => by have := (hrow g h).1; omega)⟩
      rw [marks_length] at h
      exact (hrow g h).2
    have mk := marks_sizes 1 e.ucols.length (by omega)
    clear own12 hg12 D11
    go_wp2_with fail
    refine (heldStrs1 ag cg _ _ (D12.out.g0.1.strs mk) (by omega)).mono ?_
    rintro x w13 ⟨rfl, b13⟩
    have D13 := Lib.hid (D12.out.below b13)
    have ht13 : decide ((1 : Int) + (e.ucols.length : Int) < 0) = false := by simp; omega
    have hq13 : ((1 : Int) + (e.ucols.length : Int) != 1 + (e.ucols.length : Int)) = false := by simp
    clear b13 D12
    obtain ⟨_, c0, c1, c2, c3⟩ := D13.out.box
    -- a second answer
    go_wp2_with fail
    refine (toEx d e a c _ hfit hwt (HK.out _ D13.out.bel)).mono ?_
    rintro x w14 ⟨a14, c14, rfl, k14, b14⟩
    have D14 := Lib.hid (D13.out.below b14)
    have K14 := Lib.hid k14.at
    clear b14 k14 D13 c0 c1 c2 c3
    go_wp2_with fail
    refine (implCols e a14 c14 d _ hfit K14.out hwt).mono ?_
    rintro x w15 ⟨a15, c15, rfl, own15, b15⟩
    have D15 := Lib.hid (D14.out.below b15)
    have S15 := Lib.hid (own15.strs hszs.out)
    clear b15 own15 D14 K14
    go_wp2_with fail
    refine (eqStrs a15 aw c15 cw _ _ _ S15.out (D15.out.w0.1.strs hszs.out) rfl).mono ?_
    rintro x w16 ⟨rfl, n16, rfl⟩
    have D16 := Lib.hid (D15.out.below (below_drewN (Below.refl _ _) n16))
    clear D15 S15
    generalize w15.drewN n16 = w16 at D16 ⊢
    go_wp2_with fail
    refine (heldStrs1 ag cg _ _ (D16.out.g0.1.strs mk) (by omega)).mono ?_
    rintro x w17 ⟨rfl, b17⟩
    go_wp2_with fail
    go_ret
    exact ⟨rfl, D16.out.bel.trans (b17.mono D16.out.bel.size)⟩

end Go.Proofs.Ytdggcgipchijjaa
