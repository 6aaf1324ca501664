/- The walk of FnExactRenamed. -/
import Derived.Test.YtdggcgipchijjaaRenW
import Derived.Test.YtdggcgipchijjaaRenS
import Derived.Test.YtdggcgipchijjaaExHeld
import Derived.Test.YtdggcgipchijjaaExBoxes
import Derived.Test.YtdggcgipchijjaaExSz
namespace Go.Proofs.Ytdggcgipchijjaa
open Go.ChangeShapes Go.WideShapes Go.ChangeAt Go.RowKit

theorem box4_turnB {w w' : World} {b : Nat} {e : Ex} {a : Option Addr} {c : Nat} {bs : List Nat} (h : Box4 w b e a c) (ht : TurnB w w' bs) (hb : b ∉ bs) : Box4 w' b e a c := by
  obtain ⟨h0, h1, h2, h3, h4⟩ := h
  have hbl := ht.2.2.2.2 b h0 hb
  have ce : ∀ o, w'.cell? ⟨b, o, none⟩ = w.cell? ⟨b, o, none⟩ := fun o => World.cell?_of_block (a := ⟨b, o, none⟩) hbl
  exact ⟨Nat.lt_of_lt_of_le h0 ht.2.2.2.1, (ce 0).trans h1, (ce 1).trans h2, (ce 2).trans h3, (ce 3).trans h4⟩

theorem kidsQ_below {q : Nat → Prop} {w w' : World} {d : Nat} {a : Option Addr} {c : Nat} {kids : List Ex} (h : KidsQ q w d a c kids) (hb : Below w.heap.size w w') : KidsQ q w' d a c kids :=
  h.agree hb.size fun b _ hlt o => hb.cell (p := ⟨b, o, none⟩) hlt

theorem kidsQ_turnB {q : Nat → Prop} {w w' : World} {d : Nat} {a : Option Addr} {c : Nat} {kids : List Ex} {bs : List Nat} (h : KidsQ q w d a c kids) (ht : TurnB w w' bs) (hq : ∀ b, q b → b ∉ bs) : KidsQ q w' d a c kids :=
  h.agree ht.2.2.2.1 fun b hqb hlt o => World.cell?_of_block (a := ⟨b, o, none⟩) (ht.2.2.2.2 b hlt (hq b hqb))

/-- The boxes and trees of the law; g0's kids are G. -/
structure EM (w : World) (V Y : Nat) (e E : Ex) (a aw ag : Option Addr) (c cw cg dw dg : Nat) (gs : List Nat) (G : List Ex) (W : World) : Prop where
  bA : Box4 W w.heap.size e a c
  bV : Box4 W V E aw cw
  bY : Box4 W Y E ag cg
  kw : KidsQ (fun b => w.heap.size < b ∧ b < V) W dw aw cw E.kids
  kg : KidsO W dg ag cg G gs
  bel : Below w.heap.size w W

theorem EM.below {w : World} {V Y : Nat} {e E : Ex} {a aw ag : Option Addr} {c cw cg dw dg : Nat} {gs : List Nat} {G : List Ex} {W W' : World} (h : EM w V Y e E a aw ag c cw cg dw dg gs G W) (hb : Below W.heap.size W W') : EM w V Y e E a aw ag c cw cg dw dg gs G W' :=
  ⟨h.bA.below hb, h.bV.below hb, h.bY.below hb, kidsQ_below h.kw hb, h.kg.below hb, h.bel.trans (hb.mono h.bel.size)⟩

/-- And x0 beside. -/
structure EX (w : World) (V X Y : Nat) (e E : Ex) (a aw a4 ag : Option Addr) (c cw c4 cg d dw dg : Nat) (bs gs : List Nat) (G : List Ex) (W : World) : Prop where
  m : EM w V Y e E a aw ag c cw cg dw dg gs G W
  bX : Box4 W X e a4 c4
  kx : KidsO W d a4 c4 e.kids bs

theorem EX.below {w : World} {V X Y : Nat} {e E : Ex} {a aw a4 ag : Option Addr} {c cw c4 cg d dw dg : Nat} {bs gs : List Nat} {G : List Ex} {W W' : World} (h : EX w V X Y e E a aw a4 ag c cw c4 cg d dw dg bs gs G W) (hb : Below W.heap.size W W') : EX w V X Y e E a aw a4 ag c cw c4 cg d dw dg bs gs G W' :=
  ⟨h.m.below hb, h.bX.below hb, h.kx.below hb⟩

theorem eqExD (e : Ex) (a a' : Option Addr) (c c' d d' : Nat) (w : World) (h : KidsAt w d a c e.kids) (h' : KidsAt w d' a' c' e.kids) :
    Calls Try.prog 23 #[.agg #[.int .i64 e.kind, .string e.text, .int .i64 e.num, .slice a e.kids.length c], .agg #[.int .i64 e.kind, .string e.text, .int .i64 e.num, .slice a' e.kids.length c']] w fun x w' => x = .returned (.bool true) ∧ Below w.heap.size w w' :=
  eqEx (max d d') e a a' c c' w (h.mono (Nat.le_max_left ..)) (h'.mono (Nat.le_max_right ..))

/-- How the law's boxes lie. -/
def Lies (n V X Y : Nat) (bs gs : List Nat) : Prop :=
  n < V ∧ V < X ∧ X < Y ∧ bs.Nodup ∧ gs.Nodup ∧ (∀ b ∈ bs, V < b ∧ b < X) ∧ (∀ b ∈ gs, X < b ∧ b < Y)

set_option maxRecDepth 100000 in
set_option maxHeartbeats 4000000 in
theorem walkFnExactRenamed (e : Ex) (a : Option Addr) (c d : Nat) (f t : ByteArray) (w : World) (he : e.fit ∧ KidsAt w d a c e.kids) (hf : f.size ≤ maxLen) (ht : t.size ≤ maxLen) :
    Calls Try.prog 6 #[e.v a c, .string f, .string t] w fun x w' => x = .returned (.bool true) ∧ Below w.heap.size w w' := by
  obtain ⟨hfit, hk⟩ := he
  unfold Ex.v
  have HK := Lib.hid (fun w' hb => hk.below (w' := w') hb)
  have HB := Lib.hid (fun T => box4_new w T e a c)
  have hb0 := fun o => (Below.refl w.heap.size w).alloc (Nat.le_refl _) o
  have HB0 := Lib.hid hb0
  clear hk hb0
  by_cases hf1 : (1048576 : Int) < (f.size : Int)
  · go_enter Try.func6, Try.ntmps6
    go_wp2_with fail
    go_ret
    exact ⟨rfl, HB0.out _⟩
  by_cases ht1 : (1048576 : Int) < (t.size : Int)
  · go_enter Try.func6, Try.ntmps6
    go_wp2_with fail
    go_ret
    exact ⟨rfl, HB0.out _⟩
  have htn : t.size ≤ 1048576 := by omega
  go_enter Try.func6, Try.ntmps6
  go_wp2_with fail
  refine (szEx d e a c 1048576 _ hfit (HK.out _ (HB0.out _)) (by omega) (by omega)).mono ?_
  by_cases h1 : (1048576 : Int) < e.wt
  · rw [show leftN e.wt 1048576 = -1 from if_pos h1]
    rintro x w1 ⟨rfl, b1⟩
    go_wp2_with fail
    go_ret
    exact ⟨rfl, (HB0.out _).trans (b1.mono (by simp))⟩
  · rw [show leftN e.wt 1048576 = 1048576 - e.wt from if_neg h1]
    have hwt : e.wt ≤ 1048576 := by omega
    have hn : e.nodes ≤ 1048577 := by have := nodes_wt e; omega
    have hd : decide ((1048576 : Int) - e.wt < 0) = false := by simp; omega
    have hnE : (renE f t e).nodes ≤ 1048577 := by rw [renE_nodes]; exact hn
    rintro x w1 ⟨rfl, b1⟩
    have B1 := Lib.hid ((HB0.out _).trans (b1.mono (by simp)))
    have X1 := Lib.hid ((HB.out _).below b1)
    obtain ⟨_, c0, c1, c2, c3⟩ := X1.out
    clear b1
    -- w0
    go_wp2_with fail
    refine (toEx d e a c _ hfit hwt (HK.out _ B1.out)).mono ?_
    rintro x w2 ⟨a2, c2', rfl, k2, b2⟩
    have B2 := Lib.hid (B1.out.trans (b2.mono B1.out.size))
    have X2 := Lib.hid (X1.out.below b2)
    clear b2 c0 c1 c2 c3
    have K2 := Lib.hid k2.at
    clear k2
    go_wp2_with fail
    refine (specRen f t htn d e a2 c2' _ hfit hwt K2.out).mono ?_
    rintro x w3 ⟨esw, aw, cw, rfl, hew, hroww, b3⟩
    obtain ⟨dw, hkw⟩ := hroww.kids
    rw [hew] at hkw
    have hlw : esw.length = (renE f t e).kids.length := by rw [← hew]; simp
    rw [hlw]
    generalize hE : renE f t e = E at *
    have B3 := Lib.hid (B2.out.trans (b3.mono B2.out.size))
    have X3 := Lib.hid (X2.out.below b3)
    have hz2 : Hid (w.heap.size < w2.heap.size ∧ w2.heap.size ≤ w3.heap.size) := ⟨X2.out.1, b3.size⟩
    have KW3 : Hid (KidsQ (fun b => w.heap.size < b ∧ b < w3.heap.size) w3 dw aw cw E.kids) := hkw.toQ.imp fun b h1 h2 => ⟨by have := hz2.out.1; omega, h2⟩
    clear b3 hroww hkw hew hlw K2
    obtain ⟨hn3, c0, c1, c2, c3⟩ := X3.out
    go_wp2_with fail
    clear c0 c1 c2 c3 hn3
    have hbV : Below w3.heap.size w3 (w3.alloc (.cells #[.int .i64 E.kind, .string E.text, .int .i64 E.num, .slice aw E.kids.length cw] 26)) := (Below.refl _ _).alloc (Nat.le_refl _) _
    have BV4 := Lib.hid (box4_new w3 26 E aw cw)
    have X4 := Lib.hid (X3.out.below hbV)
    have KW4 := Lib.hid (kidsQ_below KW3.out hbV)
    have B4 := Lib.hid (B3.out.trans (hbV.mono B3.out.size))
    have hs4 : Hid ((w3.alloc (.cells #[.int .i64 E.kind, .string E.text, .int .i64 E.num, .slice aw E.kids.length cw] 26)).heap.size = w3.heap.size + 1) := by unfold Hid; simp
    have hzV : Hid (w.heap.size < w3.heap.size) := by have := hz2.out; unfold Hid; omega
    clear hbV X3 KW3 B3 hz2
    generalize w3.alloc (.cells #[.int .i64 E.kind, .string E.text, .int .i64 E.num, .slice aw E.kids.length cw] 26) = w4 at *
    generalize w3.heap.size = V at *
    -- x0
    refine (toO d e a c _ hfit hwt (HK.out _ B4.out)).mono ?_
    rintro x w5 ⟨a4, c4, bs, rfl, k5, nd5, lo5, b5⟩
    have X5 := Lib.hid (X4.out.below b5)
    have BV5 := Lib.hid (BV4.out.below b5)
    have KW5 := Lib.hid (kidsQ_below KW4.out b5)
    have B5 := Lib.hid (B4.out.trans (b5.mono B4.out.size))
    have K5 := Lib.hid k5
    have HND5 := Lib.hid nd5
    have hzX : Hid (V < w5.heap.size ∧ ∀ b ∈ bs, V < b ∧ b < w5.heap.size) := by
      have h1 := hs4.out
      have h2 := b5.size
      exact ⟨by omega, fun b hb => ⟨by have := lo5 b hb; omega, k5.lt b hb⟩⟩
    clear b5 k5 nd5 lo5 X4 BV4 KW4 B4 hs4
    go_wp2_with fail
    have hbX : Below w5.heap.size w5 (w5.alloc (.cells #[.int .i64 e.kind, .string e.text, .int .i64 e.num, .slice a4 e.kids.length c4] 26)) := (Below.refl _ _).alloc (Nat.le_refl _) _
    have BX6 := Lib.hid (box4_new w5 26 e a4 c4)
    have X6 := Lib.hid (X5.out.below hbX)
    have BV6 := Lib.hid (BV5.out.below hbX)
    have KW6 := Lib.hid (kidsQ_below KW5.out hbX)
    have K6 := Lib.hid (K5.out.below hbX)
    have B6 := Lib.hid (B5.out.trans (hbX.mono B5.out.size))
    have hs6 : Hid ((w5.alloc (.cells #[.int .i64 e.kind, .string e.text, .int .i64 e.num, .slice a4 e.kids.length c4] 26)).heap.size = w5.heap.size + 1) := by unfold Hid; simp
    clear hbX X5 BV5 KW5 K5 B5
    generalize w5.alloc (.cells #[.int .i64 e.kind, .string e.text, .int .i64 e.num, .slice a4 e.kids.length c4] 26) = w6 at *
    generalize w5.heap.size = X at *
    -- g0
    have himp := implRenamed f t e a4 c4 d w6 hfit K6.out.at hwt htn
    rw [hE] at himp
    refine himp.mono ?_
    clear himp
    rintro x w7 ⟨ag, cg, dg, gs, rfl, k7, nd7, lo7, b7⟩
    have BX7 := Lib.hid (BX6.out.below b7)
    have X7 := Lib.hid (X6.out.below b7)
    have BV7 := Lib.hid (BV6.out.below b7)
    have KW7 := Lib.hid (kidsQ_below KW6.out b7)
    have K7 := Lib.hid (K6.out.below b7)
    have B7 := Lib.hid (B6.out.trans (b7.mono B6.out.size))
    have G7 := Lib.hid k7
    have HL : Hid (Lies w.heap.size V X w7.heap.size bs gs) := by
      have h1 := hs6.out
      have h2 := b7.size
      exact ⟨hzV.out, hzX.out.1, by omega, HND5.out, nd7, hzX.out.2, fun b hb => ⟨by have := lo7 b hb; omega, k7.lt b hb⟩⟩
    clear b7 k7 nd7 lo7 BX6 X6 BV6 KW6 K6 B6 hs6 hzV hzX HND5
    obtain ⟨hv7, v0, v1, v2, v3⟩ := BV7.out
    go_wp2_with fail
    clear v0 v1 v2 v3 hv7
    have hbY : Below w7.heap.size w7 (w7.alloc (.cells #[.int .i64 E.kind, .string E.text, .int .i64 E.num, .slice ag E.kids.length cg] 26)) := (Below.refl _ _).alloc (Nat.le_refl _) _
    have E8 : Hid (EX w V X w7.heap.size e E a aw a4 ag c cw c4 cg d dw dg bs gs E.kids (w7.alloc (.cells #[.int .i64 E.kind, .string E.text, .int .i64 E.num, .slice ag E.kids.length cg] 26))) :=
      ⟨⟨X7.out.below hbY, BV7.out.below hbY, box4_new w7 26 E ag cg, kidsQ_below KW7.out hbY, G7.out.below hbY, B7.out.trans (hbY.mono B7.out.size)⟩, BX7.out.below hbY, K7.out.below hbY⟩
    clear hbY X7 BV7 KW7 K7 B7 G7 BX7
    generalize w7.alloc (.cells #[.int .i64 E.kind, .string E.text, .int .i64 E.num, .slice ag E.kids.length cg] 26) = w8 at *
    generalize w7.heap.size = Y at *
    refine (eqExD E ag aw cg cw dg dw w8 E8.out.m.kg.at E8.out.m.kw.at).mono ?_
    rintro x w9 ⟨rfl, b9⟩
    have E9 := Lib.hid (E8.out.below b9)
    clear b9 E8
    have E9d := Lib.hid (E9.out.below (below_drewE (Below.refl _ _)))
    have hst : Hid (∀ p q : World, (Cells8 w.heap.size X e a a4 c c4 p ∧ Hid (EX w V X Y e E a aw a4 ag c cw c4 cg d dw dg bs gs E.kids p)) → Below p.heap.size p q → (Cells8 w.heap.size X e a a4 c c4 q ∧ Hid (EX w V X Y e E a aw a4 ag c cw c4 cg d dw dg bs gs E.kids q))) := fun p q h hb => ⟨⟨(h.2.out.below hb).m.bA.2, (h.2.out.below hb).bX.2⟩, h.2.out.below hb⟩
    unfold Cells8 at hst
    go_wp2_with fail
    go_region_held3 (fun w' => ((w'.cell? ⟨w.heap.size, 0, none⟩ = some (.int .i64 e.kind) ∧ w'.cell? ⟨w.heap.size, 1, none⟩ = some (.string e.text) ∧ w'.cell? ⟨w.heap.size, 2, none⟩ = some (.int .i64 e.num) ∧ w'.cell? ⟨w.heap.size, 3, none⟩ = some (.slice a e.kids.length c)) ∧ (w'.cell? ⟨X, 0, none⟩ = some (.int .i64 e.kind) ∧ w'.cell? ⟨X, 1, none⟩ = some (.string e.text) ∧ w'.cell? ⟨X, 2, none⟩ = some (.int .i64 e.num) ∧ w'.cell? ⟨X, 3, none⟩ = some (.slice a4 e.kids.length c4))) ∧ Hid (EX w V X Y e E a aw a4 ag c cw c4 cg d dw dg bs gs E.kids w')) (first | assumption | exact ⟨⟨E9d.out.m.bA.2, E9d.out.bX.2⟩, E9d.out⟩)
      (first
        | (go_at_call 21; refine (toEx d e a c _ hfit hwt (HK.out _ (And.right (by assumption : _ ∧ Hid (EX w V X Y e E a aw a4 ag c cw c4 cg d dw dg bs gs E.kids _))).out.m.bel)).mono ?_; rintro x wq ⟨a6, c6, rfl, k6, bq⟩; have hq := hst.out _ _ (by assumption) bq; have K6 := Lib.hid k6.at; clear k6)
        | (go_at_call 23; refine (eqEx d e a4 a6 c4 c6 _ hq.2.out.kx.at K6.out).mono ?_; rintro x wz ⟨rfl, bz⟩; have hz := hst.out _ _ (by assumption) bz; have E10 := Lib.hid hz.2.out))
    clear hz hq K6 E9 E9d hst
    generalize wz = w10 at E10 ⊢
    obtain ⟨_, x0, x1, x2, x3⟩ := E10.out.bX
    -- x0 is marked
    go_wp2_with fail
    refine (markEx e a4 c4 d bs w10 E10.out.kx HL.out.2.2.2.1 hn).mono ?_
    rintro x w11 ⟨rfl, _, hT11⟩
    have M11 : Hid (EM w V Y e E a aw ag c cw cg dw dg gs E.kids w11) := by
      obtain ⟨l1, l2, l3, l4, l5, l6, l7⟩ := HL.out
      have h := E10.out.m
      refine ⟨box4_turnB h.bA hT11 (fun hm => by have := l6 _ hm; omega), box4_turnB h.bV hT11 (fun hm => by have := l6 _ hm; omega), box4_turnB h.bY hT11 (fun hm => by have := l6 _ hm; omega), kidsQ_turnB h.kw hT11 (fun b hb hm => by have := l6 _ hm; omega), h.kg.agree fun b hb => hT11.2.2.2.2 b (h.kg.lt b hb) (fun hm => by have h1 := l6 _ hm; have h2 := l7 _ hb; omega), h.bel.trans (hT11.bel (fun b hm => by have := l6 _ hm; omega) h.bel.size)⟩
    clear hT11 E10 x0 x1 x2 x3
    have ht11 : decide (((1 + 3 * nodesL e.kids : Nat) : Int) < 0) = false := by simp; omega
    generalize ((1 + 3 * nodesL e.kids : Nat) : Int) = z11 at ht11 ⊢
    obtain ⟨_, v0, v1, v2, v3⟩ := M11.out.bV
    obtain ⟨_, y0, y1, y2, y3⟩ := M11.out.bY
    go_wp2_with fail
    refine (eqExD E ag aw cg cw dg dw w11 M11.out.kg.at M11.out.kw.at).mono ?_
    rintro x w12 ⟨rfl, b12⟩
    have M12 := Lib.hid (M11.out.below b12)
    clear b12 v0 v1 v2 v3 y0 y1 y2 y3 M11
    obtain ⟨_, y0, y1, y2, y3⟩ := M12.out.bY
    -- g0 is marked, and found marked
    go_wp2_with fail
    refine (markEx E ag cg dg gs w12 M12.out.kg HL.out.2.2.2.2.1 hnE).mono ?_
    obtain ⟨z14, hz14⟩ : ∃ z : Int, z = ((1 + 3 * nodesL E.kids : Nat) : Int) := ⟨_, rfl⟩
    have hEn := Ex.nodes_eq E
    have ht14 : decide (z14 < 0) = false := by rw [hz14]; simp; omega
    have hq14 : (z14 != z14) = false := by simp
    rw [← hz14]
    have HZ14 := Lib.hid hz14
    clear hz14 hEn
    rintro x w13 ⟨rfl, kg13, hT13⟩
    have M13 : Hid (EM w V Y e E a aw ag c cw cg dw dg gs (markL 1 E.kids) w13) := by
      obtain ⟨l1, l2, l3, l4, l5, l6, l7⟩ := HL.out
      have h := M12.out
      exact ⟨box4_turnB h.bA hT13 (fun hm => by have := l7 _ hm; omega), box4_turnB h.bV hT13 (fun hm => by have := l7 _ hm; omega), box4_turnB h.bY hT13 (fun hm => by have := l7 _ hm; omega), kidsQ_turnB h.kw hT13 (fun b hb hm => by have := l7 _ hm; omega), kg13, h.bel.trans (hT13.bel (fun b hm => by have := l7 _ hm; omega) h.bel.size)⟩
    clear hT13 kg13 M12 y0 y1 y2 y3
    obtain ⟨_, y0, y1, y2, y3⟩ := M13.out.bY
    go_wp2_with fail
    refine (heldEx E ag cg dg w13 M13.out.kg.at hnE).mono ?_
    rw [← HZ14.out]
    rintro x w14 ⟨rfl, b14⟩
    have M14 := Lib.hid (M13.out.below b14)
    clear b14 M13 y0 y1 y2 y3
    obtain ⟨_, c0, c1, c2, c3⟩ := M14.out.bA
    -- a second answer
    go_wp2_with fail
    refine (toEx d e a c _ hfit hwt (HK.out _ M14.out.bel)).mono ?_
    rintro x w15 ⟨a15, c15, rfl, k15, b15⟩
    have M15 := Lib.hid (M14.out.below b15)
    have K15 := Lib.hid k15.at
    clear b15 k15 M14 c0 c1 c2 c3
    go_wp2_with fail
    have himp := implRenamed f t e a15 c15 d w15 hfit K15.out hwt htn
    rw [hE] at himp
    refine himp.mono ?_
    clear himp
    rintro x w16 ⟨ah, ch, dh, hs, rfl, k16, nd16, lo16, b16⟩
    have M16 := Lib.hid (M15.out.below b16)
    have K16 := Lib.hid k16.at
    clear b16 k16 nd16 lo16 M15 K15
    obtain ⟨hv16, v0, v1, v2, v3⟩ := M16.out.bV
    go_wp2_with fail
    clear v0 v1 v2 v3 hv16
    have hbH : Below w16.heap.size w16 (w16.alloc (.cells #[.int .i64 E.kind, .string E.text, .int .i64 E.num, .slice ah E.kids.length ch] 26)) := (Below.refl _ _).alloc (Nat.le_refl _) _
    have M17 := Lib.hid (M16.out.below hbH)
    have K17 := Lib.hid (K16.out.below hbH)
    clear hbH M16 K16
    generalize w16.alloc (.cells #[.int .i64 E.kind, .string E.text, .int .i64 E.num, .slice ah E.kids.length ch] 26) = w17 at *
    refine (eqExD E ah aw ch cw dh dw w17 K17.out M17.out.kw.at).mono ?_
    rintro x w18 ⟨rfl, b18⟩
    have M18 := Lib.hid (M17.out.below b18)
    clear b18 M17 K17
    obtain ⟨_, y0, y1, y2, y3⟩ := M18.out.bY
    go_wp2_with fail
    refine (heldEx E ag cg dg w18 M18.out.kg.at hnE).mono ?_
    rw [← HZ14.out]
    rintro x w19 ⟨rfl, b19⟩
    have M19 := Lib.hid (M18.out.bel.trans (b19.mono M18.out.bel.size))
    clear b19 M18 y0 y1 y2 y3
    go_wp2_with fail
    go_ret
    exact ⟨rfl, M19.out⟩

end Go.Proofs.Ytdggcgipchijjaa
