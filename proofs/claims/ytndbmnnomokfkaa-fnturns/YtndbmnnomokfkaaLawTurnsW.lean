/- The walk of FnTurns. -/
import Derived.Test.YtndbmnnomokfkaaDrawTurns2
import Derived.Test.YtndbmnnomokfkaaLawBase
namespace Go.Proofs.Ytndbmnnomokfkaa
open Go.RowKit

theorem implTurnsV (k l : Int) (s : ByteArray) (k' l' : Int) (s' : ByteArray) (w : World) :
    Calls Try.prog 10 #[.agg #[.int .i64 k, .int .i64 l, .string s], .agg #[.int .i64 k', .int .i64 l', .string s']] w fun e w' => e = .returned (.bool (turnsB ⟨k, l, s⟩ ⟨k', l', s'⟩)) ∧ Below w.heap.size w w' :=
  implTurns ⟨k, l, s⟩ ⟨k', l', s'⟩ w _ rfl

theorem turns_refl (t : Ty) : turnsB t t = true := by unfold turnsB; rw [tyEq_refl]; rfl
theorem turns_text (t : Ty) (s : ByteArray) : turnsB t ⟨1, 0, s⟩ = true := by unfold turnsB; simp

theorem tyEq_comm (t u : Ty) : tyEq t u = tyEq u t := by
  unfold tyEq
  rw [Bool.eq_iff_iff]
  simp only [Bool.and_eq_true, beq_iff_eq]
  constructor
  · rintro ⟨h1, h2, h3⟩; exact ⟨h1.symm, h2.symm, h3.symm⟩
  · rintro ⟨h1, h2, h3⟩; exact ⟨h1.symm, h2.symm, h3.symm⟩

/-- What turns there and back is text, or the same. -/
theorem turns_both (t u : Ty) (h1 : turnsB t u = true) (hE : tyEq t u = false) (hk : (t.kind == 1) = false) : (u.kind == 1) = true := by
  unfold turnsB at h1
  rw [hE, hk] at h1
  simpa using h1

set_option maxHeartbeats 4000000 in
theorem walkFnTurns (a : Option Addr) (c : Nat) (bs : List UInt8) (w : World) (hb : Bytes w a c bs) :
    Calls Try.prog 3 #[.slice a bs.length c] w fun e w' => e = .returned (.bool true) ∧ Below w.heap.size w w' := by
  by_cases hbig : 1048576 < bs.length
  · go_enter Try.func3, Try.ntmps3
    go_wp2_with (go_at_call 8; refine (lawsBigYes _ _ _ _ hbig).mono ?_; rintro e w' ⟨rfl, rfl⟩)
    go_ret
    exact ⟨rfl, Below.refl _ _⟩
  · go_enter Try.func3, Try.ntmps3
    go_wp2_with (go_at_call 8; refine (lawsBigNo _ _ _ _ (by omega)).mono ?_; rintro e w' ⟨rfl, rfl⟩)
    refine (specDrawTurns a c bs _ hb (by omega)).mono ?_
    rintro e w1 ⟨k, l, s, k', l', s', rfl, B1⟩
    cases hX : turnsB ⟨k, l, s⟩ ⟨k', l', s'⟩ with
    | false =>
      have HX := Lib.hid hX
      clear hX
      go_wp2_with fail
      have L1 := Lib.hid (lay2_new w1 25 25 k l s k' l' s')
      generalize (w1.alloc (.cells #[.int .i64 k, .int .i64 l, .string s] 25)).alloc (.cells #[.int .i64 k', .int .i64 l', .string s'] 25) = W2 at L1 ⊢
      have hst : Hid (∀ a b : World, (a.cell? ⟨w1.heap.size, 0, none⟩ = some (.int .i64 k) ∧ a.cell? ⟨w1.heap.size, 1, none⟩ = some (.int .i64 l) ∧ a.cell? ⟨w1.heap.size, 2, none⟩ = some (.string s) ∧ a.cell? ⟨w1.heap.size + 1, 0, none⟩ = some (.int .i64 k') ∧ a.cell? ⟨w1.heap.size + 1, 1, none⟩ = some (.int .i64 l') ∧ a.cell? ⟨w1.heap.size + 1, 2, none⟩ = some (.string s')) ∧ Hid (Lay2 w1 w1.heap.size (w1.heap.size + 1) k l s k' l' s' a) → Below a.heap.size a b → (b.cell? ⟨w1.heap.size, 0, none⟩ = some (.int .i64 k) ∧ b.cell? ⟨w1.heap.size, 1, none⟩ = some (.int .i64 l) ∧ b.cell? ⟨w1.heap.size, 2, none⟩ = some (.string s) ∧ b.cell? ⟨w1.heap.size + 1, 0, none⟩ = some (.int .i64 k') ∧ b.cell? ⟨w1.heap.size + 1, 1, none⟩ = some (.int .i64 l') ∧ b.cell? ⟨w1.heap.size + 1, 2, none⟩ = some (.string s')) ∧ Hid (Lay2 w1 w1.heap.size (w1.heap.size + 1) k l s k' l' s' b)) := fun a b h hb => ⟨(h.2.out.below hb).1, h.2.out.below hb⟩
      go_region_held3 (fun w' => (w'.cell? ⟨w1.heap.size, 0, none⟩ = some (.int .i64 k) ∧ w'.cell? ⟨w1.heap.size, 1, none⟩ = some (.int .i64 l) ∧ w'.cell? ⟨w1.heap.size, 2, none⟩ = some (.string s) ∧ w'.cell? ⟨w1.heap.size + 1, 0, none⟩ = some (.int .i64 k') ∧ w'.cell? ⟨w1.heap.size + 1, 1, none⟩ = some (.int .i64 l') ∧ w'.cell? ⟨w1.heap.size + 1, 2, none⟩ = some (.string s')) ∧ Hid (Lay2 w1 w1.heap.size (w1.heap.size + 1) k l s k' l' s' w')) (first | assumption | exact ⟨L1.out.drew.1, L1.out.drew⟩)
        ((go_at_call 10; refine (implTurnsV _ _ _ _ _ _ _).mono ?_; rintro e wq ⟨rfl, bq⟩; have hq5 := hst.out _ _ (by assumption) bq))
      have L5 := Lib.hid hq5.2.out
      rw [HX.out]
      clear hst
      obtain ⟨⟨c1, c2, c3, c4, c5, c6⟩, _⟩ := L5.out
      go_wp2_with fail
      refine (specTurns ⟨k, l, s⟩ ⟨k', l', s'⟩ _ false HX.out).mono ?_
      rintro e w6 ⟨rfl, b6⟩
      have L6 := Lib.hid ((L5.out.below ((Below.refl _ _).alloc (Nat.le_refl _) _)).below b6)
      have T6 := Lib.hid ((lay1_new wq 25 1 0 ⟨#[]⟩).below b6)
      clear c1 c2 c3 c4 c5 c6 b6
      obtain ⟨⟨c1, c2, c3, c4, c5, c6⟩, _⟩ := L6.out
      go_wp2_with fail
      refine (implTurns ⟨k, l, s⟩ ⟨k, l, s⟩ _ true (turns_refl _)).mono ?_
      rintro e w7 ⟨rfl, b7⟩
      have L7 := Lib.hid (L6.out.below b7)
      have T7 := Lib.hid (T6.out.below b7)
      clear c1 c2 c3 c4 c5 c6 b7
      obtain ⟨⟨c1, c2, c3, c4, c5, c6⟩, _⟩ := L7.out
      obtain ⟨⟨t1, t2, t3⟩, _⟩ := T7.out
      go_wp2_with fail
      refine (implTurns ⟨k, l, s⟩ ⟨1, 0, ⟨#[]⟩⟩ _ true (turns_text _ _)).mono ?_
      rintro e w8 ⟨rfl, b8⟩
      have L8 := Lib.hid (L7.out.below b8)
      clear c1 c2 c3 c4 c5 c6 b8 t1 t2 t3
      obtain ⟨⟨c1, c2, c3, c4, c5, c6⟩, _⟩ := L8.out
      go_wp2_with fail
      go_ret
      exact ⟨rfl, B1.trans (L8.out.2.2.2.mono B1.size)⟩
    | true =>
      cases hY : turnsB ⟨k', l', s'⟩ ⟨k, l, s⟩ with
      | false =>
        have HX := Lib.hid hX
        have HY := Lib.hid hY
        clear hY
        clear hX
        go_wp2_with fail
        have L1 := Lib.hid (lay2_new w1 25 25 k l s k' l' s')
        generalize (w1.alloc (.cells #[.int .i64 k, .int .i64 l, .string s] 25)).alloc (.cells #[.int .i64 k', .int .i64 l', .string s'] 25) = W2 at L1 ⊢
        have hst : Hid (∀ a b : World, (a.cell? ⟨w1.heap.size, 0, none⟩ = some (.int .i64 k) ∧ a.cell? ⟨w1.heap.size, 1, none⟩ = some (.int .i64 l) ∧ a.cell? ⟨w1.heap.size, 2, none⟩ = some (.string s) ∧ a.cell? ⟨w1.heap.size + 1, 0, none⟩ = some (.int .i64 k') ∧ a.cell? ⟨w1.heap.size + 1, 1, none⟩ = some (.int .i64 l') ∧ a.cell? ⟨w1.heap.size + 1, 2, none⟩ = some (.string s')) ∧ Hid (Lay2 w1 w1.heap.size (w1.heap.size + 1) k l s k' l' s' a) → Below a.heap.size a b → (b.cell? ⟨w1.heap.size, 0, none⟩ = some (.int .i64 k) ∧ b.cell? ⟨w1.heap.size, 1, none⟩ = some (.int .i64 l) ∧ b.cell? ⟨w1.heap.size, 2, none⟩ = some (.string s) ∧ b.cell? ⟨w1.heap.size + 1, 0, none⟩ = some (.int .i64 k') ∧ b.cell? ⟨w1.heap.size + 1, 1, none⟩ = some (.int .i64 l') ∧ b.cell? ⟨w1.heap.size + 1, 2, none⟩ = some (.string s')) ∧ Hid (Lay2 w1 w1.heap.size (w1.heap.size + 1) k l s k' l' s' b)) := fun a b h hb => ⟨(h.2.out.below hb).1, h.2.out.below hb⟩
        go_region_held3 (fun w' => (w'.cell? ⟨w1.heap.size, 0, none⟩ = some (.int .i64 k) ∧ w'.cell? ⟨w1.heap.size, 1, none⟩ = some (.int .i64 l) ∧ w'.cell? ⟨w1.heap.size, 2, none⟩ = some (.string s) ∧ w'.cell? ⟨w1.heap.size + 1, 0, none⟩ = some (.int .i64 k') ∧ w'.cell? ⟨w1.heap.size + 1, 1, none⟩ = some (.int .i64 l') ∧ w'.cell? ⟨w1.heap.size + 1, 2, none⟩ = some (.string s')) ∧ Hid (Lay2 w1 w1.heap.size (w1.heap.size + 1) k l s k' l' s' w')) (first | assumption | exact ⟨L1.out.drew.1, L1.out.drew⟩)
          ((go_at_call 10; refine (implTurnsV _ _ _ _ _ _ _).mono ?_; rintro e wq ⟨rfl, bq⟩; have hq5 := hst.out _ _ (by assumption) bq))
        have L5 := Lib.hid hq5.2.out
        rw [HX.out, HY.out]
        clear hst
        obtain ⟨⟨c1, c2, c3, c4, c5, c6⟩, _⟩ := L5.out
        go_wp2_with fail
        refine (specTurns ⟨k, l, s⟩ ⟨k', l', s'⟩ _ true HX.out).mono ?_
        rintro e w6 ⟨rfl, b6⟩
        have L6 := Lib.hid ((L5.out.below ((Below.refl _ _).alloc (Nat.le_refl _) _)).below b6)
        have T6 := Lib.hid ((lay1_new wq 25 1 0 ⟨#[]⟩).below b6)
        clear c1 c2 c3 c4 c5 c6 b6
        obtain ⟨⟨c1, c2, c3, c4, c5, c6⟩, _⟩ := L6.out
        go_wp2_with fail
        refine (implTurns ⟨k, l, s⟩ ⟨k, l, s⟩ _ true (turns_refl _)).mono ?_
        rintro e w7 ⟨rfl, b7⟩
        have L7 := Lib.hid (L6.out.below b7)
        have T7 := Lib.hid (T6.out.below b7)
        clear c1 c2 c3 c4 c5 c6 b7
        obtain ⟨⟨c1, c2, c3, c4, c5, c6⟩, _⟩ := L7.out
        obtain ⟨⟨t1, t2, t3⟩, _⟩ := T7.out
        go_wp2_with fail
        refine (implTurns ⟨k, l, s⟩ ⟨1, 0, ⟨#[]⟩⟩ _ true (turns_text _ _)).mono ?_
        rintro e w8 ⟨rfl, b8⟩
        have L8 := Lib.hid (L7.out.below b8)
        clear c1 c2 c3 c4 c5 c6 b8 t1 t2 t3
        obtain ⟨⟨c1, c2, c3, c4, c5, c6⟩, _⟩ := L8.out
        go_wp2_with fail
        go_ret
        exact ⟨rfl, B1.trans (L8.out.2.2.2.mono B1.size)⟩
      | true =>
        cases hE : tyEq ⟨k, l, s⟩ ⟨k', l', s'⟩ with
        | true =>
          have hq := fun w => eqlTy k l s k' l' s' w
          rw [hE] at hq
          have hG := fun x y w => guardTy x y k l s k' l' s' w
          clear hE
          have HX := Lib.hid hX
          have HY := Lib.hid hY
          clear hY
          clear hX
          go_wp2_with fail
          have L1 := Lib.hid (lay2_new w1 25 25 k l s k' l' s')
          generalize (w1.alloc (.cells #[.int .i64 k, .int .i64 l, .string s] 25)).alloc (.cells #[.int .i64 k', .int .i64 l', .string s'] 25) = W2 at L1 ⊢
          have hst : Hid (∀ a b : World, (a.cell? ⟨w1.heap.size, 0, none⟩ = some (.int .i64 k) ∧ a.cell? ⟨w1.heap.size, 1, none⟩ = some (.int .i64 l) ∧ a.cell? ⟨w1.heap.size, 2, none⟩ = some (.string s) ∧ a.cell? ⟨w1.heap.size + 1, 0, none⟩ = some (.int .i64 k') ∧ a.cell? ⟨w1.heap.size + 1, 1, none⟩ = some (.int .i64 l') ∧ a.cell? ⟨w1.heap.size + 1, 2, none⟩ = some (.string s')) ∧ Hid (Lay2 w1 w1.heap.size (w1.heap.size + 1) k l s k' l' s' a) → Below a.heap.size a b → (b.cell? ⟨w1.heap.size, 0, none⟩ = some (.int .i64 k) ∧ b.cell? ⟨w1.heap.size, 1, none⟩ = some (.int .i64 l) ∧ b.cell? ⟨w1.heap.size, 2, none⟩ = some (.string s) ∧ b.cell? ⟨w1.heap.size + 1, 0, none⟩ = some (.int .i64 k') ∧ b.cell? ⟨w1.heap.size + 1, 1, none⟩ = some (.int .i64 l') ∧ b.cell? ⟨w1.heap.size + 1, 2, none⟩ = some (.string s')) ∧ Hid (Lay2 w1 w1.heap.size (w1.heap.size + 1) k l s k' l' s' b)) := fun a b h hb => ⟨(h.2.out.below hb).1, h.2.out.below hb⟩
          go_region_held3 (fun w' => (w'.cell? ⟨w1.heap.size, 0, none⟩ = some (.int .i64 k) ∧ w'.cell? ⟨w1.heap.size, 1, none⟩ = some (.int .i64 l) ∧ w'.cell? ⟨w1.heap.size, 2, none⟩ = some (.string s) ∧ w'.cell? ⟨w1.heap.size + 1, 0, none⟩ = some (.int .i64 k') ∧ w'.cell? ⟨w1.heap.size + 1, 1, none⟩ = some (.int .i64 l') ∧ w'.cell? ⟨w1.heap.size + 1, 2, none⟩ = some (.string s')) ∧ Hid (Lay2 w1 w1.heap.size (w1.heap.size + 1) k l s k' l' s' w')) (first | assumption | exact ⟨L1.out.drew.1, L1.out.drew⟩)
            ((go_at_call 10; refine (implTurnsV _ _ _ _ _ _ _).mono ?_; rintro e wq ⟨rfl, bq⟩; have hq5 := hst.out _ _ (by assumption) bq))
          have L5 := Lib.hid hq5.2.out
          rw [HX.out, HY.out]
          clear hst
          obtain ⟨⟨c1, c2, c3, c4, c5, c6⟩, _⟩ := L5.out
          go_wp2_with fail
          refine (specTurns ⟨k, l, s⟩ ⟨k', l', s'⟩ _ true HX.out).mono ?_
          rintro e w6 ⟨rfl, b6⟩
          have L6 := Lib.hid ((L5.out.below ((Below.refl _ _).alloc (Nat.le_refl _) _)).below b6)
          have T6 := Lib.hid ((lay1_new wq 25 1 0 ⟨#[]⟩).below b6)
          clear c1 c2 c3 c4 c5 c6 b6
          obtain ⟨⟨c1, c2, c3, c4, c5, c6⟩, _⟩ := L6.out
          go_wp2_with fail
          refine (implTurns ⟨k, l, s⟩ ⟨k, l, s⟩ _ true (turns_refl _)).mono ?_
          rintro e w7 ⟨rfl, b7⟩
          have L7 := Lib.hid (L6.out.below b7)
          have T7 := Lib.hid (T6.out.below b7)
          clear c1 c2 c3 c4 c5 c6 b7
          obtain ⟨⟨c1, c2, c3, c4, c5, c6⟩, _⟩ := L7.out
          obtain ⟨⟨t1, t2, t3⟩, _⟩ := T7.out
          go_wp2_with fail
          refine (implTurns ⟨k, l, s⟩ ⟨1, 0, ⟨#[]⟩⟩ _ true (turns_text _ _)).mono ?_
          rintro e w8 ⟨rfl, b8⟩
          have L8 := Lib.hid (L7.out.below b8)
          clear c1 c2 c3 c4 c5 c6 b8 t1 t2 t3
          obtain ⟨⟨c1, c2, c3, c4, c5, c6⟩, _⟩ := L8.out
          go_wp2_with fail
          go_ret
          exact ⟨rfl, B1.trans (L8.out.2.2.2.mono B1.size)⟩
        | false =>
          cases hk1 : (k == 1) with
          | true =>
            have hq := fun w => eqlTy k l s k' l' s' w
            rw [hE] at hq
            have hG := fun x y w => guardTy x y k l s k' l' s' w
            clear hE
            have HX := Lib.hid hX
            have HY := Lib.hid hY
            clear hY
            clear hX
            go_wp2_with fail
            have L1 := Lib.hid (lay2_new w1 25 25 k l s k' l' s')
            generalize (w1.alloc (.cells #[.int .i64 k, .int .i64 l, .string s] 25)).alloc (.cells #[.int .i64 k', .int .i64 l', .string s'] 25) = W2 at L1 ⊢
            have hst : Hid (∀ a b : World, (a.cell? ⟨w1.heap.size, 0, none⟩ = some (.int .i64 k) ∧ a.cell? ⟨w1.heap.size, 1, none⟩ = some (.int .i64 l) ∧ a.cell? ⟨w1.heap.size, 2, none⟩ = some (.string s) ∧ a.cell? ⟨w1.heap.size + 1, 0, none⟩ = some (.int .i64 k') ∧ a.cell? ⟨w1.heap.size + 1, 1, none⟩ = some (.int .i64 l') ∧ a.cell? ⟨w1.heap.size + 1, 2, none⟩ = some (.string s')) ∧ Hid (Lay2 w1 w1.heap.size (w1.heap.size + 1) k l s k' l' s' a) → Below a.heap.size a b → (b.cell? ⟨w1.heap.size, 0, none⟩ = some (.int .i64 k) ∧ b.cell? ⟨w1.heap.size, 1, none⟩ = some (.int .i64 l) ∧ b.cell? ⟨w1.heap.size, 2, none⟩ = some (.string s) ∧ b.cell? ⟨w1.heap.size + 1, 0, none⟩ = some (.int .i64 k') ∧ b.cell? ⟨w1.heap.size + 1, 1, none⟩ = some (.int .i64 l') ∧ b.cell? ⟨w1.heap.size + 1, 2, none⟩ = some (.string s')) ∧ Hid (Lay2 w1 w1.heap.size (w1.heap.size + 1) k l s k' l' s' b)) := fun a b h hb => ⟨(h.2.out.below hb).1, h.2.out.below hb⟩
            go_region_held3 (fun w' => (w'.cell? ⟨w1.heap.size, 0, none⟩ = some (.int .i64 k) ∧ w'.cell? ⟨w1.heap.size, 1, none⟩ = some (.int .i64 l) ∧ w'.cell? ⟨w1.heap.size, 2, none⟩ = some (.string s) ∧ w'.cell? ⟨w1.heap.size + 1, 0, none⟩ = some (.int .i64 k') ∧ w'.cell? ⟨w1.heap.size + 1, 1, none⟩ = some (.int .i64 l') ∧ w'.cell? ⟨w1.heap.size + 1, 2, none⟩ = some (.string s')) ∧ Hid (Lay2 w1 w1.heap.size (w1.heap.size + 1) k l s k' l' s' w')) (first | assumption | exact ⟨L1.out.drew.1, L1.out.drew⟩)
              ((go_at_call 10; refine (implTurnsV _ _ _ _ _ _ _).mono ?_; rintro e wq ⟨rfl, bq⟩; have hq5 := hst.out _ _ (by assumption) bq))
            have L5 := Lib.hid hq5.2.out
            rw [HX.out, HY.out]
            clear hst
            obtain ⟨⟨c1, c2, c3, c4, c5, c6⟩, _⟩ := L5.out
            go_wp2_with fail
            refine (specTurns ⟨k, l, s⟩ ⟨k', l', s'⟩ _ true HX.out).mono ?_
            rintro e w6 ⟨rfl, b6⟩
            have L6 := Lib.hid ((L5.out.below ((Below.refl _ _).alloc (Nat.le_refl _) _)).below b6)
            have T6 := Lib.hid ((lay1_new wq 25 1 0 ⟨#[]⟩).below b6)
            clear c1 c2 c3 c4 c5 c6 b6
            obtain ⟨⟨c1, c2, c3, c4, c5, c6⟩, _⟩ := L6.out
            go_wp2_with fail
            refine (implTurns ⟨k, l, s⟩ ⟨k, l, s⟩ _ true (turns_refl _)).mono ?_
            rintro e w7 ⟨rfl, b7⟩
            have L7 := Lib.hid (L6.out.below b7)
            have T7 := Lib.hid (T6.out.below b7)
            clear c1 c2 c3 c4 c5 c6 b7
            obtain ⟨⟨c1, c2, c3, c4, c5, c6⟩, _⟩ := L7.out
            obtain ⟨⟨t1, t2, t3⟩, _⟩ := T7.out
            go_wp2_with fail
            refine (implTurns ⟨k, l, s⟩ ⟨1, 0, ⟨#[]⟩⟩ _ true (turns_text _ _)).mono ?_
            rintro e w8 ⟨rfl, b8⟩
            have L8 := Lib.hid (L7.out.below b8)
            clear c1 c2 c3 c4 c5 c6 b8 t1 t2 t3
            obtain ⟨⟨c1, c2, c3, c4, c5, c6⟩, _⟩ := L8.out
            go_wp2_with fail
            go_ret
            exact ⟨rfl, B1.trans (L8.out.2.2.2.mono B1.size)⟩
          | false =>
            have hk2 : (k' == 1) = true := turns_both ⟨k, l, s⟩ ⟨k', l', s'⟩ hX hE hk1
            have hq := fun w => eqlTy k l s k' l' s' w
            rw [hE] at hq
            have hG := fun x y w => guardTy x y k l s k' l' s' w
            clear hE
            have HX := Lib.hid hX
            have HY := Lib.hid hY
            clear hY
            clear hX
            go_wp2_with fail
            have L1 := Lib.hid (lay2_new w1 25 25 k l s k' l' s')
            generalize (w1.alloc (.cells #[.int .i64 k, .int .i64 l, .string s] 25)).alloc (.cells #[.int .i64 k', .int .i64 l', .string s'] 25) = W2 at L1 ⊢
            have hst : Hid (∀ a b : World, (a.cell? ⟨w1.heap.size, 0, none⟩ = some (.int .i64 k) ∧ a.cell? ⟨w1.heap.size, 1, none⟩ = some (.int .i64 l) ∧ a.cell? ⟨w1.heap.size, 2, none⟩ = some (.string s) ∧ a.cell? ⟨w1.heap.size + 1, 0, none⟩ = some (.int .i64 k') ∧ a.cell? ⟨w1.heap.size + 1, 1, none⟩ = some (.int .i64 l') ∧ a.cell? ⟨w1.heap.size + 1, 2, none⟩ = some (.string s')) ∧ Hid (Lay2 w1 w1.heap.size (w1.heap.size + 1) k l s k' l' s' a) → Below a.heap.size a b → (b.cell? ⟨w1.heap.size, 0, none⟩ = some (.int .i64 k) ∧ b.cell? ⟨w1.heap.size, 1, none⟩ = some (.int .i64 l) ∧ b.cell? ⟨w1.heap.size, 2, none⟩ = some (.string s) ∧ b.cell? ⟨w1.heap.size + 1, 0, none⟩ = some (.int .i64 k') ∧ b.cell? ⟨w1.heap.size + 1, 1, none⟩ = some (.int .i64 l') ∧ b.cell? ⟨w1.heap.size + 1, 2, none⟩ = some (.string s')) ∧ Hid (Lay2 w1 w1.heap.size (w1.heap.size + 1) k l s k' l' s' b)) := fun a b h hb => ⟨(h.2.out.below hb).1, h.2.out.below hb⟩
            go_region_held3 (fun w' => (w'.cell? ⟨w1.heap.size, 0, none⟩ = some (.int .i64 k) ∧ w'.cell? ⟨w1.heap.size, 1, none⟩ = some (.int .i64 l) ∧ w'.cell? ⟨w1.heap.size, 2, none⟩ = some (.string s) ∧ w'.cell? ⟨w1.heap.size + 1, 0, none⟩ = some (.int .i64 k') ∧ w'.cell? ⟨w1.heap.size + 1, 1, none⟩ = some (.int .i64 l') ∧ w'.cell? ⟨w1.heap.size + 1, 2, none⟩ = some (.string s')) ∧ Hid (Lay2 w1 w1.heap.size (w1.heap.size + 1) k l s k' l' s' w')) (first | assumption | exact ⟨L1.out.drew.1, L1.out.drew⟩)
              ((go_at_call 10; refine (implTurnsV _ _ _ _ _ _ _).mono ?_; rintro e wq ⟨rfl, bq⟩; have hq5 := hst.out _ _ (by assumption) bq))
            have L5 := Lib.hid hq5.2.out
            rw [HX.out, HY.out]
            clear hst
            obtain ⟨⟨c1, c2, c3, c4, c5, c6⟩, _⟩ := L5.out
            go_wp2_with fail
            refine (specTurns ⟨k, l, s⟩ ⟨k', l', s'⟩ _ true HX.out).mono ?_
            rintro e w6 ⟨rfl, b6⟩
            have L6 := Lib.hid ((L5.out.below ((Below.refl _ _).alloc (Nat.le_refl _) _)).below b6)
            have T6 := Lib.hid ((lay1_new wq 25 1 0 ⟨#[]⟩).below b6)
            clear c1 c2 c3 c4 c5 c6 b6
            obtain ⟨⟨c1, c2, c3, c4, c5, c6⟩, _⟩ := L6.out
            go_wp2_with fail
            refine (implTurns ⟨k, l, s⟩ ⟨k, l, s⟩ _ true (turns_refl _)).mono ?_
            rintro e w7 ⟨rfl, b7⟩
            have L7 := Lib.hid (L6.out.below b7)
            have T7 := Lib.hid (T6.out.below b7)
            clear c1 c2 c3 c4 c5 c6 b7
            obtain ⟨⟨c1, c2, c3, c4, c5, c6⟩, _⟩ := L7.out
            obtain ⟨⟨t1, t2, t3⟩, _⟩ := T7.out
            go_wp2_with fail
            refine (implTurns ⟨k, l, s⟩ ⟨1, 0, ⟨#[]⟩⟩ _ true (turns_text _ _)).mono ?_
            rintro e w8 ⟨rfl, b8⟩
            have L8 := Lib.hid (L7.out.below b8)
            clear c1 c2 c3 c4 c5 c6 b8 t1 t2 t3
            obtain ⟨⟨c1, c2, c3, c4, c5, c6⟩, _⟩ := L8.out
            go_wp2_with fail
            go_ret
            exact ⟨rfl, B1.trans (L8.out.2.2.2.mono B1.size)⟩

end Go.Proofs.Ytndbmnnomokfkaa
