/- For every two types FnExactTurns answers true: impl.Turns answers as spec.Turns; the arguments read behind the call as before it. No condition. -/
import Derived.Test.YtndbmnnomokfkaaTyp2
import Derived.Test.YtndbmnnomokfkaaOpenType
import Derived.Deep.RegionHeld3
namespace Go.Proofs.Ytndbmnnomokfkaa
open Go.ChangeShapes Go.WideShapes Go.ChangeAt Go.RowKit

set_option maxHeartbeats 1000000 in
theorem walkFnExactTurns (t u : Ty) (w : World) (ht : t.ok) (hu : u.ok) :
    Calls Try.prog 7 #[t.v, u.v] w fun e w' => e = .returned (.bool true) ∧ Below w.heap.size w w' := by
  have hsp := fun w => specTurns t u w _ rfl
  have him := fun w => implTurns t u w _ rfl
  generalize turnsB t u = b at hsp him
  obtain ⟨k, l, s⟩ := t
  obtain ⟨k', l', s'⟩ := u
  have hs := ht.1
  have hs' := hu.1
  simp only [Ty.v] at *
  clear ht hu
  have hbb : (b != b) = false := by simp
  by_cases h1 : (1048576 : Int) - s.size < 0
  · go_enter Try.func7, Try.ntmps7
    go_wp2_with fail
    refine (szTy k l s 1048576 _ hs (by omega) (by omega)).mono ?_
    rintro e w1 ⟨rfl, b1⟩
    rw [if_pos (by omega)]
    go_wp2_with fail
    go_ret
    exact ⟨rfl, (below2 w _ _).trans (b1.mono (by simp; omega))⟩
  · by_cases h2 : (1048576 : Int) - s.size - s'.size < 0
    · go_enter Try.func7, Try.ntmps7
      go_wp2_with fail
      refine (szTy k l s 1048576 _ hs (by omega) (by omega)).mono ?_
      rintro e w1 ⟨rfl, b1⟩
      rw [if_neg (by omega)]
      have hd : decide ((1048576 : Int) - s.size < 0) = false := by simp; omega
      have L := (lie2_new w 31 31 k l s k' l' s').below (by simp; omega) (by simp) b1
      have B1 := (below2 w _ _).trans (b1.mono (by simp; omega))
      have HL := Lib.hid L
      obtain ⟨c1, c2, c3, c4, c5, c6⟩ := L
      clear b1
      go_wp2_with fail
      refine (szTy k' l' s' (1048576 - s.size) _ hs' (by omega) (by omega)).mono ?_
      rintro e w2 ⟨rfl, b2⟩
      rw [if_pos (by omega)]
      go_wp2_with fail
      go_ret
      exact ⟨rfl, B1.trans (b2.mono B1.size)⟩
    · go_enter Try.func7, Try.ntmps7
      go_wp2_with fail
      refine (szTy k l s 1048576 _ hs (by omega) (by omega)).mono ?_
      rintro e w1 ⟨rfl, b1⟩
      rw [if_neg (by omega)]
      have hd : decide ((1048576 : Int) - s.size < 0) = false := by simp; omega
      have L := (lay2_new w 31 31 k l s k' l' s').below b1
      have HL := Lib.hid L
      obtain ⟨⟨c1, c2, c3, c4, c5, c6⟩, _⟩ := L
      clear b1
      go_wp2_with fail
      refine (szTy k' l' s' (1048576 - s.size) _ hs' (by omega) (by omega)).mono ?_
      rintro e w2 ⟨rfl, b2⟩
      rw [if_neg (by omega)]
      have hd2 : decide ((1048576 : Int) - s.size - s'.size < 0) = false := by simp; omega
      have L2 := Lib.hid (HL.out.below b2)
      clear HL b2 c1 c2 c3 c4 c5 c6
      have hst : Hid (∀ a b : World, (a.cell? ⟨w.heap.size, 0, none⟩ = some (.int .i64 k) ∧ a.cell? ⟨w.heap.size, 1, none⟩ = some (.int .i64 l) ∧ a.cell? ⟨w.heap.size, 2, none⟩ = some (.string s) ∧ a.cell? ⟨w.heap.size + 1, 0, none⟩ = some (.int .i64 k') ∧ a.cell? ⟨w.heap.size + 1, 1, none⟩ = some (.int .i64 l') ∧ a.cell? ⟨w.heap.size + 1, 2, none⟩ = some (.string s')) ∧ Hid (Lay2 w w.heap.size (w.heap.size + 1) k l s k' l' s' a) → Below a.heap.size a b → (b.cell? ⟨w.heap.size, 0, none⟩ = some (.int .i64 k) ∧ b.cell? ⟨w.heap.size, 1, none⟩ = some (.int .i64 l) ∧ b.cell? ⟨w.heap.size, 2, none⟩ = some (.string s) ∧ b.cell? ⟨w.heap.size + 1, 0, none⟩ = some (.int .i64 k') ∧ b.cell? ⟨w.heap.size + 1, 1, none⟩ = some (.int .i64 l') ∧ b.cell? ⟨w.heap.size + 1, 2, none⟩ = some (.string s')) ∧ Hid (Lay2 w w.heap.size (w.heap.size + 1) k l s k' l' s' b)) := fun a b h hb => ⟨(h.2.out.below hb).1, h.2.out.below hb⟩
      go_wp2_with fail
      go_region_held3 (fun w' => (w'.cell? ⟨w.heap.size, 0, none⟩ = some (.int .i64 k) ∧ w'.cell? ⟨w.heap.size, 1, none⟩ = some (.int .i64 l) ∧ w'.cell? ⟨w.heap.size, 2, none⟩ = some (.string s) ∧ w'.cell? ⟨w.heap.size + 1, 0, none⟩ = some (.int .i64 k') ∧ w'.cell? ⟨w.heap.size + 1, 1, none⟩ = some (.int .i64 l') ∧ w'.cell? ⟨w.heap.size + 1, 2, none⟩ = some (.string s')) ∧ Hid (Lay2 w w.heap.size (w.heap.size + 1) k l s k' l' s' w')) (first | assumption | exact ⟨L2.out.drew.1, L2.out.drew⟩)
        (first
          | (go_at_call 18; refine (toTy _ _ _ _).mono ?_; rintro e wq ⟨rfl, bq⟩; have hq := hst.out _ _ (by assumption) bq)
          | (go_at_call 11; refine (hsp _).mono ?_; rintro e w3 ⟨rfl, bq⟩; have hq := hst.out _ _ (by assumption) bq; have L3 := Lib.hid hq.2.out))
      go_wp2_with fail
      have L4 := L3
      go_region_held3 (fun w' => (w'.cell? ⟨w.heap.size, 0, none⟩ = some (.int .i64 k) ∧ w'.cell? ⟨w.heap.size, 1, none⟩ = some (.int .i64 l) ∧ w'.cell? ⟨w.heap.size, 2, none⟩ = some (.string s) ∧ w'.cell? ⟨w.heap.size + 1, 0, none⟩ = some (.int .i64 k') ∧ w'.cell? ⟨w.heap.size + 1, 1, none⟩ = some (.int .i64 l') ∧ w'.cell? ⟨w.heap.size + 1, 2, none⟩ = some (.string s')) ∧ Hid (Lay2 w w.heap.size (w.heap.size + 1) k l s k' l' s' w')) (first | assumption | exact ⟨L4.out.drew.1, L4.out.drew⟩)
        (first
          | (go_at_call 18; refine (toTy _ _ _ _).mono ?_; rintro e wq ⟨rfl, bq⟩; have hq := hst.out _ _ (by assumption) bq)
          | (go_at_call 10; refine (him _).mono ?_; rintro e w5 ⟨rfl, bq⟩; have hq := hst.out _ _ (by assumption) bq; have L5 := Lib.hid hq.2.out))
      go_wp2_with fail
      go_ret
      exact ⟨rfl, L5.out.2.2.2⟩

set_option maxRecDepth 100000 in
theorem liftedFnExactTurns (os : Os) (started : os.Started) (H : Type) (enc : TypeId × Value → H) :
    ReturnsInHanded {} Try.checked os 7 .any (Rows.fnExactTurnsSpec.pre6 enc Try.prog Try.f7 Rows.fnExactTurnsRow.domain false) (Rows.fnExactTurnsSpec.post enc Try.prog Try.f7 false true false false) := by
  refine returnsInHanded_of_change (C := Try.checked) ownKnobs started (by kernel_rfl) Try.func7
    (ChangeSpec.witness6 (enc := enc) (C := Try.checked) false ⟨#[], #[.agg #[.int .i64 0, .int .i64 0, .string ByteArray.empty], .agg #[.int .i64 0, .int .i64 0, .string ByteArray.empty]], []⟩ 8 (by kernel_rfl) (by kernel_rfl) (by kernel_rfl) (by kernel_rfl)) ?_
  intro W base args ds gs before hval0 hW hcnd _
  have hval : ∀ (j : Nat) t v, Try.f7.params[j]? = some t → args[j]? = some v → Value.okWide Try.prog W .any base t v := hval0
  have hW' := hW
  obtain ⟨p, q, hA0, hV, rfl, hfz, hnd⟩ := hW
  have hA : DataW.TrodAll enc Try.prog W 0 (fun _ => true) true Try.f7.params.toList args.toList ds p := hA0
  rw [Try.params7] at hA hval
  obtain ⟨v0, vs0, d0, ds0, p0, q0, hargs, rfl, rfl, h0, r0⟩ := trodAll_cons hA
  obtain ⟨v1, vs1, d1, ds1, p1, q1, rfl, rfl, rfl, h1, r1⟩ := trodAll_cons r0
  obtain ⟨rfl, rfl, rfl⟩ := trodAll_nil r1
  obtain rfl : args = #[v0, v1] := by cases args; simp_all
  obtain ⟨rfl, rfl⟩ := trodVars_none hV
  have k0 := h0
  have lt0 : ∀ x ∈ p0, x.block < W.heap.size := by obtain ⟨m, hm⟩ := k0; exact DataW.trod_lt m _ _ _ hm
  obtain ⟨x0, rfl, w0⟩ := Type_of_trod (hval 0 31 v0 rfl rfl) h0
  have k1 := h1
  have lt1 : ∀ x ∈ p1, x.block < W.heap.size := by obtain ⟨m, hm⟩ := k1; exact DataW.trod_lt m _ _ _ hm
  obtain ⟨x1, rfl, w1⟩ := Type_of_trod (hval 1 31 v1 rfl rfl) h1
  clear hA0 hval0
  refine (walkFnExactTurns x0 x1 W w0 w1).mono fun e W' ⟨he, bel⟩ => ?_
  subst he
  exact ⟨_, rfl, _, _, _, [], _, [], hW', trodAll_mk1 (shut_bool Try.underlying4 _), (trodAll_cons_mk (Below.trod laidOutB0 (by kernel_rfl) (of_decide_eq_true (by kernel_rfl)) k0 bel lt0) (trodAll_cons_mk (Below.trod laidOutB0 (by kernel_rfl) (of_decide_eq_true (by kernel_rfl)) k1 bel lt1) trodAll_mk0)), rfl, bel.frame _, fun h => by cases h⟩

theorem provedFnExactTurns : Rows.FnExactTurnsSaid :=
  OpenClaim.holds_of_wide 7 Try.f7 rfl rfl rfl rfl rfl rfl rfl ⟨rfl, rfl, rfl, rfl, rfl⟩ rfl rfl rfl rfl rfl (by kernel_rfl) Try.func7 (by kernel_rfl)
    (of_decide_eq_true (by kernel_rfl)) (by unfold Func.isWrapper; first | (rw [if_pos (by decide +kernel)]; kernel_rfl) | (rw [if_neg (by decide +kernel)]; exact ⟨rfl, rfl⟩))
    (fun os started H enc _ => liftedFnExactTurns os started H enc)

#print axioms provedFnExactTurns
end Go.Proofs.Ytndbmnnomokfkaa
