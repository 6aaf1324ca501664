/- For every type FnExactTypeOk answers true: impl.TypeOk answers as spec.TypeOk; the argument reads behind the call as before it. No condition. -/
import Derived.Test.YtndbmnnomokfkaaTypeOkI
import Derived.Test.YtndbmnnomokfkaaOpenType
namespace Go.Proofs.Ytndbmnnomokfkaa
open Go.ChangeShapes Go.WideShapes Go.ChangeAt Go.RowKit

set_option maxHeartbeats 1000000 in
theorem walkFnExactTypeOk (t : Ty) (w : World) (ht : t.ok) :
    Calls Try.prog 6 #[t.v] w fun e w' => e = .returned (.bool true) ∧ Below w.heap.size w w' := by
  obtain ⟨k, l, s⟩ := t
  obtain ⟨hs, hk, _⟩ := ht
  simp only [Ty.v] at *
  have hlay := Lib.hid (lay1_new w 31 k l s)
  by_cases h1 : (1048576 : Int) - s.size < 0
  · go_enter Try.func6, Try.ntmps6
    go_wp2_with fail
    refine (szTy k l s 1048576 _ hs (by omega) (by omega)).mono ?_
    rintro e w1 ⟨rfl, b1⟩
    rw [if_pos (by omega)]
    go_wp2_with fail
    go_ret
    exact ⟨rfl, (hlay.out.below b1).2.2⟩
  · have hsz : s.size ≤ 1048576 := by omega
    have hsp := fun w => specTypeOk k l s w hsz _ rfl
    have him := fun w => implTypeOk k l s w hk _ rfl
    generalize typeOkB k l s = b at hsp him
    have hbb : (b != b) = false := by simp
    go_enter Try.func6, Try.ntmps6
    go_wp2_with fail
    refine (szTy k l s 1048576 _ hs (by omega) (by omega)).mono ?_
    rintro e w1 ⟨rfl, b1⟩
    rw [if_neg (by omega)]
    have hd : decide ((1048576 : Int) - s.size < 0) = false := by simp; omega
    have L1 := Lib.hid (hlay.out.below b1)
    obtain ⟨⟨c0, c1, c2⟩, _, _⟩ := L1.out
    clear b1 h1
    go_wp2_with fail
    refine (toTy k l s _).mono ?_
    rintro e w2 ⟨rfl, b2⟩
    have L2 := Lib.hid (L1.out.below b2)
    clear b2 c0 c1 c2
    go_wp2_with fail
    refine (hsp _).mono ?_
    rintro e w3 ⟨rfl, b3⟩
    have L3 := Lib.hid (L2.out.below b3)
    obtain ⟨⟨c0, c1, c2⟩, _, _⟩ := L3.out
    clear b3
    go_wp2_with fail
    refine (toTy k l s _).mono ?_
    rintro e w4 ⟨rfl, b4⟩
    have L4 := Lib.hid (L3.out.below b4)
    clear b4 c0 c1 c2
    go_wp2_with fail
    refine (him _).mono ?_
    rintro e w5 ⟨rfl, b5⟩
    have L5 := Lib.hid (L4.out.below b5)
    clear b5
    go_wp2_with fail
    go_ret
    exact ⟨rfl, L5.out.2.2⟩

set_option maxRecDepth 100000 in
theorem liftedFnExactTypeOk (os : Os) (started : os.Started) (H : Type) (enc : TypeId × Value → H) :
    ReturnsInHanded {} Try.checked os 6 .any (Rows.fnExactTypeOkSpec.pre6 enc Try.prog Try.f6 Rows.fnExactTypeOkRow.domain false) (Rows.fnExactTypeOkSpec.post enc Try.prog Try.f6 false true false false) := by
  refine returnsInHanded_of_change (C := Try.checked) ownKnobs started (by kernel_rfl) Try.func6
    (ChangeSpec.witness6 (enc := enc) (C := Try.checked) false ⟨#[], #[.agg #[.int .i64 0, .int .i64 0, .string ByteArray.empty]], []⟩ 8 (by kernel_rfl) (by kernel_rfl) (by kernel_rfl) (by kernel_rfl)) ?_
  intro W base args ds gs before hval0 hW hcnd _
  have hval : ∀ (j : Nat) t v, Try.f6.params[j]? = some t → args[j]? = some v → Value.okWide Try.prog W .any base t v := hval0
  have hW' := hW
  obtain ⟨p, q, hA0, hV, rfl, hfz, hnd⟩ := hW
  have hA : DataW.TrodAll enc Try.prog W 0 (fun _ => true) true Try.f6.params.toList args.toList ds p := hA0
  rw [Try.params6] at hA hval
  obtain ⟨v0, vs0, d0, ds0, p0, q0, hargs, rfl, rfl, h0, r0⟩ := trodAll_cons hA
  obtain ⟨rfl, rfl, rfl⟩ := trodAll_nil r0
  obtain rfl : args = #[v0] := by cases args; simp_all
  obtain ⟨rfl, rfl⟩ := trodVars_none hV
  have k0 := h0
  have lt0 : ∀ x ∈ p0, x.block < W.heap.size := by obtain ⟨m, hm⟩ := k0; exact DataW.trod_lt m _ _ _ hm
  obtain ⟨x0, rfl, w0⟩ := Type_of_trod (hval 0 31 v0 rfl rfl) h0
  clear hA0 hval0
  refine (walkFnExactTypeOk x0 W w0).mono fun e W' ⟨he, bel⟩ => ?_
  subst he
  exact ⟨_, rfl, _, _, _, [], _, [], hW', trodAll_mk1 (shut_bool Try.underlying4 _), (trodAll_cons_mk (Below.trod laidOutB0 (by kernel_rfl) (of_decide_eq_true (by kernel_rfl)) k0 bel lt0) trodAll_mk0), rfl, bel.frame _, fun h => by cases h⟩

theorem provedFnExactTypeOk : Rows.FnExactTypeOkSaid :=
  OpenClaim.holds_of_wide 6 Try.f6 rfl rfl rfl rfl rfl rfl rfl ⟨rfl, rfl, rfl, rfl, rfl⟩ rfl rfl rfl rfl rfl (by kernel_rfl) Try.func6 (by kernel_rfl)
    (of_decide_eq_true (by kernel_rfl)) (by unfold Func.isWrapper; first | (rw [if_pos (by decide +kernel)]; kernel_rfl) | (rw [if_neg (by decide +kernel)]; exact ⟨rfl, rfl⟩))
    (fun os started H enc _ => liftedFnExactTypeOk os started H enc)

#print axioms provedFnExactTypeOk
end Go.Proofs.Ytndbmnnomokfkaa
