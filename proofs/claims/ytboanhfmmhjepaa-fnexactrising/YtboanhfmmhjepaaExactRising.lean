/- For every list of texts FnExactRising answers true: impl.Rising answers as spec.Rising and leaves its argument alone; the argument reads behind the call as before it. No condition. -/
import Derived.Test.YtboanhfmmhjepaaRising3
import Derived.Test.YtboanhfmmhjepaaOwn
import Derived.Test.YtboanhfmmhjepaaOpen
namespace Go.Proofs.Ytboanhfmmhjepaa
open Go.ChangeShapes Go.WideShapes Go.ChangeAt Go.RowKit
open Go.ChangeMaps (open_string shut_string)

set_option maxHeartbeats 1000000 in
theorem walkFnExactRising (a : Option Addr) (c : Nat) (xs : List ByteArray) (w : World) (hx : Strs w a c xs) :
    Calls Try.prog 8 #[.slice a xs.length c] w fun e w' => e = .returned (.bool true) ∧ Below w.heap.size w w' := by
  by_cases h2 : leftOf xs 1048576 < 0
  · go_enter Try.func8, Try.ntmps8
    go_wp2_with (go_at_call 32; refine (szStrs a c xs _ _ hx (by omega) (by omega)).mono ?_; rintro e w1 ⟨rfl, rfl⟩)
    go_ret
    exact ⟨rfl, Below.refl _ _⟩
  · have hbd := leftOf_le h2
    have hn : xs.length ≤ 1048576 := by omega
    go_enter Try.func8, Try.ntmps8
    go_wp2_with (go_at_call 32; refine (szStrs a c xs _ _ hx (by omega) (by omega)).mono ?_; rintro e w1 ⟨rfl, rfl⟩)
    refine (toStrs a c xs _ hx hn).mono ?_
    rintro e w1 ⟨a1, c1, rfl, own1, bel1⟩
    have st1 := own1.strs hx.2.2.1
    go_wp2_with fail
    refine (specRising a1 c1 xs _ st1).mono ?_
    rintro e w2 ⟨rfl, n2, rfl⟩
    go_wp2_with fail
    have B2 : Below w.heap.size w (w1.drewN n2) := below_drewN bel1 n2
    refine (toStrs a c xs _ (hx.below B2) hn).mono ?_
    rintro e w3 ⟨a3, c3, rfl, own3, bel3⟩
    have st3 := own3.strs hx.2.2.1
    have B3 : Below w.heap.size w w3 := B2.trans (bel3.mono B2.size)
    go_wp2_with fail
    refine (implRising a3 c3 xs _ st3).mono ?_
    rintro e w4 ⟨rfl, bel4⟩
    have hbb : (risingB xs != risingB xs) = false := by simp
    have B4 : Below w.heap.size w w4 := B3.trans (bel4.mono B3.size)
    have st4 := st3.below bel4
    go_wp2_with fail
    refine (toStrs a c xs _ (hx.below B4) hn).mono ?_
    rintro e w5 ⟨a5, c5, rfl, own5, bel5⟩
    have st5 := own5.strs hx.2.2.1
    have st35 := st4.below bel5
    go_wp2_with fail
    refine (eqStrs a3 a5 c3 c5 xs xs _ st35 st5 rfl).mono ?_
    rintro e w6 ⟨rfl, n6, rfl⟩
    go_wp2_with fail
    go_ret
    exact ⟨rfl, below_drewN (B4.trans (bel5.mono B4.size)) _⟩

set_option maxRecDepth 100000 in
theorem liftedFnExactRising (os : Os) (started : os.Started) (H : Type) (enc : TypeId × Value → H) :
    ReturnsInHanded {} Try.checked os 8 .any (Rows.fnExactRisingSpec.pre6 enc Try.prog Try.f8 Rows.fnExactRisingRow.domain false) (Rows.fnExactRisingSpec.post enc Try.prog Try.f8 false true false false) := by
  refine returnsInHanded_of_change (C := Try.checked) ownKnobs started (by kernel_rfl) Try.func8
    (ChangeSpec.witness6 (enc := enc) (C := Try.checked) false ⟨#[], #[.slice none 0 0], []⟩ 8 (by kernel_rfl) (by kernel_rfl) (by kernel_rfl) (by kernel_rfl)) ?_
  intro W base args ds gs before hval0 hW hcnd _
  have hval : ∀ (j : Nat) t v, Try.f8.params[j]? = some t → args[j]? = some v → Value.okWide Try.prog W .any base t v := hval0
  have hW' := hW
  obtain ⟨p, q, hA0, hV, rfl, hfz, hnd⟩ := hW
  have hA : DataW.TrodAll enc Try.prog W 0 (fun _ => true) true Try.f8.params.toList args.toList ds p := hA0
  rw [Try.params8] at hA hval
  obtain ⟨v0, vs0, d0, ds0, p0, q0, hargs, rfl, rfl, h0, r0⟩ := trodAll_cons hA
  obtain ⟨rfl, rfl, rfl⟩ := trodAll_nil r0
  obtain rfl : args = #[v0] := by cases args; simp_all
  obtain ⟨rfl, rfl⟩ := trodVars_none hV
  obtain ⟨a0, l0, c0, rfl⟩ := okWide_slice Try.underlying27 (hval 0 27 v0 rfl rfl)
  have k0 := h0
  have lt0 : ∀ x ∈ p0, x.block < W.heap.size := by obtain ⟨m, hm⟩ := k0; exact DataW.trod_lt m _ _ _ hm
  obtain ⟨x0, rfl, w0⟩ : ∃ xs : List ByteArray, l0 = xs.length ∧ Strs W a0 c0 xs := Strs_of_trod h0
  clear hA0 hval0
  refine (walkFnExactRising a0 c0 x0 W w0).mono fun e W' ⟨he, bel⟩ => ?_
  subst he
  exact ⟨_, rfl, _, _, _, [], _, [], hW', trodAll_mk1 (shut_bool Try.underlying4 _), (trodAll_cons_mk (Below.trod laidOutB0 (by kernel_rfl) (of_decide_eq_true (by kernel_rfl)) k0 bel lt0) trodAll_mk0), rfl, bel.frame _, fun h => by cases h⟩

theorem provedFnExactRising : Rows.FnExactRisingSaid :=
  OpenClaim.holds_of_wide 8 Try.f8 rfl rfl rfl rfl rfl rfl rfl ⟨rfl, rfl, rfl, rfl, rfl⟩ rfl rfl rfl rfl rfl (by kernel_rfl) Try.func8 (by kernel_rfl)
    (of_decide_eq_true (by kernel_rfl)) (by unfold Func.isWrapper; first | (rw [if_pos (by decide +kernel)]; kernel_rfl) | (rw [if_neg (by decide +kernel)]; exact ⟨rfl, rfl⟩))
    (fun os started H enc _ => liftedFnExactRising os started H enc)

#print axioms provedFnExactRising
end Go.Proofs.Ytboanhfmmhjepaa
