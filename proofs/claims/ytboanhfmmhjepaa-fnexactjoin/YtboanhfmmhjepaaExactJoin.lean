/- For every list of texts and every text FnExactJoin answers true: impl.Join answers as spec.Join and leaves its argument alone; both arguments read behind the call as before it. No condition. -/
import Derived.Test.YtboanhfmmhjepaaJoin
import Derived.Test.YtboanhfmmhjepaaOwn
import Derived.Test.YtboanhfmmhjepaaOpen
namespace Go.Proofs.Ytboanhfmmhjepaa
open Go.ChangeShapes Go.WideShapes Go.ChangeAt Go.RowKit
open Go.ChangeMaps (open_string shut_string)

set_option maxHeartbeats 1000000 in
theorem walkFnExactJoin (a : Option Addr) (c : Nat) (xs : List ByteArray) (s : ByteArray) (w : World) (hx : Strs w a c xs) (_hs : s.size ≤ maxLen) :
    Calls Try.prog 9 #[.slice a xs.length c, .string s] w fun e w' => e = .returned (.bool true) ∧ Below w.heap.size w w' := by
  by_cases h1 : (1048576 : Int) < (s.size : Int)
  · go_enter Try.func9, Try.ntmps9
    go_wp2_with fail
    go_ret
    exact ⟨rfl, Below.refl _ _⟩
  · by_cases h2 : leftOf xs 1048576 < 0
    · go_enter Try.func9, Try.ntmps9
      go_wp2_with (go_at_call 32; refine (szStrs a c xs _ _ hx (by omega) (by omega)).mono ?_; rintro e w1 ⟨rfl, rfl⟩)
      go_ret
      exact ⟨rfl, Below.refl _ _⟩
    · have hbd := leftOf_le h2
      have hn : xs.length ≤ 1048576 := by omega
      have hJ : lets xs + xs.length * s.size ≤ 70368744177664 := by
        have h3 : xs.length * s.size ≤ 1048576 * 1048576 := Nat.mul_le_mul hn (by omega)
        omega
      go_enter Try.func9, Try.ntmps9
      go_wp2_with (go_at_call 32; refine (szStrs a c xs _ _ hx (by omega) (by omega)).mono ?_; rintro e w1 ⟨rfl, rfl⟩)
      refine (toStrs a c xs _ hx hn).mono ?_
      rintro e w1 ⟨a1, c1, rfl, own1, bel1⟩
      have st1 := own1.strs hx.2.2.1
      go_wp2_with fail
      refine (specJoin a1 c1 xs s _ st1 hJ).mono ?_
      rintro e w2 ⟨rfl, bel2⟩
      have B2 : Below w.heap.size w w2 := bel1.trans (bel2.mono bel1.size)
      go_wp2_with fail
      refine (toStrs a c xs _ (hx.below B2) hn).mono ?_
      rintro e w3 ⟨a3, c3, rfl, own3, bel3⟩
      have st3 := own3.strs hx.2.2.1
      have B3 : Below w.heap.size w w3 := B2.trans (bel3.mono B2.size)
      go_wp2_with fail
      refine (implJoin a3 c3 xs s _ st3 hJ (by omega)).mono ?_
      rintro e w4 ⟨rfl, bel4⟩
      have hbb : (!((joinT xs s).toList == (joinT xs s).toList)) = false := by simp
      have B4 : Below w.heap.size w w4 := B3.trans (bel4.mono B3.size)
      have st4 := st3.below bel4
      go_wp2_with fail
      refine (toStrs a c xs _ (hx.below B4) hn).mono ?_
      rintro e w5 ⟨a5, c5, rfl, own5, bel5⟩
      have st5 := own5.strs hx.2.2.1
      have st35 := st4.below bel5
      go_wp2_with fail
      refine (eqStrs a3 a5 c3 c5 xs xs _ st35 st5 rfl).mono ?_
      rintro e w6 ⟨rfl, n6, rfl⟩
      go_wp2_with fail
      go_ret
      exact ⟨rfl, below_drewN (B4.trans (bel5.mono B4.size)) _⟩

set_option maxRecDepth 100000 in
theorem liftedFnExactJoin (os : Os) (started : os.Started) (H : Type) (enc : TypeId × Value → H) :
    ReturnsInHanded {} Try.checked os 9 .any (Rows.fnExactJoinSpec.pre6 enc Try.prog Try.f9 Rows.fnExactJoinRow.domain false) (Rows.fnExactJoinSpec.post enc Try.prog Try.f9 false true false false) := by
  refine returnsInHanded_of_change (C := Try.checked) ownKnobs started (by kernel_rfl) Try.func9
    (ChangeSpec.witness6 (enc := enc) (C := Try.checked) false ⟨#[], #[.slice none 0 0, .string ByteArray.empty], []⟩ 8 (by kernel_rfl) (by kernel_rfl) (by kernel_rfl) (by kernel_rfl)) ?_
  intro W base args ds gs before hval0 hW hcnd _
  have hval : ∀ (j : Nat) t v, Try.f9.params[j]? = some t → args[j]? = some v → Value.okWide Try.prog W .any base t v := hval0
  have hW' := hW
  obtain ⟨p, q, hA0, hV, rfl, hfz, hnd⟩ := hW
  have hA : DataW.TrodAll enc Try.prog W 0 (fun _ => true) true Try.f9.params.toList args.toList ds p := hA0
  rw [Try.params9] at hA hval
  obtain ⟨v0, vs0, d0, ds0, p0, q0, hargs, rfl, rfl, h0, r0⟩ := trodAll_cons hA
  obtain ⟨v1, vs1, d1, ds1, p1, q1, rfl, rfl, rfl, h1, r1⟩ := trodAll_cons r0
  obtain ⟨rfl, rfl, rfl⟩ := trodAll_nil r1
  obtain rfl : args = #[v0, v1] := by cases args; simp_all
  obtain ⟨rfl, rfl⟩ := trodVars_none hV
  obtain ⟨a0, l0, c0, rfl⟩ := okWide_slice Try.underlying27 (hval 0 27 v0 rfl rfl)
  have k0 := h0
  have lt0 : ∀ x ∈ p0, x.block < W.heap.size := by obtain ⟨m, hm⟩ := k0; exact DataW.trod_lt m _ _ _ hm
  obtain ⟨x0, rfl, w0⟩ : ∃ xs : List ByteArray, l0 = xs.length ∧ Strs W a0 c0 xs := Strs_of_trod h0
  obtain ⟨s1, rfl, rfl, rfl, w1⟩ := open_string Try.underlying9 (hval 1 9 v1 rfl rfl) h1
  clear hA0 hval0
  refine (walkFnExactJoin a0 c0 x0 s1 W w0 w1).mono fun e W' ⟨he, bel⟩ => ?_
  subst he
  exact ⟨_, rfl, _, _, _, [], _, [], hW', trodAll_mk1 (shut_bool Try.underlying4 _), (trodAll_cons_mk (Below.trod laidOutB0 (by kernel_rfl) (of_decide_eq_true (by kernel_rfl)) k0 bel lt0) (trodAll_cons_mk (shut_string Try.underlying9 w1) trodAll_mk0)), rfl, bel.frame _, fun h => by cases h⟩

theorem provedFnExactJoin : Rows.FnExactJoinSaid :=
  OpenClaim.holds_of_wide 9 Try.f9 rfl rfl rfl rfl rfl rfl rfl ⟨rfl, rfl, rfl, rfl, rfl⟩ rfl rfl rfl rfl rfl (by kernel_rfl) Try.func9 (by kernel_rfl)
    (of_decide_eq_true (by kernel_rfl)) (by unfold Func.isWrapper; first | (rw [if_pos (by decide +kernel)]; kernel_rfl) | (rw [if_neg (by decide +kernel)]; exact ⟨rfl, rfl⟩))
    (fun os started H enc _ => liftedFnExactJoin os started H enc)

#print axioms provedFnExactJoin
end Go.Proofs.Ytboanhfmmhjepaa
