/- For every bytes FnPut answers true: what is put into a drawn list is there, it stays rising, and taken out again it is gone; the bytes read behind the call as before it. No condition. -/
import Derived.Test.YtboanhfmmhjepaaPutLaws
import Derived.Test.YtboanhfmmhjepaaDrawText
import Derived.Test.YtboanhfmmhjepaaSame
import Derived.Test.YtboanhfmmhjepaaWithout2
import Derived.Test.YtboanhfmmhjepaaOpenBytes
import Derived.Test.YtboanhfmmhjepaaLawBase
namespace Go.Proofs.Ytboanhfmmhjepaa
open Go.ChangeShapes Go.WideShapes Go.ChangeAt Go.RowKit

theorem woutL_len4 (xs : List ByteArray) (s : ByteArray) : (woutL xs s).length ≤ xs.length := List.length_filter_le _ _

set_option maxHeartbeats 2000000 in
theorem walkFnPut (a : Option Addr) (c : Nat) (l : List UInt8) (w : World) (hb : Bytes w a c l) :
    Calls Try.prog 4 #[.slice a l.length c] w fun e w' => e = .returned (.bool true) ∧ Below w.heap.size w w' := by
  by_cases hbig : 1048576 < l.length
  · go_enter Try.func4, Try.ntmps4
    go_wp2_with (go_at_call 12; refine (lawsBigYes _ _ _ _ hbig).mono ?_; rintro e w' ⟨rfl, rfl⟩)
    go_ret
    exact ⟨rfl, Below.refl _ _⟩
  · go_enter Try.func4, Try.ntmps4
    go_wp2_with (go_at_call 12; refine (lawsBigNo _ _ _ _ (by omega)).mono ?_; rintro e w' ⟨rfl, rfl⟩)
    refine (specDrawPut a c l _ hb (by omega)).mono ?_
    rintro e w1 ⟨a1, c1, xs, s, rfl, own1, hsh, hlen, hs, B1⟩
    have hsm : s.size ≤ maxLen := by unfold maxLen; omega
    have st1 := own1.strs hsh.sizes
    have hpl := putL_len xs s
    have hps := putL_sizes hsh.sizes hsm
    have hws := woutL_sizes hps hsm
    have hwl := woutL_len4 (putL xs s) s
    clear own1
    go_wp2_with fail
    refine (implPut a1 c1 xs s _ st1 hsm (by omega)).mono ?_
    rintro e w2 ⟨a2, c2, rfl, own2, b2⟩
    have st12 := st1.below b2
    have st2 := own2.strs hps
    have B2 : Below w.heap.size w w2 := B1.trans (b2.mono B1.size)
    clear own2 st1
    go_wp2_with fail
    refine (implWithout a2 c2 _ s _ st2 hsm (by omega)).mono ?_
    rintro e w3 ⟨a3, c3, rfl, own3, b3⟩
    have st13 := st12.below b3
    have st23 := st2.below b3
    have st3 := own3.strs hws
    have B3 : Below w.heap.size w w3 := B2.trans (b3.mono B2.size)
    clear own3 st12 st2
    go_wp2_with fail
    refine (specPut a1 c1 xs s _ st13 hsm (by omega)).mono ?_
    rintro e w4 ⟨a4, c4, rfl, own4, b4⟩
    have st14 := st13.below b4
    have st24 := st23.below b4
    have st34 := st3.below b4
    have st4 := own4.strs hps
    have B4 : Below w.heap.size w w4 := B3.trans (b4.mono B3.size)
    clear own4 st13 st23 st3
    go_wp2_with fail
    refine (sameStrs a2 a4 c2 c4 _ _ _ st24 st4 rfl).mono ?_
    rintro e w5 ⟨rfl, n5, rfl⟩
    go_wp2_with fail
    refine (Quiet.val (implHas a2 c2 _ s _ (by exact st24)) (congrArg Value.bool (putL_has xs s))).mono ?_
    rintro e w6 ⟨rfl, n6, rfl⟩
    go_wp2_with fail
    refine (Quiet.val (implHas a3 c3 _ s _ (by exact st34)) (congrArg Value.bool (woutL_hasnt (putL xs s) s))).mono ?_
    rintro e w7 ⟨rfl, n7, rfl⟩
    go_wp2_with fail
    cases hr : risingB xs with
    | false =>
      refine (Quiet.val (specRising a1 c1 xs _ (by exact st14)) (congrArg Value.bool hr)).mono ?_
      rintro e w8 ⟨rfl, n8, rfl⟩
      go_wp2_with fail
      go_ret
      exact ⟨rfl, below_drewN B4 _⟩
    | true =>
      have hr1 := (risingB_iff _).2 (putL_rising xs s ((risingB_iff _).1 hr))
      have hr2 := (risingB_iff _).2 (woutL_rising _ s ((risingB_iff _).1 hr1))
      have Hr1 := Lib.hid hr1
      have Hr2 := Lib.hid hr2
      clear hr1 hr2
      refine (Quiet.val (specRising a1 c1 xs _ (by exact st14)) (congrArg Value.bool hr)).mono ?_
      rintro e w8 ⟨rfl, n8, rfl⟩
      go_wp2_with fail
      refine (implRising a2 c2 _ _ (by exact st24)).mono ?_
      rw [Hr1.out]
      rintro e w9 ⟨rfl, b9⟩
      have B9 : Below w.heap.size w w9 := (below_drewN B4 _).trans (b9.mono B4.size)
      have b9' : Below w4.heap.size w4 w9 := (below_drewN (Below.refl _ _) _).trans b9
      have st19 := st14.below b9'
      have st29 := st24.below b9'
      have st39 := st34.below b9'
      clear st14 st24 st34 b9 b9'
      go_wp2_with fail
      refine (implRising a3 c3 _ _ st39).mono ?_
      rw [Hr2.out]
      rintro e w10 ⟨rfl, b10⟩
      have B10 : Below w.heap.size w w10 := B9.trans (b10.mono B9.size)
      have st1a := st19.below b10
      have st2a := st29.below b10
      have st3a := st39.below b10
      clear st19 st29 st39
      go_wp2_with fail
      refine (implWithout a1 c1 xs s _ st1a hsm (by omega)).mono ?_
      rintro e w11 ⟨a11, c11, rfl, own11, b11⟩
      have B11 : Below w.heap.size w w11 := B10.trans (b11.mono B10.size)
      have st2b := st2a.below b11
      have st3b := st3a.below b11
      have st11 := own11.strs (woutL_sizes hsh.sizes hsm)
      clear st1a st2a st3a own11
      go_wp2_with fail
      refine (sameStrs a3 a11 c3 c11 _ _ _ st3b st11 (woutL_putL xs s)).mono ?_
      rintro e w12 ⟨rfl, n12, rfl⟩
      go_wp2_with fail
      have st2c : Strs (w11.drewN n12) a2 c2 (putL xs s) := st2b
      refine (implPut a2 c2 _ s _ st2c hsm (by omega)).mono ?_
      rintro e w13 ⟨a13, c13, rfl, own13, b13⟩
      have B12 := below_drewN B11 n12
      have B13 : Below w.heap.size w w13 := B12.trans (b13.mono B12.size)
      have st2d := st2c.below b13
      have st13 := own13.strs (putL_sizes hps hsm)
      go_wp2_with fail
      refine (sameStrs a13 a2 c13 c2 _ _ _ st13 st2d (putL_twice xs s)).mono ?_
      rintro e w14 ⟨rfl, n14, rfl⟩
      go_wp2_with fail
      go_ret
      exact ⟨rfl, below_drewN B13 n14⟩

set_option maxRecDepth 100000 in
theorem liftedFnPut (os : Os) (started : os.Started) (H : Type) (enc : TypeId × Value → H) :
    ReturnsInHanded {} Try.checked os 4 .any (Rows.fnPutSpec.pre6 enc Try.prog Try.f4 Rows.fnPutRow.domain false) (Rows.fnPutSpec.post enc Try.prog Try.f4 false true false false) := by
  refine returnsInHanded_of_change (C := Try.checked) ownKnobs started (by kernel_rfl) Try.func4
    (ChangeSpec.witness6 (enc := enc) (C := Try.checked) false ⟨#[], #[.slice none 0 0], []⟩ 8 (by kernel_rfl) (by kernel_rfl) (by kernel_rfl) (by kernel_rfl)) ?_
  intro W base args ds gs before hval0 hW hcnd _
  have hval : ∀ (j : Nat) t v, Try.f4.params[j]? = some t → args[j]? = some v → Value.okWide Try.prog W .any base t v := hval0
  have hW' := hW
  obtain ⟨p, q, hA0, hV, rfl, hfz, hnd⟩ := hW
  have hA : DataW.TrodAll enc Try.prog W 0 (fun _ => true) true Try.f4.params.toList args.toList ds p := hA0
  rw [Try.params4] at hA hval
  obtain ⟨v0, vs0, d0, ds0, p0, q0, hargs, rfl, rfl, h0, r0⟩ := trodAll_cons hA
  obtain ⟨rfl, rfl, rfl⟩ := trodAll_nil r0
  obtain rfl : args = #[v0] := by cases args; simp_all
  obtain ⟨rfl, rfl⟩ := trodVars_none hV
  obtain ⟨a0, l0, c0, rfl⟩ := okWide_slice Try.underlying22 (hval 0 22 v0 rfl rfl)
  have k0 := h0
  have lt0 : ∀ x ∈ p0, x.block < W.heap.size := by obtain ⟨m, hm⟩ := k0; exact DataW.trod_lt m _ _ _ hm
  obtain ⟨x0, rfl, w0⟩ : ∃ xs : List UInt8, l0 = xs.length ∧ Bytes W a0 c0 xs := Bytes_of_trod h0
  clear hA0 hval0
  refine (walkFnPut a0 c0 x0 W w0).mono fun e W' ⟨he, bel⟩ => ?_
  subst he
  exact ⟨_, rfl, _, _, _, [], _, [], hW', trodAll_mk1 (shut_bool Try.underlying4 _), (trodAll_cons_mk (Below.trod laidOutB0 (by kernel_rfl) (of_decide_eq_true (by kernel_rfl)) k0 bel lt0) trodAll_mk0), rfl, bel.frame _, fun h => by cases h⟩

theorem provedFnPut : Rows.FnPutSaid :=
  OpenClaim.holds_of_wide 4 Try.f4 rfl rfl rfl rfl rfl rfl rfl ⟨rfl, rfl, rfl, rfl, rfl⟩ rfl rfl rfl rfl rfl (by kernel_rfl) Try.func4 (by kernel_rfl)
    (of_decide_eq_true (by kernel_rfl)) (by unfold Func.isWrapper; first | (rw [if_pos (by decide +kernel)]; kernel_rfl) | (rw [if_neg (by decide +kernel)]; exact ⟨rfl, rfl⟩))
    (fun os started H enc _ => liftedFnPut os started H enc)

#print axioms provedFnPut
end Go.Proofs.Ytboanhfmmhjepaa
