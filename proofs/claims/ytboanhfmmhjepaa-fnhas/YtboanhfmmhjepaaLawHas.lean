/- For every bytes FnHas answers true: what stands in a drawn list is what is left out without it; the bytes read behind the call as before it. No condition. -/
import Derived.Test.YtboanhfmmhjepaaPutLaws
import Derived.Test.YtboanhfmmhjepaaDrawText
import Derived.Test.YtboanhfmmhjepaaSame
import Derived.Test.YtboanhfmmhjepaaWithout2
import Derived.Test.YtboanhfmmhjepaaOpenBytes
import Derived.Test.YtboanhfmmhjepaaLawBase
namespace Go.Proofs.Ytboanhfmmhjepaa
open Go.ChangeShapes Go.WideShapes Go.ChangeAt Go.RowKit

/-- Something is left out just where it stands there. -/
theorem woutL_less (xs : List ByteArray) (s : ByteArray) : decide ((woutL xs s).length < xs.length) = hasB xs s := by
  induction xs with
  | nil => rfl
  | cons x r ih =>
    have hle := List.length_filter_le (fun x : ByteArray => !(x.toList == s.toList)) r
    unfold woutL hasB at ih ⊢
    rw [List.any_cons]
    cases he : (x.toList == s.toList) with
    | true =>
      rw [List.filter_cons_of_neg (by simp [he]), Bool.true_or, decide_eq_true_eq, List.length_cons]
      omega
    | false =>
      rw [List.filter_cons_of_pos (by simp [he]), Bool.false_or, ← ih]
      simp

set_option maxHeartbeats 2000000 in
theorem walkFnHas (a : Option Addr) (c : Nat) (l : List UInt8) (w : World) (hb : Bytes w a c l) :
    Calls Try.prog 5 #[.slice a l.length c] w fun e w' => e = .returned (.bool true) ∧ Below w.heap.size w w' := by
  by_cases hbig : 1048576 < l.length
  · go_enter Try.func5, Try.ntmps5
    go_wp2_with (go_at_call 12; refine (lawsBigYes _ _ _ _ hbig).mono ?_; rintro e w' ⟨rfl, rfl⟩)
    go_ret
    exact ⟨rfl, Below.refl _ _⟩
  · go_enter Try.func5, Try.ntmps5
    go_wp2_with (go_at_call 12; refine (lawsBigNo _ _ _ _ (by omega)).mono ?_; rintro e w' ⟨rfl, rfl⟩)
    refine (specDrawHas a c l _ hb (by omega)).mono ?_
    rintro e w1 ⟨a1, c1, xs, s, rfl, own1, hsh, hlen, hs, B1⟩
    have hsm : s.size ≤ maxLen := by unfold maxLen; omega
    have st1 := own1.strs hsh.sizes
    clear own1
    go_wp2_with fail
    refine (specDrawWithout a c l _ (hb.below B1) (by omega)).mono ?_
    rintro e w2 ⟨a2, c2, ys, t, rfl, own2, hsh2, hlen2, ht, b2⟩
    have htm : t.size ≤ maxLen := by unfold maxLen; omega
    have st2 := own2.strs hsh2.sizes
    have st12 := st1.below b2
    have B2 : Below w.heap.size w w2 := B1.trans (b2.mono B1.size)
    clear own2 st1
    go_wp2_with fail
    refine (implWithout a2 c2 ys t _ st2 htm (by omega)).mono ?_
    rintro e w3 ⟨a3, c3, rfl, own3, b3⟩
    have st13 := st12.below b3
    have st23 := st2.below b3
    have st3 := own3.strs (woutL_sizes hsh2.sizes htm)
    have B3 : Below w.heap.size w w3 := B2.trans (b3.mono B2.size)
    clear own3 st12 st2
    go_wp2_with fail
    refine (implHas a1 c1 xs s _ st13).mono ?_
    rintro e w4 ⟨rfl, n4, rfl⟩
    go_wp2_with fail
    refine (specHas a1 c1 xs s _ (by exact st13)).mono ?_
    rintro e w5 ⟨rfl, n5, rfl⟩
    have hq : (hasB xs s == hasB xs s) = true := by simp
    go_wp2_with fail
    refine (implWithout a1 c1 xs s _ (by exact st13) hsm (by omega)).mono ?_
    rintro e w6 ⟨a6, c6, rfl, own6, b6⟩
    have B6 : Below w.heap.size w w6 := (below_drewN B3 _).trans (b6.mono B3.size)
    have b6' : Below w3.heap.size w3 w6 := (below_drewN (Below.refl _ _) _).trans b6
    have st16 := st13.below b6'
    have st26 := st23.below b6'
    have st36 := st3.below b6'
    clear st13 st23 st3 b6 b6' own6
    have hlt : ((decide ((woutL xs s).length < xs.length)) == hasB xs s) = true := by rw [woutL_less]; simp
    go_wp2_with fail
    refine (specHas a1 c1 xs s _ st16).mono ?_
    rintro e w7 ⟨rfl, n7, rfl⟩
    go_wp2_with fail
    refine (specWithout a2 c2 ys t _ (by exact st26) htm (by omega)).mono ?_
    rintro e w8 ⟨a8, c8, rfl, own8, b8⟩
    have b8' : Below w6.heap.size w6 w8 := (below_drewN (Below.refl _ _) _).trans b8
    have B8 : Below w.heap.size w w8 := B6.trans (b8'.mono B6.size)
    have st38 := st36.below b8'
    have st8 := own8.strs (woutL_sizes hsh2.sizes htm)
    go_wp2_with fail
    refine (sameStrs a3 a8 c3 c8 _ _ _ st38 st8 rfl).mono ?_
    rintro e w9 ⟨rfl, n9, rfl⟩
    go_wp2_with fail
    go_ret
    exact ⟨rfl, below_drewN B8 _⟩

set_option maxRecDepth 100000 in
theorem liftedFnHas (os : Os) (started : os.Started) (H : Type) (enc : TypeId × Value → H) :
    ReturnsInHanded {} Try.checked os 5 .any (Rows.fnHasSpec.pre6 enc Try.prog Try.f5 Rows.fnHasRow.domain false) (Rows.fnHasSpec.post enc Try.prog Try.f5 false true false false) := by
  refine returnsInHanded_of_change (C := Try.checked) ownKnobs started (by kernel_rfl) Try.func5
    (ChangeSpec.witness6 (enc := enc) (C := Try.checked) false ⟨#[], #[.slice none 0 0], []⟩ 8 (by kernel_rfl) (by kernel_rfl) (by kernel_rfl) (by kernel_rfl)) ?_
  intro W base args ds gs before hval0 hW hcnd _
  have hval : ∀ (j : Nat) t v, Try.f5.params[j]? = some t → args[j]? = some v → Value.okWide Try.prog W .any base t v := hval0
  have hW' := hW
  obtain ⟨p, q, hA0, hV, rfl, hfz, hnd⟩ := hW
  have hA : DataW.TrodAll enc Try.prog W 0 (fun _ => true) true Try.f5.params.toList args.toList ds p := hA0
  rw [Try.params5] at hA hval
  obtain ⟨v0, vs0, d0, ds0, p0, q0, hargs, rfl, rfl, h0, r0⟩ := trodAll_cons hA
  obtain ⟨rfl, rfl, rfl⟩ := trodAll_nil r0
  obtain rfl : args = #[v0] := by cases args; simp_all
  obtain ⟨rfl, rfl⟩ := trodVars_none hV
  obtain ⟨a0, l0, c0, rfl⟩ := okWide_slice Try.underlying22 (hval 0 22 v0 rfl rfl)
  have k0 := h0
  have lt0 : ∀ x ∈ p0, x.block < W.heap.size := by obtain ⟨m, hm⟩ := k0; exact DataW.trod_lt m _ _ _ hm
  obtain ⟨x0, rfl, w0⟩ : ∃ xs : List UInt8, l0 = xs.length ∧ Bytes W a0 c0 xs := Bytes_of_trod h0
  clear hA0 hval0
  refine (walkFnHas a0 c0 x0 W w0).mono fun e W' ⟨he, bel⟩ => ?_
  subst he
  exact ⟨_, rfl, _, _, _, [], _, [], hW', trodAll_mk1 (shut_bool Try.underlying4 _), (trodAll_cons_mk (Below.trod laidOutB0 (by kernel_rfl) (of_decide_eq_true (by kernel_rfl)) k0 bel lt0) trodAll_mk0), rfl, bel.frame _, fun h => by cases h⟩

theorem provedFnHas : Rows.FnHasSaid :=
  OpenClaim.holds_of_wide 5 Try.f5 rfl rfl rfl rfl rfl rfl rfl ⟨rfl, rfl, rfl, rfl, rfl⟩ rfl rfl rfl rfl rfl (by kernel_rfl) Try.func5 (by kernel_rfl)
    (of_decide_eq_true (by kernel_rfl)) (by unfold Func.isWrapper; first | (rw [if_pos (by decide +kernel)]; kernel_rfl) | (rw [if_neg (by decide +kernel)]; exact ⟨rfl, rfl⟩))
    (fun os started H enc _ => liftedFnHas os started H enc)

#print axioms provedFnHas
end Go.Proofs.Ytboanhfmmhjepaa
