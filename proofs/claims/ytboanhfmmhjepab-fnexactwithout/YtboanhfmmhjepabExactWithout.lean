/- For every list of texts and every text FnExactWithout answers true: impl.Without answers as spec.Without, a new list that shares no memory, and leaves its argument alone; both arguments read behind the call as before it. No condition. -/
import Derived.Test.YtboanhfmmhjepabWithout2
import Derived.Test.YtboanhfmmhjepabOwn
import Derived.Test.YtboanhfmmhjepabOpen
namespace Go.Proofs.Ytboanhfmmhjepab
open Go.ChangeShapes Go.WideShapes Go.ChangeAt Go.RowKit
open Go.ChangeMaps (open_string shut_string)

set_option maxHeartbeats 2000000 in
theorem walkFnExactWithout (a : Option Addr) (c : Nat) (xs : List ByteArray) (s : ByteArray) (w : World) (hx : Strs w a c xs) (hs : s.size ≤ maxLen) :
    Calls Try.prog 3 #[.slice a xs.length c, .string s] w fun e w' => e = .returned (.bool true) ∧ Below w.heap.size w w' := by
  by_cases h1 : (1048576 : Int) < (s.size : Int)
  · go_enter Try.func3, Try.ntmps3
    go_wp2_with fail
    go_ret
    exact ⟨rfl, Below.refl _ _⟩
  · by_cases h2 : leftOf xs 1048576 < 0
    · go_enter Try.func3, Try.ntmps3
      go_wp2_with (go_at_call 4; refine (szStrs a c xs _ _ hx (by omega) (by omega)).mono ?_; rintro e w1 ⟨rfl, rfl⟩)
      go_ret
      exact ⟨rfl, Below.refl _ _⟩
    · have hbd := leftOf_le h2
      have hn : xs.length ≤ 1048576 := by omega
      have hpl : (woutL xs s).length ≤ 1048577 := by have := woutL_len xs s; omega
      have hps := woutL_sizes hx.2.2.1 hs
      go_enter Try.func3, Try.ntmps3
      go_wp2_with (go_at_call 4; refine (szStrs a c xs _ _ hx (by omega) (by omega)).mono ?_; rintro e w1 ⟨rfl, rfl⟩)
      -- w0: the specification's answer over a copy
      refine (toStrs a c xs _ hx hn).mono ?_
      rintro e w1 ⟨a1, c1, rfl, own1, bel1⟩
      have st1 := own1.strs hx.2.2.1
      go_wp2_with fail
      refine (specWithout a1 c1 xs s _ st1 hs (by omega)).mono ?_
      rintro e w2 ⟨aw, cw, rfl, ownw, bel2⟩
      have B2 : Below w.heap.size w w2 := bel1.trans (bel2.mono bel1.size)
      have W2 := ownw.at_
      clear own1 st1 ownw
      -- x0: a copy
      go_wp2_with fail
      refine (toStrs a c xs _ (hx.below B2) hn).mono ?_
      rintro e w3 ⟨ax, cx, rfl, ownx, bel3⟩
      have B3 : Below w.heap.size w w3 := B2.trans (bel3.mono B2.size)
      have W3 := W2.below bel3
      have X3 := ownx.at_
      have stx := ownx.strs hx.2.2.1
      clear W2
      -- g0: the program's answer
      go_wp2_with fail
      refine (implWithout ax cx xs s _ stx hs (by omega)).mono ?_
      rintro e w4 ⟨ag, cg, rfl, owng, bel4⟩
      have B4 : Below w.heap.size w w4 := B3.trans (bel4.mono B3.size)
      have W4 := W3.below bel4
      have X4 := X3.below bel4
      have G4 := owng.at_
      clear W3 X3 ownx owng
      -- they are equal
      go_wp2_with fail
      refine (eqStrs ag aw cg cw _ _ _ (G4.1.strs hps) (W4.1.strs hps) rfl).mono ?_
      rintro e w5 ⟨rfl, n5, rfl⟩
      -- x0 is as it was
      go_wp2_with fail
      refine (toStrs a c xs _ (hx.below (below_drewN B4 n5)) hn).mono ?_
      rintro e w6 ⟨a6, c6, rfl, own6, bel6⟩
      have bel6' : Below w4.heap.size w4 w6 := (below_drewN (Below.refl _ _) n5).trans bel6
      have B6 : Below w.heap.size w w6 := B4.trans (bel6'.mono B4.size)
      have W6 := W4.below bel6'
      have X6 := X4.below bel6'
      have G6 := G4.below bel6'
      have st6 := own6.strs hx.2.2.1
      clear W4 X4 G4 bel6 own6
      go_wp2_with fail
      refine (eqStrs ax a6 cx c6 xs xs _ (X6.1.strs hx.2.2.1) st6 rfl).mono ?_
      rintro e w7 ⟨rfl, n7, rfl⟩
      have bel7 : Below w6.heap.size w6 (w6.drewN n7) := below_drewN (Below.refl _ _) n7
      have W7 := W6.below bel7
      have X7 := X6.below bel7
      have G7 := G6.below bel7
      have B7 : Below w.heap.size w (w6.drewN n7) := below_drewN B6 n7
      clear W6 X6 G6 st6
      -- x0 is marked
      go_wp2_with fail
      refine (markStrs1 ax cx xs _ _ X7.1 (by omega)).mono ?_
      rintro e w8 ⟨rfl, _, hg8⟩
      have h23 := B2.size
      have h34 := bel3.size
      have hrow8 : ∀ g, (Value.slice ax xs.length cx).ownBlock = some g → w2.heap.size ≤ g ∧ g < w3.heap.size := fun g h => ⟨(X7.1.lt h).1, X7.2 g h⟩
      have W8 := W7.grown hg8 (fun g h => .inr (hrow8 g h).1)
      have G8 := G7.grown hg8 (fun g h => .inl (hrow8 g h).2)
      have B8 : Below w.heap.size w w8 := B7.grown hg8 B7.size (fun g h => by have := hrow8 g h; omega)
      clear W7 X7 G7 hrow8
      have ht8 : decide ((1 : Int) + (xs.length : Int) < 0) = false := by simp; omega
      go_wp2_with fail
      refine (eqStrs ag aw cg cw _ _ _ (G8.1.strs hps) (W8.1.strs hps) rfl).mono ?_
      rintro e w9 ⟨rfl, n9, rfl⟩
      have bel9 : Below w8.heap.size w8 (w8.drewN n9) := below_drewN (Below.refl _ _) n9
      have W9 := W8.below bel9
      have G9 := G8.below bel9
      have B9 : Below w.heap.size w (w8.drewN n9) := below_drewN B8 n9
      clear W8 G8
      -- g0 is marked, and found marked
      go_wp2_with fail
      refine (markStrs1 ag cg _ _ _ G9.1 (by omega)).mono ?_
      rintro e w10 ⟨rfl, own10, hg10⟩
      have hrow10 : ∀ g, (Value.slice ag (woutL xs s).length cg).ownBlock = some g → w3.heap.size ≤ g := fun g h => (G9.1.lt h).1
      have W10 := W9.grown hg10 (fun g h => .inr (by have := hrow10 g h; omega))
      have B10 : Below w.heap.size w w10 := B9.grown hg10 B9.size (fun g h => by have := hrow10 g h; omega)
      have mk := marks_sizes 1 (woutL xs s).length (by omega)
      clear W9 G9 hrow10 hg10
      go_wp2_with fail
      refine (heldStrs1 ag cg _ _ (own10.strs mk) (by omega)).mono ?_
      rintro e w11 ⟨rfl, bel11⟩
      have W11 := W10.below bel11
      have own11 := own10.below bel11
      have B11 : Below w.heap.size w w11 := B10.trans (bel11.mono B10.size)
      have ht11 : decide ((1 : Int) + ((woutL xs s).length : Int) < 0) = false := by simp; omega
      have hq11 : ((1 : Int) + ((woutL xs s).length : Int) != 1 + ((woutL xs s).length : Int)) = false := by simp
      clear W10 own10 bel11
      -- a second answer
      go_wp2_with fail
      refine (toStrs a c xs _ (hx.below B11) hn).mono ?_
      rintro e w12 ⟨a12, c12, rfl, own12, bel12⟩
      have st12 := own12.strs hx.2.2.1
      go_wp2_with fail
      refine (implWithout a12 c12 xs s _ st12 hs (by omega)).mono ?_
      rintro e w13 ⟨a13, c13, rfl, own13, bel13⟩
      have bel13' : Below w11.heap.size w11 w13 := bel12.trans (bel13.mono bel12.size)
      have W13 := W11.below bel13'
      have own13' := own11.below bel13'
      have B13 : Below w.heap.size w w13 := B11.trans (bel13'.mono B11.size)
      clear W11 own11 own12 st12 bel12 bel13
      go_wp2_with fail
      refine (eqStrs a13 aw c13 cw _ _ _ (own13.strs hps) (W13.1.strs hps) rfl).mono ?_
      rintro e w14 ⟨rfl, n14, rfl⟩
      have own14 := own13'.below (below_drewN (Below.refl _ _) n14)
      go_wp2_with fail
      refine (heldStrs1 ag cg _ _ (own14.strs mk) (by omega)).mono ?_
      rintro e w15 ⟨rfl, bel15⟩
      go_wp2_with fail
      go_ret
      exact ⟨rfl, (below_drewN B13 n14).trans (bel15.mono B13.size)⟩

set_option maxRecDepth 100000 in
theorem liftedFnExactWithout (os : Os) (started : os.Started) (H : Type) (enc : TypeId × Value → H) :
    ReturnsInHanded {} Try.checked os 3 .any (Rows.fnExactWithoutSpec.pre6 enc Try.prog Try.f3 Rows.fnExactWithoutRow.domain false) (Rows.fnExactWithoutSpec.post enc Try.prog Try.f3 false true false false) := by
  refine returnsInHanded_of_change (C := Try.checked) ownKnobs started (by kernel_rfl) Try.func3
    (ChangeSpec.witness6 (enc := enc) (C := Try.checked) false ⟨#[], #[.slice none 0 0, .string ByteArray.empty], []⟩ 8 (by kernel_rfl) (by kernel_rfl) (by kernel_rfl) (by kernel_rfl)) ?_
  intro W base args ds gs before hval0 hW hcnd _
  have hval : ∀ (j : Nat) t v, Try.f3.params[j]? = some t → args[j]? = some v → Value.okWide Try.prog W .any base t v := hval0
  have hW' := hW
  obtain ⟨p, q, hA0, hV, rfl, hfz, hnd⟩ := hW
  have hA : DataW.TrodAll enc Try.prog W 0 (fun _ => true) true Try.f3.params.toList args.toList ds p := hA0
  rw [Try.params3] at hA hval
  obtain ⟨v0, vs0, d0, ds0, p0, q0, hargs, rfl, rfl, h0, r0⟩ := trodAll_cons hA
  obtain ⟨v1, vs1, d1, ds1, p1, q1, rfl, rfl, rfl, h1, r1⟩ := trodAll_cons r0
  obtain ⟨rfl, rfl, rfl⟩ := trodAll_nil r1
  obtain rfl : args = #[v0, v1] := by cases args; simp_all
  obtain ⟨rfl, rfl⟩ := trodVars_none hV
  obtain ⟨a0, l0, c0, rfl⟩ := okWide_slice Try.underlying22 (hval 0 22 v0 rfl rfl)
  have k0 := h0
  have lt0 : ∀ x ∈ p0, x.block < W.heap.size := by obtain ⟨m, hm⟩ := k0; exact DataW.trod_lt m _ _ _ hm
  obtain ⟨x0, rfl, w0⟩ : ∃ xs : List ByteArray, l0 = xs.length ∧ Strs W a0 c0 xs := Strs_of_trod h0
  obtain ⟨s1, rfl, rfl, rfl, w1⟩ := open_string Try.underlying9 (hval 1 9 v1 rfl rfl) h1
  clear hA0 hval0
  refine (walkFnExactWithout a0 c0 x0 s1 W w0 w1).mono fun e W' ⟨he, bel⟩ => ?_
  subst he
  exact ⟨_, rfl, _, _, _, [], _, [], hW', trodAll_mk1 (shut_bool Try.underlying4 _), (trodAll_cons_mk (Below.trod laidOutB0 (by kernel_rfl) (of_decide_eq_true (by kernel_rfl)) k0 bel lt0) (trodAll_cons_mk (shut_string Try.underlying9 w1) trodAll_mk0)), rfl, bel.frame _, fun h => by cases h⟩

theorem provedFnExactWithout : Rows.FnExactWithoutSaid :=
  OpenClaim.holds_of_wide 3 Try.f3 rfl rfl rfl rfl rfl rfl rfl ⟨rfl, rfl, rfl, rfl, rfl⟩ rfl rfl rfl rfl rfl (by kernel_rfl) Try.func3 (by kernel_rfl)
    (of_decide_eq_true (by kernel_rfl)) (by unfold Func.isWrapper; first | (rw [if_pos (by decide +kernel)]; kernel_rfl) | (rw [if_neg (by decide +kernel)]; exact ⟨rfl, rfl⟩))
    (fun os started H enc _ => liftedFnExactWithout os started H enc)

#print axioms provedFnExactWithout
end Go.Proofs.Ytboanhfmmhjepab
