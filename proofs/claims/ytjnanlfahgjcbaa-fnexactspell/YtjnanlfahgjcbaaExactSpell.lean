/- For every list of words FnExactSpell answers true: impl.Spell answers as spec.Spell and leaves its argument alone; the argument reads behind the call as before it. No condition. -/
import Derived.Test.YtjnanlfahgjcbaaSpell
import Derived.Test.YtjnanlfahgjcbaaTokTo
import Derived.Test.YtjnanlfahgjcbaaOpenToks
namespace Go.Proofs.Ytjnanlfahgjcbaa
open Go.ChangeShapes Go.WideShapes Go.ChangeAt Go.RowKit

set_option maxHeartbeats 1000000 in
theorem walkFnExactSpell (a : Option Addr) (c : Nat) (xs : List Tk) (w : World) (hx : Toks w a c xs) :
    Calls Try.prog 5 #[.slice a xs.length c] w fun e w' => e = .returned (.bool true) ∧ Below w.heap.size w w' := by
  by_cases h2 : leftT xs 1048576 < 0
  · go_enter Try.func5, Try.ntmps5
    go_wp2_with fail
    refine (szToks a c xs 1048576 _ hx (by omega) (by omega)).mono ?_
    rintro e w1 ⟨rfl, bel1⟩
    go_wp2_with fail
    go_ret
    exact ⟨rfl, bel1⟩
  · have hbd := leftT_le h2
    have hn : xs.length ≤ 1048576 := by omega
    have hfit : FitsT xs := hx.2.2.1
    go_enter Try.func5, Try.ntmps5
    go_wp2_with fail
    refine (szToks a c xs 1048576 _ hx (by omega) (by omega)).mono ?_
    rintro e w0 ⟨rfl, B0⟩
    go_wp2_with fail
    refine (toToks a c xs _ (hx.below B0) hn).mono ?_
    rintro e w1 ⟨a1, c1, rfl, own1, bel1⟩
    have st1 := own1.toks hfit
    have B1 : Below w.heap.size w w1 := B0.trans (bel1.mono B0.size)
    go_wp2_with fail
    refine (specSpell a1 c1 xs _ st1 hbd).mono ?_
    rintro e w2 ⟨rfl, bel2⟩
    have B2 : Below w.heap.size w w2 := B1.trans (bel2.mono B1.size)
    go_wp2_with fail
    refine (toToks a c xs _ (hx.below B2) hn).mono ?_
    rintro e w3 ⟨a3, c3, rfl, own3, bel3⟩
    have st3 := own3.toks hfit
    have B3 : Below w.heap.size w w3 := B2.trans (bel3.mono B2.size)
    go_wp2_with fail
    refine (implSpell a3 c3 xs _ st3 hbd).mono ?_
    rintro e w4 ⟨rfl, bel4⟩
    have hbb : (!((spellT xs).toList == (spellT xs).toList)) = false := by simp
    have B4 : Below w.heap.size w w4 := B3.trans (bel4.mono B3.size)
    have st4 := st3.below bel4
    go_wp2_with fail
    refine (toToks a c xs _ (hx.below B4) hn).mono ?_
    rintro e w5 ⟨a5, c5, rfl, own5, bel5⟩
    have st5 := own5.toks hfit
    have st35 := st4.below bel5
    have B5 : Below w.heap.size w w5 := B4.trans (bel5.mono B4.size)
    go_wp2_with fail
    refine (eqToks a3 a5 c3 c5 xs _ st35 st5).mono ?_
    rintro e w6 ⟨rfl, bel6⟩
    go_wp2_with fail
    go_ret
    exact ⟨rfl, B5.trans (bel6.mono B5.size)⟩

set_option maxRecDepth 100000 in
theorem liftedFnExactSpell (os : Os) (started : os.Started) (H : Type) (enc : TypeId × Value → H) :
    ReturnsInHanded {} Try.checked os 5 .any (Rows.fnExactSpellSpec.pre6 enc Try.prog Try.f5 Rows.fnExactSpellRow.domain false) (Rows.fnExactSpellSpec.post enc Try.prog Try.f5 false true false false) := by
  refine returnsInHanded_of_change (C := Try.checked) ownKnobs started (by kernel_rfl) Try.func5
    (ChangeSpec.witness6 (enc := enc) (C := Try.checked) false ⟨#[], #[.slice none 0 0], []⟩ 8 (by kernel_rfl) (by kernel_rfl) (by kernel_rfl) (by kernel_rfl)) ?_
  intro W base args ds gs before hval0 hW hcnd _
  have hval : ∀ (j : Nat) t v, Try.f5.params[j]? = some t → args[j]? = some v → Value.okWide Try.prog W .any base t v := hval0
  have hW' := hW
  obtain ⟨p, q, hA0, hV, rfl, hfz, hnd⟩ := hW
  have hA : DataW.TrodAll enc Try.prog W 0 (fun _ => true) true Try.f5.params.toList args.toList ds p := hA0
  rw [Try.params5] at hA hval
  obtain ⟨v0, vs0, d0, ds0, p0, q0, hargs, rfl, rfl, h0, r0⟩ := trodAll_cons hA
  obtain ⟨rfl, rfl, rfl⟩ := trodAll_nil r0
  obtain rfl : args = #[v0] := by cases args; simp_all
  obtain ⟨rfl, rfl⟩ := trodVars_none hV
  obtain ⟨a0, l0, c0, rfl⟩ := okWide_slice Try.underlying32 (hval 0 32 v0 rfl rfl)
  have k0 := h0
  have lt0 : ∀ x ∈ p0, x.block < W.heap.size := by obtain ⟨m, hm⟩ := k0; exact DataW.trod_lt m _ _ _ hm
  obtain ⟨x0, rfl, w0⟩ : ∃ xs : List Tk, l0 = xs.length ∧ Toks W a0 c0 xs := Toks_of_trod h0
  clear hA0 hval0
  refine (walkFnExactSpell a0 c0 x0 W w0).mono fun e W' ⟨he, bel⟩ => ?_
  subst he
  exact ⟨_, rfl, _, _, _, [], _, [], hW', trodAll_mk1 (shut_bool Try.underlying4 _), (trodAll_cons_mk (Below.trod laidOutB0 (by kernel_rfl) (of_decide_eq_true (by kernel_rfl)) k0 bel lt0) trodAll_mk0), rfl, bel.frame _, fun h => by cases h⟩

theorem provedFnExactSpell : Rows.FnExactSpellSaid :=
  OpenClaim.holds_of_wide 5 Try.f5 rfl rfl rfl rfl rfl rfl rfl ⟨rfl, rfl, rfl, rfl, rfl⟩ rfl rfl rfl rfl rfl (by kernel_rfl) Try.func5 (by kernel_rfl)
    (of_decide_eq_true (by kernel_rfl)) (by unfold Func.isWrapper; first | (rw [if_pos (by decide +kernel)]; kernel_rfl) | (rw [if_neg (by decide +kernel)]; exact ⟨rfl, rfl⟩))
    (fun os started H enc _ => liftedFnExactSpell os started H enc)

#print axioms provedFnExactSpell
end Go.Proofs.Ytjnanlfahgjcbaa
