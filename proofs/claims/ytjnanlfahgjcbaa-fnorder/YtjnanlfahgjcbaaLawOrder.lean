/- For every bytes FnOrder answers true: of two drawn texts one is ahead or they are one, impl.Before answers as spec.Before, and a drawn list rises where each text is ahead of the next; the bytes read behind the call as before it. -/
import Derived.Test.YtjnanlfahgjcbaaDrawBefore
import Derived.Test.YtjnanlfahgjcbaaRising3
import Derived.Test.YtjnanlfahgjcbaaDrawText
import Derived.Test.YtjnanlfahgjcbaaLess
import Derived.Test.YtjnanlfahgjcbaaOpenBytes
import Derived.Test.YtjnanlfahgjcbaaLawBase
namespace Go.Proofs.Ytjnanlfahgjcbaa
open Go.ChangeShapes Go.WideShapes Go.ChangeAt Go.RowKit

theorem beforeQ (a b : ByteArray) (w : World) (v : Bool) (h : lessB a b = v) : Calls Try.prog 8 #[.string a, .string b] w fun e w' => e = .returned (.bool v) ∧ w' = w := by
  subst h
  exact (implBefore a b w).mono fun _ _ ⟨he, hw⟩ => ⟨he, hw.symm⟩

set_option maxRecDepth 100000 in
set_option maxHeartbeats 4000000 in
theorem walkFnOrder (a : Option Addr) (c : Nat) (l : List UInt8) (w : World) (hb : Bytes w a c l) :
    Calls Try.prog 3 #[.slice a l.length c] w fun e w' => e = .returned (.bool true) ∧ Below w.heap.size w w' := by
  by_cases hbig : 1048576 < l.length
  · go_enter Try.func3, Try.ntmps3
    go_wp2_with (go_at_call 6; refine (lawsBigYes _ _ _ _ hbig).mono ?_; rintro e w' ⟨rfl, rfl⟩)
    go_ret
    exact ⟨rfl, Below.refl _ _⟩
  · go_enter Try.func3, Try.ntmps3
    go_wp2_with (go_at_call 6; refine (lawsBigNo _ _ _ _ (by omega)).mono ?_; rintro e w' ⟨rfl, rfl⟩)
    refine (specDrawBefore a c l _ hb (by omega)).mono ?_
    rintro e w1 ⟨s, t, rfl, hs, ht, B1⟩
    have hsm : s.size ≤ maxLen := by unfold maxLen; omega
    have htm : t.size ≤ maxLen := by unfold maxLen; omega
    have HB := Lib.hid hb
    rcases less_three s.toList t.toList with ⟨h1, h2, h3⟩ | ⟨h1, h2, h3⟩ | ⟨h1, h2, h3⟩
    · have H1 : Hid (lessB s t = true) := h1
      have I1 : Hid (∀ W, Calls Try.prog 8 #[.string s, .string t] W fun e w' => e = .returned (.bool true) ∧ W = w') := fun W => implBeforeTrue s t W h1
      have I2 : Hid (∀ W, Calls Try.prog 8 #[.string t, .string s] W fun e w' => e = .returned (.bool false) ∧ W = w') := fun W => implBeforeFalse t s W h2
      clear h1 h2
      go_wp2_with fail
      refine (I1.out _).mono ?_
      rintro e w2 ⟨rfl, rfl⟩
      go_wp2_with fail
      refine (I2.out _).mono ?_
      rintro e w2 ⟨rfl, rfl⟩
      go_wp2_with fail
      refine (specDrawRising a c l _ (hb.below B1) (by omega)).mono ?_
      rintro e w3 ⟨a3, c3, xs, rfl, own3, hsh, hxl, b3⟩
      have B3 : Below w.heap.size w w3 := B1.trans (b3.mono B1.size)
      have hx := own3.strs hsh.sizes
      have HX := Lib.hid hx
      have HSH := Lib.hid hsh
      clear own3 b3 hsh hx
      go_wp2_with fail
      go_loopw [7, 8] (fun v i wr => ∃ (k n : Nat) (r : Bool), k ≤ xs.length - 1 ∧ i = .int .i64 ((k : Int) + 1) ∧ v = .bool r ∧ Hid (r = (prs xs k).all fun x => lessB x.1 x.2) ∧ Hid (wr = w3.drewN n)) (fun _ i _ => xs.length - (intOf i).toNat)
      case atStart => exact ⟨0, 0, true, Nat.zero_le _, rfl, rfl, rfl, rfl⟩
      case round =>
        obtain ⟨k, n, r, hk, rfl, rfl, hr, hwr⟩ := hrel
        by_cases hlt : k + 1 < xs.length
        · have hkl : k < xs.length := by omega
          have hx' : Strs wr a3 c3 xs := by rw [hwr.out]; exact HX.out
          obtain ⟨b, off, rfl, hbl, hc1⟩ := hx'.spot hkl
          obtain ⟨b', off', he, _, hc2⟩ := hx'.spot hlt
          cases he
          have Hp := Lib.hid (pairAt_eq xs k hlt)
          have hw0 : IntKind.i64.wrap ((k : Int) + 1 - 1) = (k : Int) := by rw [IntWalk.i64_in _ (by omega)]; omega
          have hw1 : IntKind.i64.wrap (k : Int) = (k : Int) := IntWalk.i64_in _ (by omega)
          have hi0 : (0 : Int) ≤ (k : Int) := by omega
          have hi1 : (k : Int) < (xs.length : Int) := by omega
          have hi2 : (0 : Int) ≤ (k : Int) + 1 := by omega
          have hi3 : (k : Int) + 1 < (xs.length : Int) := by omega
          have hi4 : ((k : Int) + 1).toNat = k + 1 := by omega
          have HN : Hid ((prs xs (k + 1)).all (fun x => lessB x.1 x.2) = (r && lessB xs[k] xs[k + 1])) := by
            unfold Hid
            rw [prs_succ, List.all_append, ← hr.out, Hp.out]
            simp
          clear hx'
          cases r with
          | true =>
            cases hle : lessB xs[k] xs[k + 1] with
            | true =>
              have Hle := Lib.hid hle
              clear hle
              go_wp2_with fail
              go_quiet ((go_at_call 8; exact Calls.quiet_of_same (beforeQ _ _ _ true Hle.out)))
              clear hw0 hw1
              go_wp2_with fail
              go_roundw
              case rel => exact ⟨k + 1, n + nq, true, by omega, by go_num, rfl, by unfold Hid; rw [HN.out, Hle.out]; rfl, by unfold Hid; rw [hwr.out, World.drewN_drewN]⟩
              case measure => simp [intOf]; omega
            | false =>
              have Hle := Lib.hid hle
              clear hle
              go_wp2_with fail
              go_quiet ((go_at_call 8; exact Calls.quiet_of_same (beforeQ _ _ _ false Hle.out)))
              clear hw0 hw1
              go_wp2_with fail
              go_roundw
              case rel => exact ⟨k + 1, n + nq, false, by omega, by go_num, rfl, by unfold Hid; rw [HN.out, Hle.out]; rfl, by unfold Hid; rw [hwr.out, World.drewN_drewN]⟩
              case measure => simp [intOf]; omega
          | false =>
            go_wp2_with fail
            go_quiet (fail)
            clear hw0 hw1
            go_wp2_with fail
            go_roundw
            case rel => exact ⟨k + 1, n + nq, false, by omega, by go_num, rfl, by unfold Hid; rw [HN.out]; rfl, by unfold Hid; rw [hwr.out, World.drewN_drewN]⟩
            case measure => simp [intOf]; omega
        · obtain rfl : k = xs.length - 1 := by omega
          have ht : decide (((xs.length - 1 : Nat) : Int) + 1 < (xs.length : Int)) = false := by simp; omega
          have HR : Hid (r = risingB xs) := hr
          have hx4 : Strs wr a3 c3 xs := by rw [hwr.out]; exact HX.out
          have B4 : Below w.heap.size w wr := by rw [hwr.out]; exact below_drewN B3 _
          have hrr : (risingB xs == r) = true := by rw [← HR.out]; simp
          clear hwr hr
          go_wp2_with fail
          refine (I1.out _).mono ?_
          rintro e w5 ⟨rfl, rfl⟩
          go_wp2_with fail
          refine (specBeforeIs s t _ hsm htm _ H1.out).mono ?_
          rintro e w6 ⟨rfl, n6, hw6⟩
          have B6 : Below w.heap.size w w6 := by rw [hw6]; exact below_drewN B4 _
          have hx6 : Strs w6 a3 c3 xs := by rw [hw6]; exact hx4
          clear hw6
          go_wp2_with fail
          refine (implRising a3 c3 xs w6 hx6).mono ?_
          rintro e w7 ⟨rfl, b7⟩
          go_wp2_with fail
          go_ret
          exact ⟨rfl, B6.trans (b7.mono B6.size)⟩
    · have H1 : Hid (lessB s t = false) := h1
      have I1 : Hid (∀ W, Calls Try.prog 8 #[.string s, .string t] W fun e w' => e = .returned (.bool false) ∧ W = w') := fun W => implBeforeFalse s t W h1
      have I2 : Hid (∀ W, Calls Try.prog 8 #[.string t, .string s] W fun e w' => e = .returned (.bool true) ∧ W = w') := fun W => implBeforeTrue t s W h2
      clear h1 h2
      go_wp2_with fail
      refine (I1.out _).mono ?_
      rintro e w2 ⟨rfl, rfl⟩
      go_wp2_with fail
      refine (I2.out _).mono ?_
      rintro e w2 ⟨rfl, rfl⟩
      go_wp2_with fail
      refine (specDrawRising a c l _ (hb.below B1) (by omega)).mono ?_
      rintro e w3 ⟨a3, c3, xs, rfl, own3, hsh, hxl, b3⟩
      have B3 : Below w.heap.size w w3 := B1.trans (b3.mono B1.size)
      have hx := own3.strs hsh.sizes
      have HX := Lib.hid hx
      have HSH := Lib.hid hsh
      clear own3 b3 hsh hx
      go_wp2_with fail
      go_loopw [7, 8] (fun v i wr => ∃ (k n : Nat) (r : Bool), k ≤ xs.length - 1 ∧ i = .int .i64 ((k : Int) + 1) ∧ v = .bool r ∧ Hid (r = (prs xs k).all fun x => lessB x.1 x.2) ∧ Hid (wr = w3.drewN n)) (fun _ i _ => xs.length - (intOf i).toNat)
      case atStart => exact ⟨0, 0, true, Nat.zero_le _, rfl, rfl, rfl, rfl⟩
      case round =>
        obtain ⟨k, n, r, hk, rfl, rfl, hr, hwr⟩ := hrel
        by_cases hlt : k + 1 < xs.length
        · have hkl : k < xs.length := by omega
          have hx' : Strs wr a3 c3 xs := by rw [hwr.out]; exact HX.out
          obtain ⟨b, off, rfl, hbl, hc1⟩ := hx'.spot hkl
          obtain ⟨b', off', he, _, hc2⟩ := hx'.spot hlt
          cases he
          have Hp := Lib.hid (pairAt_eq xs k hlt)
          have hw0 : IntKind.i64.wrap ((k : Int) + 1 - 1) = (k : Int) := by rw [IntWalk.i64_in _ (by omega)]; omega
          have hw1 : IntKind.i64.wrap (k : Int) = (k : Int) := IntWalk.i64_in _ (by omega)
          have hi0 : (0 : Int) ≤ (k : Int) := by omega
          have hi1 : (k : Int) < (xs.length : Int) := by omega
          have hi2 : (0 : Int) ≤ (k : Int) + 1 := by omega
          have hi3 : (k : Int) + 1 < (xs.length : Int) := by omega
          have hi4 : ((k : Int) + 1).toNat = k + 1 := by omega
          have HN : Hid ((prs xs (k + 1)).all (fun x => lessB x.1 x.2) = (r && lessB xs[k] xs[k + 1])) := by
            unfold Hid
            rw [prs_succ, List.all_append, ← hr.out, Hp.out]
            simp
          clear hx'
          cases r with
          | true =>
            cases hle : lessB xs[k] xs[k + 1] with
            | true =>
              have Hle := Lib.hid hle
              clear hle
              go_wp2_with fail
              go_quiet ((go_at_call 8; exact Calls.quiet_of_same (beforeQ _ _ _ true Hle.out)))
              clear hw0 hw1
              go_wp2_with fail
              go_roundw
              case rel => exact ⟨k + 1, n + nq, true, by omega, by go_num, rfl, by unfold Hid; rw [HN.out, Hle.out]; rfl, by unfold Hid; rw [hwr.out, World.drewN_drewN]⟩
              case measure => simp [intOf]; omega
            | false =>
              have Hle := Lib.hid hle
              clear hle
              go_wp2_with fail
              go_quiet ((go_at_call 8; exact Calls.quiet_of_same (beforeQ _ _ _ false Hle.out)))
              clear hw0 hw1
              go_wp2_with fail
              go_roundw
              case rel => exact ⟨k + 1, n + nq, false, by omega, by go_num, rfl, by unfold Hid; rw [HN.out, Hle.out]; rfl, by unfold Hid; rw [hwr.out, World.drewN_drewN]⟩
              case measure => simp [intOf]; omega
          | false =>
            go_wp2_with fail
            go_quiet (fail)
            clear hw0 hw1
            go_wp2_with fail
            go_roundw
            case rel => exact ⟨k + 1, n + nq, false, by omega, by go_num, rfl, by unfold Hid; rw [HN.out]; rfl, by unfold Hid; rw [hwr.out, World.drewN_drewN]⟩
            case measure => simp [intOf]; omega
        · obtain rfl : k = xs.length - 1 := by omega
          have ht : decide (((xs.length - 1 : Nat) : Int) + 1 < (xs.length : Int)) = false := by simp; omega
          have HR : Hid (r = risingB xs) := hr
          have hx4 : Strs wr a3 c3 xs := by rw [hwr.out]; exact HX.out
          have B4 : Below w.heap.size w wr := by rw [hwr.out]; exact below_drewN B3 _
          have hrr : (risingB xs == r) = true := by rw [← HR.out]; simp
          clear hwr hr
          go_wp2_with fail
          refine (I1.out _).mono ?_
          rintro e w5 ⟨rfl, rfl⟩
          go_wp2_with fail
          refine (specBeforeIs s t _ hsm htm _ H1.out).mono ?_
          rintro e w6 ⟨rfl, n6, hw6⟩
          have B6 : Below w.heap.size w w6 := by rw [hw6]; exact below_drewN B4 _
          have hx6 : Strs w6 a3 c3 xs := by rw [hw6]; exact hx4
          clear hw6
          go_wp2_with fail
          refine (implRising a3 c3 xs w6 hx6).mono ?_
          rintro e w7 ⟨rfl, b7⟩
          go_wp2_with fail
          go_ret
          exact ⟨rfl, B6.trans (b7.mono B6.size)⟩
    · have H1 : Hid (lessB s t = false) := h1
      have I1 : Hid (∀ W, Calls Try.prog 8 #[.string s, .string t] W fun e w' => e = .returned (.bool false) ∧ W = w') := fun W => implBeforeFalse s t W h1
      have I2 : Hid (∀ W, Calls Try.prog 8 #[.string t, .string s] W fun e w' => e = .returned (.bool false) ∧ W = w') := fun W => implBeforeFalse t s W h2
      clear h1 h2
      go_wp2_with fail
      refine (I1.out _).mono ?_
      rintro e w2 ⟨rfl, rfl⟩
      go_wp2_with fail
      refine (I2.out _).mono ?_
      rintro e w2 ⟨rfl, rfl⟩
      go_wp2_with fail
      refine (specDrawRising a c l _ (hb.below B1) (by omega)).mono ?_
      rintro e w3 ⟨a3, c3, xs, rfl, own3, hsh, hxl, b3⟩
      have B3 : Below w.heap.size w w3 := B1.trans (b3.mono B1.size)
      have hx := own3.strs hsh.sizes
      have HX := Lib.hid hx
      have HSH := Lib.hid hsh
      clear own3 b3 hsh hx
      go_wp2_with fail
      go_loopw [7, 8] (fun v i wr => ∃ (k n : Nat) (r : Bool), k ≤ xs.length - 1 ∧ i = .int .i64 ((k : Int) + 1) ∧ v = .bool r ∧ Hid (r = (prs xs k).all fun x => lessB x.1 x.2) ∧ Hid (wr = w3.drewN n)) (fun _ i _ => xs.length - (intOf i).toNat)
      case atStart => exact ⟨0, 0, true, Nat.zero_le _, rfl, rfl, rfl, rfl⟩
      case round =>
        obtain ⟨k, n, r, hk, rfl, rfl, hr, hwr⟩ := hrel
        by_cases hlt : k + 1 < xs.length
        · have hkl : k < xs.length := by omega
          have hx' : Strs wr a3 c3 xs := by rw [hwr.out]; exact HX.out
          obtain ⟨b, off, rfl, hbl, hc1⟩ := hx'.spot hkl
          obtain ⟨b', off', he, _, hc2⟩ := hx'.spot hlt
          cases he
          have Hp := Lib.hid (pairAt_eq xs k hlt)
          have hw0 : IntKind.i64.wrap ((k : Int) + 1 - 1) = (k : Int) := by rw [IntWalk.i64_in _ (by omega)]; omega
          have hw1 : IntKind.i64.wrap (k : Int) = (k : Int) := IntWalk.i64_in _ (by omega)
          have hi0 : (0 : Int) ≤ (k : Int) := by omega
          have hi1 : (k : Int) < (xs.length : Int) := by omega
          have hi2 : (0 : Int) ≤ (k : Int) + 1 := by omega
          have hi3 : (k : Int) + 1 < (xs.length : Int) := by omega
          have hi4 : ((k : Int) + 1).toNat = k + 1 := by omega
          have HN : Hid ((prs xs (k + 1)).all (fun x => lessB x.1 x.2) = (r && lessB xs[k] xs[k + 1])) := by
            unfold Hid
            rw [prs_succ, List.all_append, ← hr.out, Hp.out]
            simp
          clear hx'
          cases r with
          | true =>
            cases hle : lessB xs[k] xs[k + 1] with
            | true =>
              have Hle := Lib.hid hle
              clear hle
              go_wp2_with fail
              go_quiet ((go_at_call 8; exact Calls.quiet_of_same (beforeQ _ _ _ true Hle.out)))
              clear hw0 hw1
              go_wp2_with fail
              go_roundw
              case rel => exact ⟨k + 1, n + nq, true, by omega, by go_num, rfl, by unfold Hid; rw [HN.out, Hle.out]; rfl, by unfold Hid; rw [hwr.out, World.drewN_drewN]⟩
              case measure => simp [intOf]; omega
            | false =>
              have Hle := Lib.hid hle
              clear hle
              go_wp2_with fail
              go_quiet ((go_at_call 8; exact Calls.quiet_of_same (beforeQ _ _ _ false Hle.out)))
              clear hw0 hw1
              go_wp2_with fail
              go_roundw
              case rel => exact ⟨k + 1, n + nq, false, by omega, by go_num, rfl, by unfold Hid; rw [HN.out, Hle.out]; rfl, by unfold Hid; rw [hwr.out, World.drewN_drewN]⟩
              case measure => simp [intOf]; omega
          | false =>
            go_wp2_with fail
            go_quiet (fail)
            clear hw0 hw1
            go_wp2_with fail
            go_roundw
            case rel => exact ⟨k + 1, n + nq, false, by omega, by go_num, rfl, by unfold Hid; rw [HN.out]; rfl, by unfold Hid; rw [hwr.out, World.drewN_drewN]⟩
            case measure => simp [intOf]; omega
        · obtain rfl : k = xs.length - 1 := by omega
          have ht : decide (((xs.length - 1 : Nat) : Int) + 1 < (xs.length : Int)) = false := by simp; omega
          have HR : Hid (r = risingB xs) := hr
          have hx4 : Strs wr a3 c3 xs := by rw [hwr.out]; exact HX.out
          have B4 : Below w.heap.size w wr := by rw [hwr.out]; exact below_drewN B3 _
          have hrr : (risingB xs == r) = true := by rw [← HR.out]; simp
          clear hwr hr
          go_wp2_with fail
          refine (I1.out _).mono ?_
          rintro e w5 ⟨rfl, rfl⟩
          go_wp2_with fail
          refine (specBeforeIs s t _ hsm htm _ H1.out).mono ?_
          rintro e w6 ⟨rfl, n6, hw6⟩
          have B6 : Below w.heap.size w w6 := by rw [hw6]; exact below_drewN B4 _
          have hx6 : Strs w6 a3 c3 xs := by rw [hw6]; exact hx4
          clear hw6
          go_wp2_with fail
          refine (implRising a3 c3 xs w6 hx6).mono ?_
          rintro e w7 ⟨rfl, b7⟩
          go_wp2_with fail
          go_ret
          exact ⟨rfl, B6.trans (b7.mono B6.size)⟩

set_option maxRecDepth 100000 in
theorem liftedFnOrder (os : Os) (started : os.Started) (H : Type) (enc : TypeId × Value → H) :
    ReturnsInHanded {} Try.checked os 3 .any (Rows.fnOrderSpec.pre6 enc Try.prog Try.f3 Rows.fnOrderRow.domain false) (Rows.fnOrderSpec.post enc Try.prog Try.f3 false true false false) := by
  refine returnsInHanded_of_change (C := Try.checked) ownKnobs started (by kernel_rfl) Try.func3
    (ChangeSpec.witness6 (enc := enc) (C := Try.checked) false ⟨#[], #[.slice none 0 0], []⟩ 8 (by kernel_rfl) (by kernel_rfl) (by kernel_rfl) (by kernel_rfl)) ?_
  intro W base args ds gs before hval0 hW hcnd _
  have hval : ∀ (j : Nat) t v, Try.f3.params[j]? = some t → args[j]? = some v → Value.okWide Try.prog W .any base t v := hval0
  have hW' := hW
  obtain ⟨p, q, hA0, hV, rfl, hfz, hnd⟩ := hW
  have hA : DataW.TrodAll enc Try.prog W 0 (fun _ => true) true Try.f3.params.toList args.toList ds p := hA0
  rw [Try.params3] at hA hval
  obtain ⟨v0, vs0, d0, ds0, p0, q0, hargs, rfl, rfl, h0, r0⟩ := trodAll_cons hA
  obtain ⟨rfl, rfl, rfl⟩ := trodAll_nil r0
  obtain rfl : args = #[v0] := by cases args; simp_all
  obtain ⟨rfl, rfl⟩ := trodVars_none hV
  obtain ⟨a0, l0, c0, rfl⟩ := okWide_slice Try.underlying22 (hval 0 22 v0 rfl rfl)
  have k0 := h0
  have lt0 : ∀ x ∈ p0, x.block < W.heap.size := by obtain ⟨m, hm⟩ := k0; exact DataW.trod_lt m _ _ _ hm
  obtain ⟨x0, rfl, w0⟩ : ∃ xs : List UInt8, l0 = xs.length ∧ Bytes W a0 c0 xs := Bytes_of_trod h0
  clear hA0 hval0
  refine (walkFnOrder a0 c0 x0 W w0).mono fun e W' ⟨he, bel⟩ => ?_
  subst he
  exact ⟨_, rfl, _, _, _, [], _, [], hW', trodAll_mk1 (shut_bool Try.underlying4 _), (trodAll_cons_mk (Below.trod laidOutB0 (by kernel_rfl) (of_decide_eq_true (by kernel_rfl)) k0 bel lt0) trodAll_mk0), rfl, bel.frame _, fun h => by cases h⟩

theorem provedFnOrder : Rows.FnOrderSaid :=
  OpenClaim.holds_of_wide 3 Try.f3 rfl rfl rfl rfl rfl rfl rfl ⟨rfl, rfl, rfl, rfl, rfl⟩ rfl rfl rfl rfl rfl (by kernel_rfl) Try.func3 (by kernel_rfl)
    (of_decide_eq_true (by kernel_rfl)) (by unfold Func.isWrapper; first | (rw [if_pos (by decide +kernel)]; kernel_rfl) | (rw [if_neg (by decide +kernel)]; exact ⟨rfl, rfl⟩))
    (fun os started H enc _ => liftedFnOrder os started H enc)

#print axioms provedFnOrder
end Go.Proofs.Ytjnanlfahgjcbaa
