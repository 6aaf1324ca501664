/- impl.ColAt, spec.l05Col and spec.ColAt. Written by tools/gen_plan.py. -/
import Derived.Test.YtefjjcoaeanagaaPlAtCo
namespace Go.Proofs.Ytefjjcoaeanagaa
open Go.RowKit

set_option maxHeartbeats 1000000 in
theorem implColAt (vs : List Value) (x : Tb) (n : ByteArray) (w : World) (hR : RTb 0 w vs x) :
    Calls Try.prog 17 #[.agg vs.toArray, .string n] w fun e w' => e = .returned (.int .i64 (findAt Co.name x.cols n)) ∧ Below w.heap.size w w' := by
  obtain ⟨a0, c0, a1, c1, rfl, _, k0, k1⟩ := hR
  have HK := Lib.hid (fun w' (hb : Below w.heap.size w w') => k0.kept goodCo (Kept.below hb))
  clear k0 k1
  go_enter Try.func17, Try.ntmps17
  go_wp2_with fail
  refine (placeCo a0 c0 x.cols n _ (HK.out _ (by (repeat (first | exact Below.refl _ _ | exact Below.refl _ _ | refine Below.alloc ?_ (by first | omega | (simp; done) | (simp; omega)) _ | refine Below.setCell ?_ (by first | omega | (simp; done) | (simp; omega)) _))))).mono ?_
  rintro e w2 ⟨rfl, b2⟩
  have B2 := Lib.hid (show Below w.heap.size w w2 from Below.call b2 (by (repeat (first | exact Below.refl _ _ | exact Below.refl _ _ | refine Below.alloc ?_ (by first | omega | (simp; done) | (simp; omega)) _ | refine Below.setCell ?_ (by first | omega | (simp; done) | (simp; omega)) _))))
  clear b2
  go_wp2_with fail
  go_ret
  exact ⟨rfl, B2.out⟩

set_option maxHeartbeats 1000000 in
theorem specCol (a : Option Addr) (c : Nat) (xs : List Co) (n : ByteArray) (w : World) (hx : Sl 6 RCo 0 w a c xs) :
    Calls Try.prog 38 #[.slice a xs.length c, .string n] w fun e w' => e = .returned (.int .i64 (findAt Co.name xs n)) ∧ Below w.heap.size w w' := by
  have hl := hx.len
  have HK := Lib.hid (fun w' (hb : Below w.heap.size w w') => hx.kept goodCo (Kept.below hb))
  clear hx
  go_enter Try.func38, Try.ntmps38
  go_wp2_with fail
  go_loopw [5] (fun i wr => ∃ k : Nat, k ≤ xs.length ∧ i = .int .i64 k ∧ Hid (∀ m (hm : m < xs.length), m < k → (xs[m].name.toList == n.toList) = false) ∧ Below w.heap.size w wr) (fun i _ => xs.length - (intOf i).toNat)
  case atStart => exact ⟨0, Nat.zero_le _, rfl, fun m h hm => absurd hm (by omega), Below.refl _ _⟩
  case round =>
    obtain ⟨k, hk, rfl, hall, hb⟩ := hrel
    by_cases hlt : k < xs.length
    · obtain ⟨b, off, us, rfl, hbl, hcs, hR⟩ := (HK.out _ hb).spot hlt
      obtain ⟨p0, q0, rfl, _⟩ := hR
      have hc0 : wr.cell? ⟨b, off + k * 6, none⟩ = some (.string xs[k].name) := hcs 0 (by simp)
      clear hcs
      cases he : (xs[k].name.toList == n.toList) with
      | true =>
        have HE := Lib.hid (findAt_hit Co.name xs n k hlt hall.out he)
        go_wp2_with fail
        go_ret
        exact ⟨by rw [HE.out]; rfl, hb⟩
      | false =>
        have HE := Lib.hid he
        go_wp2_with fail
        go_roundw
        case rel => exact ⟨k + 1, by omega, by go_num, fun m hm h1 => by
          rcases Nat.lt_or_ge m k with h2 | h2
          · exact hall.out m hm h2
          · obtain rfl : m = k := by omega
            exact HE.out, hb⟩
        case measure => simp [intOf]; omega
    · have HE := Lib.hid (findAt_miss Co.name xs n fun m hm => hall.out m hm (by omega))
      go_wp2_with fail
      go_ret
      exact ⟨by rw [HE.out]; rfl, hb⟩

set_option maxHeartbeats 1000000 in
theorem specColAt (vs : List Value) (x : Tb) (n : ByteArray) (w : World) (hR : RTb 0 w vs x) :
    Calls Try.prog 18 #[.agg vs.toArray, .string n] w fun e w' => e = .returned (.int .i64 (findAt Co.name x.cols n)) ∧ Below w.heap.size w w' := by
  obtain ⟨a0, c0, a1, c1, rfl, _, k0, k1⟩ := hR
  have HK := Lib.hid (fun w' (hb : Below w.heap.size w w') => k0.kept goodCo (Kept.below hb))
  clear k0 k1
  go_enter Try.func18, Try.ntmps18
  go_wp2_with fail
  refine (specCol a0 c0 x.cols n _ (HK.out _ (by (repeat (first | exact Below.refl _ _ | exact Below.refl _ _ | refine Below.alloc ?_ (by first | omega | (simp; done) | (simp; omega)) _ | refine Below.setCell ?_ (by first | omega | (simp; done) | (simp; omega)) _))))).mono ?_
  rintro e w2 ⟨rfl, b2⟩
  have B2 := Lib.hid (show Below w.heap.size w w2 from Below.call b2 (by (repeat (first | exact Below.refl _ _ | exact Below.refl _ _ | refine Below.alloc ?_ (by first | omega | (simp; done) | (simp; omega)) _ | refine Below.setCell ?_ (by first | omega | (simp; done) | (simp; omega)) _))))
  clear b2
  go_wp2_with fail
  go_ret
  exact ⟨rfl, B2.out⟩

end Go.Proofs.Ytefjjcoaeanagaa
