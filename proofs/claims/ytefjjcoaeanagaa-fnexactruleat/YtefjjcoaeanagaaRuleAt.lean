/- impl.RuleAt and spec.RuleAt. Written by tools/gen_plan.py. -/
import Derived.Test.YtefjjcoaeanagaaPlAtRu
namespace Go.Proofs.Ytefjjcoaeanagaa
open Go.RowKit

set_option maxHeartbeats 1000000 in
theorem implRuleAt (vs : List Value) (x : Tb) (n : ByteArray) (w : World) (hR : RTb 0 w vs x) :
    Calls Try.prog 19 #[.agg vs.toArray, .string n] w fun e w' => e = .returned (.int .i64 (findAt Ru.name x.rules n)) ∧ Below w.heap.size w w' := by
  obtain ⟨a0, c0, a1, c1, rfl, _, k0, k1⟩ := hR
  have HK := Lib.hid (fun w' (hb : Below w.heap.size w w') => k1.kept goodRu (Kept.below hb))
  clear k0 k1
  go_enter Try.func19, Try.ntmps19
  go_wp2_with fail
  refine (placeRu a1 c1 x.rules n _ (HK.out _ (by ((repeat (first | refine Below.alloc ?_ (by first | omega | (simp; done) | (simp; omega)) _ | refine Below.setCell ?_ (by first | omega | (simp; done) | (simp; omega)) _)); first | exact Below.refl _ _ | exact Below.refl _ _)))).mono ?_
  rintro e w2 ⟨rfl, b2⟩
  have B2 := Lib.hid (show Below w.heap.size w w2 from Below.call b2 (by ((repeat (first | refine Below.alloc ?_ (by first | omega | (simp; done) | (simp; omega)) _ | refine Below.setCell ?_ (by first | omega | (simp; done) | (simp; omega)) _)); first | exact Below.refl _ _ | exact Below.refl _ _)))
  clear b2
  go_wp2_with fail
  go_ret
  exact ⟨rfl, B2.out⟩

set_option maxHeartbeats 1000000 in
theorem specRuleAt (vs : List Value) (x : Tb) (n : ByteArray) (w : World) (hR : RTb 0 w vs x) :
    Calls Try.prog 20 #[.agg vs.toArray, .string n] w fun e w' => e = .returned (.int .i64 (findAt Ru.name x.rules n)) ∧ Below w.heap.size w w' := by
  obtain ⟨a0, c0, a1, c1, rfl, _, k0, k1⟩ := hR
  have hl := k1.len
  have HK := Lib.hid (fun w' (hb : Below w.heap.size w w') => k1.kept goodRu (Kept.below hb))
  have HB0 := Lib.hid (fun T => blk_new w T [.string x.name, .slice a0 x.cols.length c0, .slice a1 x.rules.length c1, .int .i64 x.token])
  clear k0 k1
  go_enter Try.func20, Try.ntmps20
  go_wp2_with fail
  go_loopw [5] (fun i wr => ∃ k : Nat, k ≤ x.rules.length ∧ i = .int .i64 k ∧ Hid (∀ m (hm : m < x.rules.length), m < k → (x.rules[m].name.toList == n.toList) = false) ∧ Blk wr w.heap.size [.string x.name, .slice a0 x.cols.length c0, .slice a1 x.rules.length c1, .int .i64 x.token] ∧ Below w.heap.size w wr) (fun i _ => x.rules.length - (intOf i).toNat)
  case atStart => exact ⟨0, Nat.zero_le _, rfl, fun m h hm => absurd hm (by omega), HB0.out _, (Below.refl _ _).alloc (Nat.le_refl _) _⟩
  case round =>
    obtain ⟨k, hk, rfl, hall, hblk, hb⟩ := hrel
    have g2 : wr.cell? ⟨w.heap.size, 2, none⟩ = some (.slice a1 x.rules.length c1) := (hblk.2 2 (by simp)).1
    by_cases hlt : k < x.rules.length
    · obtain ⟨b, off, us, rfl, hbl, hcs, hR⟩ := (HK.out _ hb).spot hlt
      obtain ⟨p0, q0, p1, q1, p2, q2, rfl, _⟩ := hR
      have hc0 : wr.cell? ⟨b, off + k * 6, none⟩ = some (.string x.rules[k].name) := hcs 0 (by simp)
      clear hcs
      cases he : (x.rules[k].name.toList == n.toList) with
      | true =>
        have HE := Lib.hid (findAt_hit Ru.name x.rules n k hlt hall.out he)
        go_wp2_with fail
        go_ret
        exact ⟨by rw [HE.out]; rfl, hb⟩
      | false =>
        have HE := Lib.hid he
        go_wp2_with fail
        go_roundw
        case rel => exact ⟨k + 1, by omega, by go_num, fun m hm h1 => by
          rcases Nat.lt_or_ge m k with h2 | h2
          · exact hall.out m hm h2
          · obtain rfl : m = k := by omega
            exact HE.out, hblk, hb⟩
        case measure => simp [intOf]; omega
    · have HE := Lib.hid (findAt_miss Ru.name x.rules n fun m hm => hall.out m hm (by omega))
      go_wp2_with fail
      go_ret
      exact ⟨by rw [HE.out]; rfl, hb⟩

end Go.Proofs.Ytefjjcoaeanagaa
