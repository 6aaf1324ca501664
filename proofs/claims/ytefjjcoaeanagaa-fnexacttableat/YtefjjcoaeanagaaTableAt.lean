/- impl.TableAt and spec.TableAt. Written by tools/gen_plan.py. -/
import Derived.Test.YtefjjcoaeanagaaPlAtTb
namespace Go.Proofs.Ytefjjcoaeanagaa
open Go.RowKit

set_option maxHeartbeats 1000000 in
theorem implTableAt (vs : List Value) (x : Pl) (n : ByteArray) (w : World) (hR : RPl 0 w vs x) :
    Calls Try.prog 10 #[.agg vs.toArray, .string n] w fun e w' => e = .returned (.int .i64 (findAt Tb.name x.tables n)) ∧ Below w.heap.size w w' := by
  obtain ⟨a0, c0, a1, c1, a2, c2, a3, c3, a4, c4, rfl, _, k0, k1, k2, k3, k4⟩ := hR
  have HK := Lib.hid (fun w' (hb : Below w.heap.size w w') => k2.kept goodTb (Kept.below hb))
  clear k0 k1 k2 k3 k4
  go_enter Try.func10, Try.ntmps10
  go_wp2_with fail
  refine (placeTb a2 c2 x.tables n _ (HK.out _ (by ((repeat (first | refine Below.alloc ?_ (by first | omega | (simp; done) | (simp; omega)) _ | refine Below.setCell ?_ (by first | omega | (simp; done) | (simp; omega)) _)); first | exact Below.refl _ _ | exact Below.refl _ _)))).mono ?_
  rintro e w2 ⟨rfl, b2⟩
  have B2 := Lib.hid (show Below w.heap.size w w2 from Below.call b2 (by ((repeat (first | refine Below.alloc ?_ (by first | omega | (simp; done) | (simp; omega)) _ | refine Below.setCell ?_ (by first | omega | (simp; done) | (simp; omega)) _)); first | exact Below.refl _ _ | exact Below.refl _ _)))
  clear b2
  go_wp2_with fail
  go_ret
  exact ⟨rfl, B2.out⟩

set_option maxHeartbeats 1000000 in
theorem specTableAt (vs : List Value) (x : Pl) (n : ByteArray) (w : World) (hR : RPl 0 w vs x) :
    Calls Try.prog 14 #[.agg vs.toArray, .string n] w fun e w' => e = .returned (.int .i64 (findAt Tb.name x.tables n)) ∧ Below w.heap.size w w' := by
  obtain ⟨a0, c0, a1, c1, a2, c2, a3, c3, a4, c4, rfl, _, k0, k1, k2, k3, k4⟩ := hR
  have hl := k2.len
  have HK := Lib.hid (fun w' (hb : Below w.heap.size w w') => k2.kept goodTb (Kept.below hb))
  have HB0 := Lib.hid (fun T => blk_new w T [.slice a0 x.enums.length c0, .slice a1 x.seqs.length c1, .slice a2 x.tables.length c2, .slice a3 x.indexes.length c3, .slice a4 x.views.length c4, .int .i64 x.next])
  clear k0 k1 k2 k3 k4
  go_enter Try.func14, Try.ntmps14
  go_wp2_with fail
  go_loopw [5] (fun i wr => ∃ k : Nat, k ≤ x.tables.length ∧ i = .int .i64 k ∧ Hid (∀ m (hm : m < x.tables.length), m < k → (x.tables[m].name.toList == n.toList) = false) ∧ Blk wr w.heap.size [.slice a0 x.enums.length c0, .slice a1 x.seqs.length c1, .slice a2 x.tables.length c2, .slice a3 x.indexes.length c3, .slice a4 x.views.length c4, .int .i64 x.next] ∧ Below w.heap.size w wr) (fun i _ => x.tables.length - (intOf i).toNat)
  case atStart => exact ⟨0, Nat.zero_le _, rfl, fun m h hm => absurd hm (by omega), HB0.out _, (Below.refl _ _).alloc (Nat.le_refl _) _⟩
  case round =>
    obtain ⟨k, hk, rfl, hall, hblk, hb⟩ := hrel
    have g2 : wr.cell? ⟨w.heap.size, 2, none⟩ = some (.slice a2 x.tables.length c2) := (hblk.2 2 (by simp)).1
    by_cases hlt : k < x.tables.length
    · obtain ⟨b, off, us, rfl, hbl, hcs, hR⟩ := (HK.out _ hb).spot hlt
      obtain ⟨p0, q0, p1, q1, rfl, _⟩ := hR
      have hc0 : wr.cell? ⟨b, off + k * 4, none⟩ = some (.string x.tables[k].name) := hcs 0 (by simp)
      clear hcs
      cases he : (x.tables[k].name.toList == n.toList) with
      | true =>
        have HE := Lib.hid (findAt_hit Tb.name x.tables n k hlt hall.out he)
        go_wp2_with fail
        go_ret
        exact ⟨by rw [HE.out]; rfl, hb⟩
      | false =>
        have HE := Lib.hid he
        go_wp2_with fail
        go_roundw
        case rel => exact ⟨k + 1, by omega, by go_num, fun m hm h1 => by
          rcases Nat.lt_or_ge m k with h2 | h2
          · exact hall.out m hm h2
          · obtain rfl : m = k := by omega
            exact HE.out, hblk, hb⟩
        case measure => simp [intOf]; omega
    · have HE := Lib.hid (findAt_miss Tb.name x.tables n fun m hm => hall.out m hm (by omega))
      go_wp2_with fail
      go_ret
      exact ⟨by rw [HE.out]; rfl, hb⟩

end Go.Proofs.Ytefjjcoaeanagaa
