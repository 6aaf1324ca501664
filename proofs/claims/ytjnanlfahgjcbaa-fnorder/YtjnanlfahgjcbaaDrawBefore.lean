/- The draw of two texts. -/
import Derived.Test.YtjnanlfahgjcbaaDrawT2
namespace Go.Proofs.Ytjnanlfahgjcbaa
open Go.RowKit

def texts3 : List ByteArray := [⟨#[]⟩, ⟨#[97]⟩, ⟨#[46]⟩]
theorem texts3_small : ∀ s ∈ texts3, s.size ≤ 1 := by unfold texts3; decide

theorem append_size2 (a b : ByteArray) : (a ++ b).size = a.size + b.size := by simp

set_option maxRecDepth 100000 in
set_option maxHeartbeats 2000000 in
theorem specDrawBefore (a : Option Addr) (c : Nat) (l : List UInt8) (w : World) (hb : Bytes w a c l) (hs : l.length ≤ 1048576) :
    Calls Try.prog 7 #[.slice a l.length c] w fun e w' => ∃ s t : ByteArray, e = .returned (.tuple #[.string s, .string t]) ∧ s.size ≤ 10 ∧ t.size ≤ 10 ∧ Below w.heap.size w w' := by
  go_enter Try.func7, Try.ntmps7
  go_wp2_with fail
  refine (l01New a c l w hb hs).mono ?_
  rintro e w1 ⟨rfl, hd1, hb1, hzz⟩
  clear hzz
  have hs1 := hb1.size
  go_wp2_with fail
  refine (l01Below hd1 4 (by omega) (by omega)).mono ?_
  rintro e w2 ⟨v, ⟨x, rfl, hx0, hx1⟩, rfl, hd2, hg2⟩
  obtain ⟨n, rfl⟩ := Int.eq_ofNat_of_zero_le hx0
  have B2 : Below w.heap.size w w2 := hb1.grown hg2 hs1 (fun k hk => by cases hk; exact Nat.le_refl _)
  clear hg2
  go_wp2_with fail
  refine (l01Text hd2 n (by omega)).mono ?_
  rintro e w3 ⟨v, ⟨s, rfl, hsz⟩, rfl, hd3, hg3⟩
  have B3 : Below w.heap.size w w3 := B2.grown hg3 B2.size (fun k hk => by cases hk; exact Nat.le_refl _)
  have hs10 : s.size ≤ 3 := by omega
  clear hg3 hsz
  go_wp2_with fail
  refine (l01Once hd3 3 (by omega) (by omega)).mono ?_
  rintro e w4 ⟨v, ⟨b, rfl⟩, rfl, hd4, hg4⟩
  have B4 : Below w.heap.size w w4 := B3.grown hg4 B3.size (fun k hk => by cases hk; exact Nat.le_refl _)
  have B4s := B4.size
  clear hg4
  cases b with
  | true =>
    go_wp2_with fail
    refine (pickLit hd4 texts3 3 rfl (fun s hs' => by have := texts3_small s hs'; unfold maxLen; omega) (by decide) (by decide) _ rfl).mono ?_
    rintro e w5 ⟨v, ⟨u, rfl, hu⟩, rfl, hd5, hg5⟩
    have hus := texts3_small u hu
    have hadd : ¬ (9223372036854775807 < s.size + u.size) := by omega
    have B5 : Below w.heap.size w w5 := (B4.alloc B4s _).grown hg5 (by simp; omega) (fun k hk => by cases hk; exact Nat.le_refl _)
    clear hg5
    go_wp2_with fail
    go_ret2
    exact ⟨s, s ++ u, rfl, by omega, by rw [append_size2]; omega, B5⟩
  | false =>
    go_wp2_with fail
    refine (l01Below hd4 4 (by omega) (by omega)).mono ?_
    rintro e w5 ⟨v, ⟨x, rfl, hx2, hx3⟩, rfl, hd5, hg5⟩
    obtain ⟨m, rfl⟩ := Int.eq_ofNat_of_zero_le hx2
    have B5 : Below w.heap.size w w5 := B4.grown hg5 B4s (fun k hk => by cases hk; exact Nat.le_refl _)
    clear hg5
    go_wp2_with fail
    refine (l01Text hd5 m (by omega)).mono ?_
    rintro e w6 ⟨v, ⟨t, rfl, htz⟩, rfl, hd6, hg6⟩
    have B6 : Below w.heap.size w w6 := B5.grown hg6 B5.size (fun k hk => by cases hk; exact Nat.le_refl _)
    go_wp2_with fail
    go_ret2
    exact ⟨s, t, rfl, by omega, by omega, B6⟩

end Go.Proofs.Ytjnanlfahgjcbaa
