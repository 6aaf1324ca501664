/- The laws' own helpers over expressions: the size that is left. -/
import Derived.Test.YtefjjcoaeanagaaEx
namespace Go.Proofs.Ytefjjcoaeanagaa
open Go.RowKit

def leftN (n : Nat) (left : Int) : Int := if left < n then -1 else left - n

theorem leftN_le {n : Nat} (h : ¬ leftN n 1048576 < 0) : n ≤ 1048576 := by
  unfold leftN at h
  split at h
  · omega
  · omega

def SzP (d : Nat) : Prop := ∀ (e : Ex) (a : Option Addr) (c : Nat) (left : Int) (w : World), e.fit → KidsAt w d a c e.kids → 0 ≤ left → left ≤ 1048576 →
  Calls Try.prog 125 #[.agg #[.int .i64 e.kind, .string e.text, .int .i64 e.num, .slice a e.kids.length c], .int .i64 left] w fun x w' => x = .returned (.int .i64 (leftN e.wt left)) ∧ Below w.heap.size w w'

set_option maxHeartbeats 1000000 in
theorem szKids (d : Nat) (ih : SzP d) (a : Option Addr) (c : Nat) (xs : List Ex) (left : Int) (w : World) (hx : KidsAt w (d + 1) a c xs) (h0 : 0 ≤ left) (h1 : left ≤ 1048576) :
    Calls Try.prog 109 #[.slice a xs.length c, .int .i64 left] w fun e w' => e = .returned (.int .i64 (leftN (xs.length + wtL xs) left)) ∧ Below w.heap.size w w' := by
  have hl := hx.len
  by_cases hs : left < xs.length
  · have H : Hid (leftN (xs.length + wtL xs) left = -1) := by unfold Hid leftN; rw [if_pos (by omega)]
    go_enter Try.func109, Try.ntmps109
    go_wp2
    go_ret
    exact ⟨by rw [H.out]; rfl, Below.refl _ _⟩
  · have hs' : (xs.length : Int) ≤ left := by omega
    go_enter Try.func109, Try.ntmps109
    go_wp2
    go_loopw [1, 5] (fun l i wr => ∃ k : Nat, k ≤ xs.length ∧ i = .int .i64 k ∧ wtL (xs.take k) ≤ left - xs.length ∧ l = .int .i64 (left - xs.length - wtL (xs.take k)) ∧ Below w.heap.size w wr) (fun _ i _ => xs.length - (intOf i).toNat)
    case atStart => exact ⟨0, Nat.zero_le _, rfl, by simp [wtL]; omega, by simp [wtL], Below.refl _ _⟩
    case round =>
      obtain ⟨k, hk, rfl, hsm, rfl, hb⟩ := hrel
      by_cases hlt : k < xs.length
      · obtain ⟨b, off, rfl, hbl, hc0, hc1, hc2, hfit, a', c', hc3, hkid⟩ := (hx.below hb).spot hlt
        have HT := Lib.hid (wtL_take xs k hlt)
        have HL := Lib.hid (wtL_mono xs (k + 1))
        have HK := Lib.hid hkid
        clear hkid hx
        go_wp2_with fail
        refine (ih xs[k] a' c' (left - xs.length - wtL (xs.take k)) _ hfit HK.out (by omega) (by omega)).mono ?_
        by_cases hle : left - xs.length - wtL (xs.take k) < xs[k].wt
        · rw [show leftN xs[k].wt (left - xs.length - wtL (xs.take k)) = -1 from if_pos hle]
          rintro e w2 ⟨rfl, hb2⟩
          have H : Hid (leftN (xs.length + wtL xs) left = -1) := by unfold Hid leftN; rw [if_pos (by have := HT.out; have := HL.out; omega)]
          go_wp2_with fail
          go_ret
          exact ⟨by rw [H.out]; rfl, hb.trans (hb2.mono hb.size)⟩
        · rw [show leftN xs[k].wt (left - xs.length - wtL (xs.take k)) = left - xs.length - wtL (xs.take k) - xs[k].wt from if_neg hle]
          rintro e w2 ⟨rfl, hb2⟩
          go_wp2_with fail
          go_roundw
          case rel => exact ⟨k + 1, by omega, by go_num, by have := HT.out; omega, by rw [HT.out]; go_num, hb.trans (hb2.mono hb.size)⟩
          case measure => simp [intOf]; omega
      · obtain rfl : k = xs.length := by omega
        have H : Hid (leftN (xs.length + wtL xs) left = left - xs.length - wtL xs) := by
          unfold Hid leftN; rw [List.take_length] at hsm; rw [if_neg (by omega)]; omega
        go_wp2_with fail
        go_ret
        exact ⟨by rw [H.out, List.take_length]; rfl, hb⟩

set_option maxHeartbeats 1000000 in
theorem szEx : ∀ d, SzP d
  | 0 => fun _ _ _ _ _ _ h => h.elim
  | d + 1 => by
    intro e a c left w hfit hk h0 h1
    have hks := szKids d (szEx d) a c e.kids
    have ht : e.text.size ≤ 9223372036854775807 := by have := hfit.1; unfold maxLen at this; omega
    have hwt := Lib.hid (Ex.wt_eq e)
    have hn := hk.len
    have HK := Lib.hid (fun o => hk.below ((Below.refl w.heap.size w).alloc (Nat.le_refl _) o))
    clear hk
    by_cases hs : left - e.text.size < 0
    · have H : Hid (leftN e.wt left = -1) := by unfold Hid leftN; rw [if_pos (by have := hwt.out; omega)]
      go_enter Try.func125, Try.ntmps125
      go_wp2_with fail
      go_ret
      exact ⟨by rw [H.out]; rfl, (Below.refl _ _).alloc (Nat.le_refl _) _⟩
    · have hd : decide (left - (e.text.size : Int) < 0) = false := by simpa using hs
      go_enter Try.func125, Try.ntmps125
      go_wp2_with fail
      refine (hks (left - e.text.size) _ (HK.out _) (by omega) (by omega)).mono ?_
      by_cases hle : left - e.text.size < (e.kids.length + wtL e.kids : Nat)
      · rw [show leftN (e.kids.length + wtL e.kids) (left - e.text.size) = -1 from if_pos hle]
        rintro x w2 ⟨rfl, hb2⟩
        have H : Hid (leftN e.wt left = -1) := by unfold Hid leftN; rw [if_pos (by have := hwt.out; omega)]
        go_wp2_with fail
        go_ret
        exact ⟨by rw [H.out]; rfl, ((Below.refl _ _).alloc (Nat.le_refl _) _).trans (hb2.mono (by simp))⟩
      · rw [show leftN (e.kids.length + wtL e.kids) (left - e.text.size) = left - e.text.size - (e.kids.length + wtL e.kids : Nat) from if_neg hle]
        rintro x w2 ⟨rfl, hb2⟩
        have H : Hid (leftN e.wt left = left - e.text.size - (e.kids.length + wtL e.kids : Nat)) := by unfold Hid leftN; rw [if_neg (by have := hwt.out; omega)]; have := hwt.out; omega
        have hd2 : decide (left - (e.text.size : Int) - ((e.kids.length + wtL e.kids : Nat) : Int) < 0) = false := by simp; omega
        go_wp2_with fail
        go_ret
        exact ⟨by rw [H.out]; rfl, ((Below.refl _ _).alloc (Nat.le_refl _) _).trans (hb2.mono (by simp))⟩

end Go.Proofs.Ytefjjcoaeanagaa
