/- The laws' comparison of two slices of words. -/
import Derived.Test.YtjnanlfahgjcbaaDoorToks
import Derived.BigQuiet
namespace Go.Proofs.YtjnanlfahgjcbaaDoor
open Go.RowKit


set_option maxHeartbeats 2000000 in
/-- With places (pl): both slices hold the same words; without: words of the same kinds and texts. -/
theorem sameToks (a a' : Option Addr) (c c' : Nat) (xs ys : List Tk) (pl : Bool) (w : World) (hx : Toks w a c xs) (hy : Toks w a' c' ys) (hlen : ys.length = xs.length)
    (hsame : ∀ (k : Nat) (h : k < xs.length) (h' : k < ys.length), ys[k].kind = xs[k].kind ∧ ys[k].text = xs[k].text ∧ (pl = true → ys[k].at_ = xs[k].at_)) :
    Calls Tryd.prog 12 #[.slice a xs.length c, .slice a' ys.length c', .bool pl] w fun e w' => e = .returned (.bool true) ∧ Below w.heap.size w w' := by
  have hl := hx.len
  have hne : (((xs.length : Int)) != (xs.length : Int)) = false := by simp
  rw [hlen]
  go_enter Tryd.func12, Tryd.ntmps12
  go_wp2
  go_loopw [7] (fun i wr => ∃ k : Nat, k ≤ xs.length ∧ i = .int .i64 k ∧ Below w.heap.size w wr) (fun i _ => xs.length - (intOf i).toNat)
  case atStart => exact ⟨0, Nat.zero_le _, rfl, Below.refl _ _⟩
  case round =>
    obtain ⟨k, hk, rfl, hbw⟩ := hrel
    by_cases hlt : k < xs.length
    · have hlt' : k < ys.length := by omega
      obtain ⟨b, off, rfl, hbl, hc0, hc1, hc2⟩ := (hx.below hbw).spot hlt
      obtain ⟨b', off', rfl, hbl', hd0, hd1, hd2⟩ := (hy.below hbw).spot hlt'
      obtain ⟨e0, e1, e2⟩ := hsame k hlt hlt'
      rw [e0] at hd0
      rw [e1] at hd1
      have h0k : (0 : Int) ≤ (k : Int) := by omega
      have hkl : (k : Int) < (xs.length : Int) := by omega
      have q0 : (xs[k].kind != xs[k].kind) = false := by simp
      have q1 : (!(xs[k].text.toList == xs[k].text.toList)) = false := by simp
      have HS := Lib.hid hsame
      have HX := Lib.hid hx
      have HY := Lib.hid hy
      cases pl with
      | true =>
        rw [e2 rfl] at hd2
        have q2 : (xs[k].at_ != xs[k].at_) = false := by simp
        generalize xs[k].kind = kk at *
        generalize xs[k].text = tt at *
        generalize xs[k].at_ = pp at *
        clear hsame hx hy e0 e1 e2 hne
        go_wp2_with fail
        go_quiet (fail)
        go_wp2_with fail
        go_roundw
        case rel => exact ⟨k + 1, by omega, by go_num, below_drewN hbw _⟩
        case measure => simp [intOf]; omega
      | false =>
        generalize xs[k].kind = kk at *
        generalize xs[k].text = tt at *
        clear hsame hx hy e0 e1 e2 hne hc2 hd2
        go_wp2_with fail
        go_quiet (fail)
        go_wp2_with fail
        go_roundw
        case rel => exact ⟨k + 1, by omega, by go_num, below_drewN hbw _⟩
        case measure => simp [intOf]; omega
    · go_wp2
      go_ret
      exact ⟨rfl, hbw⟩

end Go.Proofs.YtjnanlfahgjcbaaDoor
