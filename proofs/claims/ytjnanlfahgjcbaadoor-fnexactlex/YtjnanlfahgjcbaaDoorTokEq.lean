/- The laws' own helpers over slices of words: the equality. -/
import Derived.Test.YtjnanlfahgjcbaaDoorToks
import Derived.Deep.RegionHeld3
import Derived.Deep.DrawnRows
namespace Go.Proofs.YtjnanlfahgjcbaaDoor
open Go.RowKit

set_option maxHeartbeats 400000 in
theorem eqTok (k : Int) (t : ByteArray) (p : Int) (w : World) :
    Calls Tryd.prog 34 #[.agg #[.int .i64 k, .string t, .int .i64 p], .agg #[.int .i64 k, .string t, .int .i64 p]] w fun e w' => e = .returned (.bool true) ∧ Below w.heap.size w w' := by
  have hk : (k != k) = false := by simp
  have hp : (p != p) = false := by simp
  have hs : (!(t.toList == t.toList)) = false := by simp
  go_enter Tryd.func34, Tryd.ntmps34
  go_wp2
  go_ret
  exact ⟨rfl, ((Below.refl _ _).alloc (Nat.le_refl _) _).alloc (by simp) _⟩

set_option maxHeartbeats 1000000 in
theorem eqToks (a a' : Option Addr) (c c' : Nat) (xs : List Tk) (w : World) (hx : Toks w a c xs) (hy : Toks w a' c' xs) :
    Calls Tryd.prog 16 #[.slice a xs.length c, .slice a' xs.length c'] w fun e w' => e = .returned (.bool true) ∧ Below w.heap.size w w' := by
  have hl := hx.len
  have hne : (((xs.length : Int)) != (xs.length : Int)) = false := by simp
  go_enter Tryd.func16, Tryd.ntmps16
  go_wp2
  go_loopw [5] (fun i wr => ∃ k : Nat, k ≤ xs.length ∧ i = .int .i64 k ∧ Below w.heap.size w wr) (fun i _ => xs.length - (intOf i).toNat)
  case atStart => exact ⟨0, Nat.zero_le _, rfl, Below.refl _ _⟩
  case round =>
    obtain ⟨k, hk, rfl, hbw⟩ := hrel
    by_cases hlt : k < xs.length
    · obtain ⟨b, off, rfl, hbl, hc0, hc1, hc2⟩ := (hx.below hbw).spot hlt
      obtain ⟨b', off', rfl, hbl', hd0, hd1, hd2⟩ := (hy.below hbw).spot hlt
      have h0k : (0 : Int) ≤ (k : Int) := by omega
      have hkl : (k : Int) < (xs.length : Int) := by omega
      go_wp2_with fail
      go_region_held3 (fun w' => w'.cell? ⟨b, off + k * 3, none⟩ = some (.int .i64 xs[k].kind) ∧ w'.cell? ⟨b, off + k * 3 + 1, none⟩ = some (.string xs[k].text) ∧ w'.cell? ⟨b, off + k * 3 + 2, none⟩ = some (.int .i64 xs[k].at_) ∧ w'.cell? ⟨b', off' + k * 3, none⟩ = some (.int .i64 xs[k].kind) ∧ w'.cell? ⟨b', off' + k * 3 + 1, none⟩ = some (.string xs[k].text) ∧ w'.cell? ⟨b', off' + k * 3 + 2, none⟩ = some (.int .i64 xs[k].at_)) (first | go_keep | exact ⟨(hcw _ _ hbl).trans hc0, (hcw _ _ hbl).trans hc1, (hcw _ _ hbl).trans hc2, (hcw _ _ hbl').trans hd0, (hcw _ _ hbl').trans hd1, (hcw _ _ hbl').trans hd2⟩)
        ((go_at_call 34; refine (eqTok xs[k].kind xs[k].text xs[k].at_ _).mono ?_; rintro e w2 ⟨rfl, hb2⟩; obtain ⟨hcw, _⟩ := bcell hb2))
      go_wp2_with fail
      go_roundw
      case rel => exact ⟨k + 1, by omega, by go_num, (below_drew hbw).trans (hb2.mono hbw.size)⟩
      case measure => simp [intOf]; omega
    · go_wp2
      go_ret
      exact ⟨rfl, hbw⟩

end Go.Proofs.YtjnanlfahgjcbaaDoor
