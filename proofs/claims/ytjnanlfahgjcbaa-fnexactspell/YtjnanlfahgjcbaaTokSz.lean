/- The laws' own helpers over slices of words: the size that is left. -/
import Derived.Test.YtjnanlfahgjcbaaToks
namespace Go.Proofs.Ytjnanlfahgjcbaa
open Go.RowKit

def tlets (xs : List Tk) : Nat := (xs.map fun x => x.text.size).sum

theorem tlets_take (xs : List Tk) (k : Nat) (h : k < xs.length) : tlets (xs.take (k + 1)) = tlets (xs.take k) + xs[k].text.size := by
  unfold tlets
  rw [List.take_succ_eq_append_getElem h, List.map_append, List.sum_append]
  simp only [List.map_cons, List.map_nil, List.sum_cons, List.sum_nil, Nat.add_zero]

theorem tlets_le (xs : List Tk) (k : Nat) : tlets (xs.take k) ≤ tlets xs := by
  unfold tlets
  conv => rhs; rw [← List.take_append_drop k xs, List.map_append, List.sum_append]
  omega

theorem tlets_mem {xs : List Tk} {x : Tk} (h : x ∈ xs) : x.text.size ≤ tlets xs := by
  unfold tlets
  induction xs with
  | nil => simp at h
  | cons y r ih =>
    simp only [List.map_cons, List.sum_cons]
    rcases List.mem_cons.1 h with rfl | h
    · omega
    · have := ih h; omega

def leftT (xs : List Tk) (left : Int) : Int := if left < xs.length + tlets xs then -1 else left - xs.length - tlets xs

theorem leftT_le {xs : List Tk} (h : ¬ leftT xs 1048576 < 0) : xs.length + tlets xs ≤ 1048576 := by
  unfold leftT at h
  split at h
  · omega
  · omega

set_option maxHeartbeats 400000 in
theorem szTok (k : Int) (t : ByteArray) (p : Int) (left : Int) (w : World) (ht : t.size ≤ 9223372036854775807) (h0 : 0 ≤ left) (h1 : left ≤ 1048576) :
    Calls Try.prog 28 #[.agg #[.int .i64 k, .string t, .int .i64 p], .int .i64 left] w fun e w' => e = .returned (.int .i64 (if left < t.size then -1 else left - t.size)) ∧ Below w.heap.size w w' := by
  by_cases h : left - t.size < 0
  · go_enter Try.func28, Try.ntmps28
    go_wp2
    go_ret
    exact ⟨rfl, (Below.refl _ _).alloc (Nat.le_refl _) _⟩
  · go_enter Try.func28, Try.ntmps28
    go_wp2
    go_ret
    exact ⟨rfl, (Below.refl _ _).alloc (Nat.le_refl _) _⟩

set_option maxHeartbeats 1000000 in
theorem szToks (a : Option Addr) (c : Nat) (xs : List Tk) (left : Int) (w : World) (hx : Toks w a c xs) (h0 : 0 ≤ left) (h1 : left ≤ 1048576) :
    Calls Try.prog 14 #[.slice a xs.length c, .int .i64 left] w fun e w' => e = .returned (.int .i64 (leftT xs left)) ∧ Below w.heap.size w w' := by
  have hl := hx.len
  by_cases hs : left < xs.length
  · have H : Hid (leftT xs left = -1) := by unfold Hid leftT; rw [if_pos (by omega)]
    go_enter Try.func14, Try.ntmps14
    go_wp2
    go_ret
    exact ⟨by rw [H.out]; rfl, Below.refl _ _⟩
  · have hs' : (xs.length : Int) ≤ left := by omega
    go_enter Try.func14, Try.ntmps14
    go_wp2
    go_loopw [1, 5] (fun l i wr => ∃ k : Nat, k ≤ xs.length ∧ i = .int .i64 k ∧ tlets (xs.take k) ≤ left - xs.length ∧ l = .int .i64 (left - xs.length - tlets (xs.take k)) ∧ Below w.heap.size w wr) (fun _ i _ => xs.length - (intOf i).toNat)
    case atStart => exact ⟨0, Nat.zero_le _, rfl, by simp [tlets]; omega, by simp [tlets], Below.refl _ _⟩
    case round =>
      obtain ⟨k, hk, rfl, hsm, rfl, hb⟩ := hrel
      by_cases hlt : k < xs.length
      · obtain ⟨b, off, rfl, hbl, hc0, hc1, hc2⟩ := (hx.below hb).spot hlt
        have ht := hx.text hlt
        have HT := Lib.hid (tlets_take xs k hlt)
        have HL := Lib.hid (tlets_le xs (k + 1))
        go_wp2_with fail
        refine (szTok xs[k].kind xs[k].text xs[k].at_ (left - xs.length - tlets (xs.take k)) _ ht (by omega) (by omega)).mono ?_
        by_cases hle : left - xs.length - tlets (xs.take k) < xs[k].text.size
        · rw [if_pos hle]
          rintro e w2 ⟨rfl, hb2⟩
          have H : Hid (leftT xs left = -1) := by unfold Hid leftT; rw [if_pos (by have := HT.out; have := HL.out; omega)]
          go_wp2_with fail
          go_ret
          exact ⟨by rw [H.out]; rfl, hb.trans (hb2.mono hb.size)⟩
        · rw [if_neg hle]
          rintro e w2 ⟨rfl, hb2⟩
          go_wp2_with fail
          go_roundw
          case rel => exact ⟨k + 1, by omega, by go_num, by have := HT.out; omega, by rw [HT.out]; go_num, hb.trans (hb2.mono hb.size)⟩
          case measure => simp [intOf]; omega
      · obtain rfl : k = xs.length := by omega
        have H : Hid (leftT xs left = left - xs.length - tlets xs) := by
          unfold Hid leftT; rw [List.take_length] at hsm; rw [if_neg (by omega)]
        go_wp2_with fail
        go_ret
        exact ⟨by rw [H.out, List.take_length]; rfl, hb⟩

end Go.Proofs.Ytjnanlfahgjcbaa
