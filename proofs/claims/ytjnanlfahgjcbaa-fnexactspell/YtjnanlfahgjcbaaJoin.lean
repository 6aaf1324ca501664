/- spec.Join and impl.Join (over strings.Join) both answer the texts with another between them. -/
import Derived.Test.YtjnanlfahgjcbaaLets
import Derived.Test.YtjnanlfahgjcbaaBytes
import Derived.Test.YtjnanlfahgjcbaaShelf
import Derived.Lib.Join
namespace Go.Proofs.Ytjnanlfahgjcbaa
open Go.RowKit

def joinL (xs : List ByteArray) (by_ : ByteArray) : List UInt8 := Lib.join (xs.map (·.data.toList)) by_.data.toList
def joinT (xs : List ByteArray) (by_ : ByteArray) : ByteArray := ⟨(joinL xs by_).toArray⟩

theorem join_snoc (l : List (List UInt8)) (x sep : List UInt8) (h : l ≠ []) : Lib.join (l ++ [x]) sep = Lib.join l sep ++ sep ++ x := by
  cases l with
  | nil => exact absurd rfl h
  | cons y r =>
    rw [List.cons_append, Lib.join_cons, Lib.join_cons]
    simp [Lib.joinTail]

theorem joinL_first (xs : List ByteArray) (b : ByteArray) (k : Nat) (h0 : k = 0) (h : k < xs.length) : joinL (xs.take (k + 1)) b = joinL (xs.take k) b ++ xs[k].data.toList := by
  subst h0
  unfold joinL
  rw [List.take_succ_eq_append_getElem h]
  simp [Lib.join_one, Lib.join_nil]

theorem joinL_next (xs : List ByteArray) (b : ByteArray) (k : Nat) (h0 : 0 < k) (h : k < xs.length) : joinL (xs.take (k + 1)) b = joinL (xs.take k) b ++ b.data.toList ++ xs[k].data.toList := by
  unfold joinL
  rw [List.take_succ_eq_append_getElem h, List.map_append]
  refine join_snoc _ _ _ ?_
  intro he
  have hlen : ((xs.take k).map (·.data.toList)).length = k := by rw [List.length_map, List.length_take_of_le (by omega)]
  rw [he] at hlen
  simp at hlen
  omega

theorem joinL_len (xs : List ByteArray) (b : ByteArray) : ∀ k, k ≤ xs.length → (joinL (xs.take k) b).length ≤ lets (xs.take k) + k * b.size
  | 0, _ => by simp [joinL, Lib.join_nil]
  | k + 1, h => by
    have ih := joinL_len xs b k (by omega)
    rw [lets_take xs k (by omega)]
    have hb : b.data.toList.length = b.size := by simp
    have hx : xs[k].data.toList.length = xs[k].size := by simp
    rcases Nat.eq_zero_or_pos k with hp | hp
    · rw [joinL_first xs b k hp (by omega), List.length_append, hx, Nat.succ_mul]
      omega
    · rw [joinL_next xs b k hp (by omega), List.length_append, List.length_append, hb, hx, Nat.succ_mul]
      omega

set_option maxHeartbeats 1000000 in
theorem specJoin (a : Option Addr) (c : Nat) (xs : List ByteArray) (s : ByteArray) (w : World) (hx : Strs w a c xs) (hJ : lets xs + xs.length * s.size ≤ 70368744177664) :
    Calls Try.prog 29 #[.slice a xs.length c, .string s] w fun e w' => e = .returned (.string (joinT xs s)) ∧ Below w.heap.size w w' := by
  obtain ⟨i0, hi0, hz0, hz1, hz2⟩ := info_parts Try.infoByte
  have hl := hx.len
  go_enter Try.func29, Try.ntmps29
  go_wp2
  go_loopw [5, 6] (fun v i wr => ∃ (k : Nat) (a1 : Option Addr) (c1 : Nat), k ≤ xs.length ∧ i = .int .i64 k ∧ v = .slice a1 (joinL (xs.take k) s).length c1 ∧ OwnB wr w.heap.size a1 c1 (joinL (xs.take k) s) ∧ Below w.heap.size w wr) (fun _ i _ => xs.length - (intOf i).toNat)
  case atStart => exact ⟨0, _, _, Nat.zero_le _, rfl, rfl, ownBEmpty w, (Below.refl _ _).alloc (Nat.le_refl _) _⟩
  case round =>
    obtain ⟨k, a1, c1, hk, rfl, rfl, hown, hb⟩ := hrel
    have hsz := hb.size
    have hlk : (joinL (xs.take k) s).length ≤ 70368744177664 := by
      have h1 := joinL_len xs s k hk
      have h2 := lets_le xs k
      have h3 : k * s.size ≤ xs.length * s.size := Nat.mul_le_mul_right _ hk
      omega
    by_cases hlt : k < xs.length
    · obtain ⟨b, off, rfl, hbl, hc⟩ := (hx.below hb).spot hlt
      have hxs : xs[k].size ≤ 70368744177664 := by have := lets_mem (List.getElem_mem hlt); omega
      have hss : s.size ≤ 70368744177664 := by
        have : 1 * s.size ≤ xs.length * s.size := Nat.mul_le_mul_right _ (by omega)
        omega
      have hlk1 : (joinL (xs.take (k + 1)) s).length ≤ 70368744177664 := by
        have h1 := joinL_len xs s (k + 1) (by omega)
        have h2 := lets_le xs (k + 1)
        have h3 : (k + 1) * s.size ≤ xs.length * s.size := Nat.mul_le_mul_right _ (by omega)
        omega
      rcases Nat.eq_zero_or_pos k with h0 | h0
      · have HS := Lib.hid (joinL_first xs s k h0 hlt)
        have ht : decide (0 < k) = false := by simp; omega
        have Hk := Lib.hid h0
        clear h0
        go_wp2_with (at_builtin; refine wpAppendText rfl (.tmp 19) (.tmp 23) rfl i0 hi0 hz0 hz1 hz2 w.heap.size a1 c1 _ xs[k] rfl hown rfl (by omega) hsz ?_; intro a2 c2 w2 hown2 hg2)
        have hb2 : Below w.heap.size w w2 := hb.grown hg2 hsz (fun q hq => (hown.lt hq).1)
        go_roundw
        case rel => exact ⟨k + 1, a2, c2, by omega, by go_num, by rw [HS.out, List.length_append]; simp, by rw [HS.out]; exact hown2, hb2⟩
        case measure => simp [intOf]; omega
      · have HS := Lib.hid (joinL_next xs s k h0 hlt)
        have hsum : (joinL (xs.take k) s).length + s.size + xs[k].size ≤ 70368744177664 := by
          have h := hlk1
          rw [HS.out, List.length_append, List.length_append] at h
          simpa using h
        go_wp2_with (first
          | ((at_builtin; refine wpAppendText rfl (.tmp 16) (.tmp 17) rfl i0 hi0 hz0 hz1 hz2 w.heap.size a1 c1 _ s rfl hown rfl (by omega) hsz ?_; intro a2 c2 w2 hown2 hg2); (have hb2 : Below w.heap.size w w2 := hb.grown hg2 hsz (fun q hq => (hown.lt hq).1)); (have hsz2 := hb2.size); (have hc2 := (hx.below hb2).spot hlt); (have hc2' : w2.cell? ⟨b, off + k, none⟩ = some (.string xs[k]) := by obtain ⟨b', off', he', _, h⟩ := hc2; cases he'; exact h); clear hc2)
          | (at_builtin; refine wpAppendText rfl (.tmp 19) (.tmp 23) rfl i0 hi0 hz0 hz1 hz2 w.heap.size a2 c2 (joinL (xs.take k) s ++ s.data.toList) xs[k] (by simp [go_sem]) hown2 rfl (by simp; omega) hsz2 ?_; intro a3 c3 w3 hown3 hg3))
        have hb3 : Below w.heap.size w w3 := hb2.grown hg3 hsz2 (fun q hq => (hown2.lt hq).1)
        go_roundw
        case rel => exact ⟨k + 1, a3, c3, by omega, by go_num, by rw [HS.out, List.length_append, List.length_append]; simp [Nat.add_assoc], by rw [HS.out]; exact hown3, hb3⟩
        case measure => simp [intOf]; omega
    · obtain rfl : k = xs.length := by omega
      rw [List.take_length] at hown ⊢
      have hcv := convBytes hown
      go_wp2
      go_ret
      exact ⟨rfl, hb⟩

theorem implJoin (a : Option Addr) (c : Nat) (xs : List ByteArray) (s : ByteArray) (w : World) (hx : Strs w a c xs) (hJ : lets xs + xs.length * s.size ≤ 70368744177664) (hn : xs.length ≤ 140737488355328) :
    Calls Try.prog 31 #[.slice a xs.length c, .string s] w fun e w' => e = .returned (.string (joinT xs s)) ∧ Below w.heap.size w w' := by
  have hlen : (joinL xs s).length ≤ 140737488355328 := by
    have := joinL_len xs s xs.length (Nat.le_refl _)
    rw [List.take_length] at this
    omega
  rcases Nat.eq_zero_or_pos xs.length with h0 | h0
  · have hnil : xs = [] := List.eq_nil_of_length_eq_zero h0
    subst hnil
    have hz : joinT [] s = ⟨#[]⟩ := by simp [joinT, joinL, Lib.join_nil]
    rw [hz]
    clear hlen hJ h0 hn hz
    go_enter Try.func31, Try.ntmps31
    go_wp2_with (go_at_call 37; refine (Try.strings_Join_none a c s w).mono ?_; rintro e w' ⟨rfl, rfl⟩)
    go_ret
    exact ⟨rfl, Below.refl _ _⟩
  · obtain ⟨b, off, rfl, hb, hc⟩ := hx.2.2.2.2 h0
    have hcap := hx.1
    have hcs : ∀ (j : Nat) (x : ByteArray), xs[j]? = some x → w.cell? ⟨b, off + j, none⟩ = some (.string x) := by
      intro j x hj
      obtain ⟨h, rfl⟩ := List.getElem?_eq_some_iff.1 hj
      exact hc j h
    have HC := Lib.hid hcs
    have HL := Lib.hid hlen
    clear hcs hc hlen
    go_enter Try.func31, Try.ntmps31
    go_wp2_with (go_at_call 37; refine (Try.strings_Join b off c xs s w HC.out hb hn hcap HL.out).mono ?_; rintro e w' ⟨rfl, hb'⟩)
    go_ret
    exact ⟨rfl, hb'⟩

end Go.Proofs.Ytjnanlfahgjcbaa
