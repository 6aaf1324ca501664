/- spec.Join and impl.Join (over strings.Join) both answer the texts with another between them. -/
import Derived.Test.YtjnanlfahgjcbaaGreatDoorLets
import Derived.Test.YtjnanlfahgjcbaaGreatDoorBytes
import Derived.Test.YtjnanlfahgjcbaaGreatDoorShelf
import Derived.Lib.Join
namespace Go.Proofs.YtjnanlfahgjcbaaGreatDoor
open Go.RowKit

def joinL (xs : List ByteArray) (by_ : ByteArray) : List UInt8 := Lib.join (xs.map (·.data.toList)) by_.data.toList
def joinT (xs : List ByteArray) (by_ : ByteArray) : ByteArray := ⟨(joinL xs by_).toArray⟩

theorem join_snoc (l : List (List UInt8)) (x sep : List UInt8) (h : l ≠ []) : Lib.join (l ++ [x]) sep = Lib.join l sep ++ sep ++ x := by
  cases l with
  | nil => exact absurd rfl h
  | cons y r =>
    rw [List.cons_append, Lib.join_cons, Lib.join_cons]
    simp [Lib.joinTail]

theorem joinL_first (xs : List ByteArray) (b : ByteArray) (k : Nat) (h0 : k = 0) (h : k < xs.length) : joinL (xs.take (k + 1)) b = joinL (xs.take k) b ++ xs[k].data.toList := by
  subst h0
  unfold joinL
  rw [List.take_succ_eq_append_getElem h]
  simp [Lib.join_one, Lib.join_nil]

theorem joinL_next (xs : List ByteArray) (b : ByteArray) (k : Nat) (h0 : 0 < k) (h : k < xs.length) : joinL (xs.take (k + 1)) b = joinL (xs.take k) b ++ b.data.toList ++ xs[k].data.toList := by
  unfold joinL
  rw [List.take_succ_eq_append_getElem h, List.map_append]
  refine join_snoc _ _ _ ?_
  intro he
  have hlen : ((xs.take k).map (·.data.toList)).length = k := by rw [List.length_map, List.length_take_of_le (by omega)]
  rw [he] at hlen
  simp at hlen
  omega

theorem joinL_len (xs : List ByteArray) (b : ByteArray) : ∀ k, k ≤ xs.length → (joinL (xs.take k) b).length ≤ lets (xs.take k) + k * b.size
  | 0, _ => by simp [joinL, Lib.join_nil]
  | k + 1, h => by
    have ih := joinL_len xs b k (by omega)
    rw [lets_take xs k (by omega)]
    have hb : b.data.toList.length = b.size := by simp
    have hx : xs[k].data.toList.length = xs[k].size := by simp
    rcases Nat.eq_zero_or_pos k with hp | hp
    · rw [joinL_first xs b k hp (by omega), List.length_append, hx, Nat.succ_mul]
      omega
    · rw [joinL_next xs b k hp (by omega), List.length_append, List.length_append, hb, hx, Nat.succ_mul]
      omega

theorem implJoin (a : Option Addr) (c : Nat) (xs : List ByteArray) (s : ByteArray) (w : World) (hx : Strs w a c xs) (hJ : lets xs + xs.length * s.size ≤ 70368744177664) (hn : xs.length ≤ 140737488355328) :
    Calls Tryz.prog 22 #[.slice a xs.length c, .string s] w fun e w' => e = .returned (.string (joinT xs s)) ∧ Below w.heap.size w w' := by
  have hlen : (joinL xs s).length ≤ 140737488355328 := by
    have := joinL_len xs s xs.length (Nat.le_refl _)
    rw [List.take_length] at this
    omega
  rcases Nat.eq_zero_or_pos xs.length with h0 | h0
  · have hnil : xs = [] := List.eq_nil_of_length_eq_zero h0
    subst hnil
    have hz : joinT [] s = ⟨#[]⟩ := by simp [joinT, joinL, Lib.join_nil]
    rw [hz]
    clear hlen hJ h0 hn hz
    go_enter Tryz.func22, Tryz.ntmps22
    go_wp2_with (go_at_call 45; refine (Tryz.strings_Join_none a c s w).mono ?_; rintro e w' ⟨rfl, rfl⟩)
    go_ret
    exact ⟨rfl, Below.refl _ _⟩
  · obtain ⟨b, off, rfl, hb, hc⟩ := hx.2.2.2.2 h0
    have hcap := hx.1
    have hcs : ∀ (j : Nat) (x : ByteArray), xs[j]? = some x → w.cell? ⟨b, off + j, none⟩ = some (.string x) := by
      intro j x hj
      obtain ⟨h, rfl⟩ := List.getElem?_eq_some_iff.1 hj
      exact hc j h
    have HC := Lib.hid hcs
    have HL := Lib.hid hlen
    clear hcs hc hlen
    go_enter Tryz.func22, Tryz.ntmps22
    go_wp2_with (go_at_call 45; refine (Tryz.strings_Join b off c xs s w HC.out hb hn hcap HL.out).mono ?_; rintro e w' ⟨rfl, hb'⟩)
    go_ret
    exact ⟨rfl, hb'⟩

end Go.Proofs.YtjnanlfahgjcbaaGreatDoor
