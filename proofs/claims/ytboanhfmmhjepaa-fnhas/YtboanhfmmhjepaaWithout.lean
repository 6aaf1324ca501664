/- impl.others: the texts of a list that differ from one text, as a range over a function. -/
import Derived.Test.YtboanhfmmhjepaaRange
import Derived.RangeFuncBox
import Derived.Maps.OwnIn
namespace Go.Proofs.Ytboanhfmmhjepaa
open Go.RowKit Go.Shelf
attribute [local go_sem] Oper.semAt_some

def woutL (xs : List ByteArray) (s : ByteArray) : List ByteArray := xs.filter fun x => !(x.toList == s.toList)

theorem woutL_hit (xs : List ByteArray) (s : ByteArray) (k : Nat) (h : k < xs.length) (he : (!(xs[k].toList == s.toList)) = true) : woutL (xs.take (k + 1)) s = woutL (xs.take k) s ++ [xs[k]] := by
  unfold woutL
  rw [List.take_succ_eq_append_getElem h, List.filter_append, List.filter_cons_of_pos (by simpa using he)]
  rfl

theorem woutL_miss (xs : List ByteArray) (s : ByteArray) (k : Nat) (h : k < xs.length) (he : (!(xs[k].toList == s.toList)) = false) : woutL (xs.take (k + 1)) s = woutL (xs.take k) s := by
  unfold woutL
  rw [List.take_succ_eq_append_getElem h, List.filter_append, List.filter_cons_of_neg (by simpa using he)]
  simp

theorem woutL_le (xs : List ByteArray) (s : ByteArray) (k : Nat) : (woutL (xs.take k) s).length ≤ (woutL xs s).length := by
  unfold woutL
  conv => rhs; rw [← List.take_append_drop k xs, List.filter_append, List.length_append]
  omega

theorem woutL_lt (xs : List ByteArray) (s : ByteArray) (k : Nat) (h : k < xs.length) (he : (!(xs[k].toList == s.toList)) = true) : (woutL (xs.take k) s).length < (woutL xs s).length := by
  have := woutL_le xs s (k + 1)
  rw [woutL_hit xs s k h he, List.length_append] at this
  simp at this
  omega

theorem woutL_len (xs : List ByteArray) (s : ByteArray) : (woutL xs s).length ≤ xs.length + 1 := by
  have := List.length_filter_le (fun x : ByteArray => !(x.toList == s.toList)) xs
  unfold woutL
  omega

theorem woutL_sizes {xs : List ByteArray} {s : ByteArray} (hx : ∀ t ∈ xs, t.size ≤ maxLen) (_hs : s.size ≤ maxLen) : ∀ t ∈ woutL xs s, t.size ≤ maxLen :=
  fun t ht => hx t (List.mem_filter.1 ht).1

set_option maxHeartbeats 1000000 in
theorem others1 (n l Bl Bv : Nat) (hn : 1 ≤ n) (p : Nat → Prop) (a : Option Addr) (c : Nat) (xs : List ByteArray) (s : ByteArray) (J Jx : List ByteArray → World → Prop)
    (hY : ∀ pre x W, J pre W → pre.length < (woutL xs s).length → YieldAt Fence.wide (n - 1) Try.prog l #[.string x] W fun e W' =>
      (e = .returned (.bool true) ∧ J (pre ++ [x]) W' ∧ KeepP p W W') ∨ (e = .returned (.bool false) ∧ Jx (pre ++ [x]) W'))
    (W : World) (hpV : p Bv) (hBl : W.cell? ⟨Bl, 0, none⟩ = some (.slice a xs.length c)) (hBv : W.cell? ⟨Bv, 0, none⟩ = some (.string s)) (hc : Txts p W a xs) (hlen : xs.length ≤ 9223372036854775807) (h0 : J [] W) :
    CallsIn Fence.wide n Try.prog 51 #[.func (.yield l) #[] #[], .pointer (some ⟨Bl, 0, none⟩), .pointer (some ⟨Bv, 0, none⟩)] W fun e W' => (∃ v, e = .returned v) ∧
      ((∃ ys, ys = woutL xs s ∧ J ys W') ∨ (∃ pre, (∃ k, k ≤ xs.length ∧ pre = woutL (xs.take k) s) ∧ Jx pre W')) := by
  refine callsIn_of_wp Try.func51 rfl trivial ?_ rfl
  simp only [Try.ntmps51, List.size_toArray, List.length_cons, List.length_nil, Nat.reduceAdd, Nat.reduceSub, Array.replicate_succ, Array.replicate_zero, List.push_toArray, List.append_toArray, List.nil_append, List.cons_append]
  gi_wp2
  gi_loopw [8] (fun i wr => ∃ k : Nat, k ≤ xs.length ∧ i = .int .i64 k ∧ J (woutL (xs.take k) s) wr ∧ KeepP p W wr) (fun i _ => xs.length - (intOf i).toNat)
  case atStart => exact ⟨0, Nat.zero_le _, rfl, h0, KeepP.refl _ _⟩
  case round =>
    obtain ⟨k, hk, rfl, hJs, hkp⟩ := hrel
    have hBv' : wr.cell? ⟨Bv, 0, none⟩ = some (.string s) := (hkp.cell (q := ⟨Bv, 0, none⟩) hpV).trans hBv
    by_cases hlt : k < xs.length
    · obtain ⟨b, off, rfl, hb, hcs⟩ := (hc.keep hkp).spot hlt
      have hc1 := hcs k hlt
      cases he : (!(xs[k].toList == s.toList)) with
      | true =>
        have HS := Lib.hid (woutL_hit xs s k hlt he)
        obtain ⟨fn, tmps, assign, body, hy, hR⟩ := hY _ xs[k] wr hJs (woutL_lt xs s k hlt he)
        have HR := Lib.hid hR
        clear hR hcs hY
        gi_wp2
        refine HR.out.mono ?_
        rintro e W3 (⟨rfl, hJ3, hk3⟩ | ⟨rfl, hJx3⟩)
        · gi_wp2
          go_roundw
          case rel => exact ⟨k + 1, by omega, by go_num, by rw [HS.out]; exact hJ3, hkp.trans hk3⟩
          case measure => simp [intOf]; omega
        · gi_wp2
          refine bodyPost_ret (results_none rfl _ _ _) rfl ?_
          exact ⟨⟨_, rfl⟩, .inr ⟨_, ⟨k + 1, by omega, HS.out.symm⟩, hJx3⟩⟩
      | false =>
        have HS := Lib.hid (woutL_miss xs s k hlt he)
        clear hcs hY
        gi_wp2
        refine ⟨fun _ h => (by cases h), ?_⟩
        gi_wp2
        go_roundw
        case rel => exact ⟨k + 1, by omega, by go_num, by rw [HS.out]; exact hJs, hkp⟩
        case measure => simp [intOf]; omega
    · obtain rfl : k = xs.length := by omega
      rw [List.take_length] at hJs
      gi_wp2
      go_end0
      exact ⟨⟨_, rfl⟩, .inl ⟨_, rfl, hJs⟩⟩

theorem othersStops (n Bl Bv : Nat) (hn : 1 ≤ n) (p : Nat → Prop) (a : Option Addr) (c : Nat) (xs : List ByteArray) (s : ByteArray) (w : World) (hp : ∀ k, p k → k < w.heap.size) (hpL : p Bl) (hpV : p Bv)
    (hBl : w.cell? ⟨Bl, 0, none⟩ = some (.slice a xs.length c)) (hBv : w.cell? ⟨Bv, 0, none⟩ = some (.string s)) (hc : Txts p w a xs) (hlen : xs.length ≤ 9223372036854775807) :
    SeqStopsK Fence.wide n Try.prog 51 #[.pointer (some ⟨Bl, 0, none⟩), .pointer (some ⟨Bv, 0, none⟩)] (fun x : ByteArray => #[Value.string x]) (KeepP p)
      (fun ys => ys = woutL xs s) (fun pre => ∃ k, k ≤ xs.length ∧ pre = woutL (xs.take k) s) (woutL xs s).length w := fun l J Jx W hW _ _ hY h0 => by
  have hk : KeepP p w W := KeepP.of_below hW hp
  exact others1 n l Bl Bv hn p a c xs s J Jx hY W hpV ((hk.cell (q := ⟨Bl, 0, none⟩) hpL).trans hBl) ((hk.cell (q := ⟨Bv, 0, none⟩) hpV).trans hBv) (hc.keep hk) hlen h0

theorem implOthers (n : Nat) (a : Option Addr) (c m : Nat) (s : ByteArray) (w : World) :
    CallsIn Fence.wide n Try.prog 45 #[.slice a m c, .string s] w fun e w' => e = .returned (.func (.func 51) #[] #[.pointer (some ⟨w.heap.size, 0, none⟩), .pointer (some ⟨w.heap.size + 1, 0, none⟩)]) ∧
      w' = (w.alloc (.cells #[.slice a m c] 27)).alloc (.cells #[.string s] 9) := by
  refine callsIn_wide.2 ?_
  have hmf : ∀ (fn : Fn) (first cap : Array Value) (w : World), (Instr.makeFunc fn first cap).run Try.prog w = .ok (.func fn first cap) w := fun _ _ _ _ => rfl
  go_enter Try.func45, Try.ntmps45
  go_wp2
  go_ret
  exact ⟨rfl, rfl⟩

end Go.Proofs.Ytboanhfmmhjepaa
