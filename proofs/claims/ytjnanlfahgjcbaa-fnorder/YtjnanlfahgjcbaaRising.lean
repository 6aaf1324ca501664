/- impl.Rising (over impl.neighbours) and spec.Rising answer whether each text is ahead of the next. -/
import Derived.Test.YtjnanlfahgjcbaaRange
import Derived.Test.YtjnanlfahgjcbaaPut
namespace Go.Proofs.Ytjnanlfahgjcbaa
open Go.RowKit Go.Shelf
attribute [local go_sem] Oper.semAt_some

def pairAt (xs : List ByteArray) (j : Nat) : ByteArray × ByteArray := (xs[j]?.getD ByteArray.empty, xs[j + 1]?.getD ByteArray.empty)
def prs (xs : List ByteArray) (k : Nat) : List (ByteArray × ByteArray) := (List.range k).map (pairAt xs)
theorem prs_succ (xs : List ByteArray) (k : Nat) : prs xs (k + 1) = prs xs k ++ [pairAt xs k] := by simp [prs, List.range_succ]
theorem prs_length (xs : List ByteArray) (k : Nat) : (prs xs k).length = k := by simp [prs]

set_option maxHeartbeats 1000000 in
theorem neighbours1 (n l Bs : Nat) (hn : 1 ≤ n) (p : Nat → Prop) (a : Option Addr) (c : Nat) (xs : List ByteArray) (J Jx : List (ByteArray × ByteArray) → World → Prop)
    (hJ : ∀ pre W, J pre W → J pre W.drew)
    (hY : ∀ pre x W, J pre W → pre.length < xs.length - 1 → YieldAt Fence.wide (n - 1) Try.prog l #[.string x.1, .string x.2] W fun e W' =>
      (e = .returned (.bool true) ∧ J (pre ++ [x]) W' ∧ KeepP p W W') ∨ (e = .returned (.bool false) ∧ Jx (pre ++ [x]) W'))
    (W : World) (hpB : p Bs) (hBs : W.cell? ⟨Bs, 0, none⟩ = some (.slice a xs.length c)) (hc : Txts p W a xs) (hlen : xs.length ≤ 9223372036854775807) (h0 : J [] W) :
    CallsIn Fence.wide n Try.prog 35 #[.func (.yield l) #[] #[], .pointer (some ⟨Bs, 0, none⟩)] W fun e W' => (∃ v, e = .returned v) ∧
      ((∃ ys, ys = prs xs (xs.length - 1) ∧ J ys W') ∨ (∃ pre, (∃ k, k ≤ xs.length - 1 ∧ pre = prs xs k) ∧ Jx pre W')) := by
  refine callsIn_of_wp Try.func35 rfl trivial ?_ rfl
  simp only [Try.ntmps35, List.size_toArray, List.length_cons, List.length_nil, Nat.reduceAdd, Nat.reduceSub, Array.replicate_succ, Array.replicate_zero, List.push_toArray, List.append_toArray, List.nil_append, List.cons_append]
  gi_wp2
  gi_loopw [3] (fun i wr => ∃ k : Nat, k ≤ xs.length - 1 ∧ i = .int .i64 ((k : Int) + 1) ∧ J (prs xs k) wr ∧ KeepP p W wr) (fun i _ => xs.length - (intOf i).toNat)
  case atStart => exact ⟨0, Nat.zero_le _, rfl, h0, KeepP.refl _ _⟩
  case round =>
    obtain ⟨k, hk, rfl, hJs, hkp⟩ := hrel
    have hBs' : wr.cell? ⟨Bs, 0, none⟩ = some (.slice a xs.length c) := (hkp.cell (q := ⟨Bs, 0, none⟩) hpB).trans hBs
    by_cases hlt : k + 1 < xs.length
    · obtain ⟨b, off, rfl, hb, hcs⟩ := (hc.keep hkp).spot hlt
      have hc1 := hcs k (by omega)
      have hc2 := hcs (k + 1) hlt
      have hp1 : pairAt xs k = (xs[k], xs[k + 1]) := by simp [pairAt, hlt, show k < xs.length by omega]
      obtain ⟨fn, tmps, assign, body, hy, hR⟩ := hY _ (xs[k], xs[k + 1]) wr.drew (hJ _ _ hJs) (by rw [prs_length]; omega)
      dsimp only at hy
      have HR := Lib.hid hR
      clear hR hcs hY
      have Hp := Lib.hid hp1
      clear hp1
      gi_wp2
      have hw0 : IntKind.i64.wrap ((k : Int) + 1 - 1) = (k : Int) := by rw [IntWalk.i64_in _ (by omega)]; omega
      have hw1 : IntKind.i64.wrap (k : Int) = (k : Int) := IntWalk.i64_in _ (by omega)
      have hi0 : (0 : Int) ≤ (k : Int) := by omega
      have hi1 : (k : Int) < (xs.length : Int) := by omega
      have hi2 : (0 : Int) ≤ (k : Int) + 1 := by omega
      have hi3 : (k : Int) + 1 < (xs.length : Int) := by omega
      have hi4 : ((k : Int) + 1).toNat = k + 1 := by omega
      gi_region_with ((refine HR.out.mono ?_); rintro e W3 h3; obtain ⟨r3, rfl, hr3⟩ := yesOrNo h3; clear h3)
      all_goals
        clear hw0 hw1 hi0 hi1 hi2 hi4
        rcases hr3 with ⟨rfl, hJ3, hk3⟩ | ⟨rfl, hJx3⟩
        · have hk3' : KeepP p wr W3 := hk3
          gi_wp2
          go_roundw
          case rel => exact ⟨k + 1, by omega, by go_num, by rw [prs_succ, Hp.out]; exact hJ3, hkp.trans hk3'⟩
          case measure => simp [intOf]; omega
        · gi_wp2
          refine bodyPost_ret (results_none rfl _ _ _) rfl ?_
          exact ⟨⟨_, rfl⟩, .inr ⟨_, ⟨k + 1, by omega, by rw [prs_succ, Hp.out]⟩, hJx3⟩⟩
    · obtain rfl : k = xs.length - 1 := by omega
      have ht : decide (((xs.length - 1 : Nat) : Int) + 1 < (xs.length : Int)) = false := by simp; omega
      gi_wp2
      go_end0
      exact ⟨⟨_, rfl⟩, .inl ⟨_, rfl, hJs⟩⟩

theorem neighboursStops (n Bs : Nat) (hn : 1 ≤ n) (p : Nat → Prop) (a : Option Addr) (c : Nat) (xs : List ByteArray) (w : World) (hp : ∀ k, p k → k < w.heap.size) (hpB : p Bs)
    (hBs : w.cell? ⟨Bs, 0, none⟩ = some (.slice a xs.length c)) (hc : Txts p w a xs) (hlen : xs.length ≤ 9223372036854775807) :
    SeqStopsK Fence.wide n Try.prog 35 #[.pointer (some ⟨Bs, 0, none⟩)] (fun x : ByteArray × ByteArray => #[Value.string x.1, Value.string x.2]) (KeepP p)
      (fun ys => ys = prs xs (xs.length - 1)) (fun pre => ∃ k, k ≤ xs.length - 1 ∧ pre = prs xs k) (xs.length - 1) w := fun l J Jx W hW hJ _ hY h0 => by
  have hk : KeepP p w W := KeepP.of_below hW hp
  exact neighbours1 n l Bs hn p a c xs J Jx (fun pre W' h => hJ pre W' W'.drew none h ⟨rfl, rfl, rfl, Nat.le_refl _, fun _ _ _ => rfl⟩ (fun r e => by cases e)) hY W hpB
    ((hk.cell (q := ⟨Bs, 0, none⟩) hpB).trans hBs) (hc.keep hk) hlen h0

def risingB (xs : List ByteArray) : Bool := (prs xs (xs.length - 1)).all fun x => lessB x.1 x.2

theorem implNeighbours (n : Nat) (a : Option Addr) (c m : Nat) (w : World) :
    CallsIn Fence.wide n Try.prog 25 #[.slice a m c] w fun e w' => e = .returned (.func (.func 35) #[] #[.pointer (some ⟨w.heap.size, 0, none⟩)]) ∧ w' = w.alloc (.cells #[.slice a m c] 27) := by
  refine callsIn_wide.2 ?_
  have hmf : ∀ (fn : Fn) (first cap : Array Value) (w : World), (Instr.makeFunc fn first cap).run Try.prog w = .ok (.func fn first cap) w := fun _ _ _ _ => rfl
  go_enter Try.func25, Try.ntmps25
  go_wp2
  go_ret
  exact ⟨rfl, rfl⟩

end Go.Proofs.Ytjnanlfahgjcbaa
