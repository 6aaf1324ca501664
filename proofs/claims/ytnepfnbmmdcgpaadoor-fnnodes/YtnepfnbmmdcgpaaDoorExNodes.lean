/- spec.Nodes counts the nodes. -/
import Derived.Test.YtnepfnbmmdcgpaaDoorEx2
import Derived.Deep.RegionHeld3
namespace Go.Proofs.YtnepfnbmmdcgpaaDoor
open Go.RowKit

theorem nodesL_mono (l : List Ex) (k : Nat) : nodesL (l.take k) ≤ nodesL l := by
  induction l generalizing k with
  | nil => simp
  | cons e r ih =>
    cases k with
    | zero => simp [nodesL]
    | succ k => simp only [List.take_succ_cons, nodesL]; have := ih k; omega

theorem nodesL_get {l : List Ex} {k : Nat} (h : k < l.length) : l[k].nodes ≤ nodesL l := by
  have h1 := nodesL_take l k h
  have h2 := nodesL_mono l (k + 1)
  omega

def NodesP (d : Nat) : Prop := ∀ (e : Ex) (a : Option Addr) (c : Nat) (w : World), e.nodes ≤ 1073741824 → KidsAt w d a c e.kids →
  Calls Tryd.prog 10 #[.agg #[.int .i64 e.kind, .string e.text, .int .i64 e.num, .slice a e.kids.length c]] w fun x w' => x = .returned (.int .i64 e.nodes) ∧ Below w.heap.size w w'

set_option maxHeartbeats 1000000 in
theorem specNodes : ∀ d, NodesP d
  | 0 => fun _ _ _ _ _ h => h.elim
  | d + 1 => by
    intro e a c w hn hk
    have ih := specNodes d
    have hne := Ex.nodes_eq e
    have hl := hk.len
    have HK := Lib.hid (fun w' hb => hk.below (w' := w') hb)
    clear hk
    generalize hks : e.kids = xs at *
    go_enter Tryd.func10, Tryd.ntmps10
    go_wp2_with fail
    go_loopw [3, 4] (fun n i wr => ∃ k : Nat, k ≤ xs.length ∧ i = .int .i64 k ∧ n = .int .i64 (1 + nodesL (xs.take k) : Nat) ∧ wr.cell? ⟨w.heap.size, 3, none⟩ = some (.slice a xs.length c) ∧ w.heap.size < wr.heap.size ∧ Below w.heap.size w wr) (fun _ i _ => xs.length - (intOf i).toNat)
    case atStart => exact ⟨0, Nat.zero_le _, rfl, by simp [nodesL], by simp [go_sem], by simp, (Below.refl _ _).alloc (Nat.le_refl _) _⟩
    case round =>
      obtain ⟨k, hk, rfl, rfl, h3, hlw, hb⟩ := hrel
      by_cases hlt : k < xs.length
      · obtain ⟨b, off, rfl, hbl, hc0, hc1, hc2, hfit, a', c', hc3, hkid⟩ := (HK.out _ hb).spot hlt
        have HT := Lib.hid (nodesL_take xs k hlt)
        have HL := Lib.hid (nodesL_mono xs (k + 1))
        have HG := Lib.hid (nodesL_get hlt)
        have HX := Lib.hid (fun w' hb => hkid.below (w' := w') hb)
        clear hkid
        go_wp2_with fail
        refine (ih xs[k] a' c' _ (by have := HG.out; omega) (HX.out _ (Below.refl _ _))).mono ?_
        rintro x w2 ⟨rfl, hb2⟩
        have h3' := (hb2.cell (p := ⟨w.heap.size, 3, none⟩) hlw).trans h3
        have hb' := hb.trans (hb2.mono hb.size)
        have hlw' := Nat.lt_of_lt_of_le hlw hb2.size
        have hsum : Hid ((1 + nodesL (xs.take k) : Nat) + (xs[k].nodes : Int) ≤ 1073741824) := by have := HT.out; have := HL.out; unfold Hid; omega
        have hsum' := hsum.out
        clear h3 hb hb2 hc0 hc1 hc2 hc3 hlw
        go_wp2_with fail
        go_roundw
        case rel => exact ⟨k + 1, by omega, by go_num, by rw [HT.out]; go_num, h3', hlw', hb'⟩
        case measure => simp [intOf]; omega
      · obtain rfl : k = xs.length := by omega
        go_wp2_with fail
        go_ret
        exact ⟨by rw [List.take_length, hne]; rfl, hb⟩

end Go.Proofs.YtnepfnbmmdcgpaaDoor
