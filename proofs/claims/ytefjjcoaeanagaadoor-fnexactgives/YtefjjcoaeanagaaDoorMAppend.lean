/- Rows of the call's own that grow. -/
/- spec.Put answers a new list, the text put in at its place. -/
import Derived.Test.YtefjjcoaeanagaaDoorMem
import Derived.Test.YtefjjcoaeanagaaDoorPut
namespace Go.Proofs.YtefjjcoaeanagaaDoor
open Go.RowKit

theorem strsOne (w : World) (s : ByteArray) (hs : s.size ≤ maxLen) : Strs (w.alloc (.cells #[.string s] 9)) (some ⟨w.heap.size, 0, none⟩) 1 [s] := by
  refine ⟨by simp, by unfold maxLen; omega, by simpa using hs, (fun h => by cases h), fun _ => ⟨w.heap.size, 0, rfl, by simp, fun i hi => ?_⟩⟩
  have : i = 0 := by simpa using hi
  subst this
  simp [go_sem]

theorem Own.alloc {w : World} {B : Nat} {a : Option Addr} {c : Nat} {xs : List ByteArray} (h : Own w B a c xs) (o : Obj) : Own (w.alloc o) B a c xs :=
  h.below ((Below.refl _ _).alloc (Nat.le_refl _) _)

theorem Own.drewN {w : World} {B : Nat} {a : Option Addr} {c : Nat} {xs : List ByteArray} (h : Own w B a c xs) (n : Nat) : Own (w.drewN n) B a c xs :=
  h.below (below_drewN (Below.refl _ _) n)

theorem ownEmpty (w : World) : Own (w.alloc (.cells #[] 9)) w.heap.size (some ⟨w.heap.size, 0, none⟩) 0 [] := by
  have := World.ownsRow_lit (base := w.heap.size) (e := 9) (size := 1) w #[] 0 (Nat.le_refl _) (by unfold maxLen; omega) rfl
  exact this

/-- A row of the call's own, one text appended behind a new block: what is below stays. -/
theorem appended {w wr w2 : World} {B : Nat} {a : Option Addr} {c : Nat} {ys : List ByteArray} (hb : Below B w wr) (hBw : B ≤ w.heap.size) (hown : Own wr B a c ys) {o : Obj} (hg : (wr.alloc o).grownBy w2 (Value.slice a ys.length c).ownBlock) : Below B w w2 := by
  have h1 : Below B w (wr.alloc o) := hb.alloc (Nat.le_trans hBw hb.size) o
  exact h1.grown hg (by have := hb.size; simp; omega) (fun k hk => (hown.lt hk).1)

end Go.Proofs.YtefjjcoaeanagaaDoor

namespace Go.Proofs.YtefjjcoaeanagaaDoor
open Go.RowKit

theorem specBeforeIs (a b : ByteArray) (w : World) (ha : a.size ≤ maxLen) (hb : b.size ≤ maxLen) (v : Bool) (h : lessB a b = v) :
    Calls Tryd.prog 84 #[.string a, .string b] w fun e w' => e = .returned (.bool v) ∧ ∃ n, w' = w.drewN n := by
  have := specBefore a b w ha hb
  unfold lessB at h
  rw [h] at this
  exact this

set_option maxHeartbeats 1000000 in
theorem specPut (a : Option Addr) (c : Nat) (xs : List ByteArray) (s : ByteArray) (w : World) (hx : Strs w a c xs) (hs : s.size ≤ maxLen) (hn : xs.length ≤ 4194304) :
    Calls Tryd.prog 66 #[.slice a xs.length c, .string s] w (NewStrs w (putL xs s)) := by
  obtain ⟨i0, hi0, hz0, hz1, hz2⟩ := info_parts Tryd.infoString
  have hl := hx.len
  go_enter Tryd.func66, Tryd.ntmps66
  go_wp2
  go_loopw [5, 6, 7] (fun v d i wr => ∃ (k : Nat) (a1 : Option Addr) (c1 : Nat), k ≤ xs.length ∧ i = .int .i64 k ∧ d = .bool (putSt xs s k).2 ∧ v = .slice a1 (putSt xs s k).1.length c1 ∧ Own wr w.heap.size a1 c1 (putSt xs s k).1 ∧ Below w.heap.size w wr) (fun _ _ i _ => xs.length - (intOf i).toNat)
  case atStart => exact ⟨0, _, _, Nat.zero_le _, rfl, rfl, rfl, ownEmpty w, (Below.refl _ _).alloc (Nat.le_refl _) _⟩
  case round =>
    obtain ⟨k, a1, c1, hk, rfl, rfl, rfl, hown, hb⟩ := hrel
    have hsz := hb.size
    by_cases hlt : k < xs.length
    · obtain ⟨b, off, rfl, hbl, hc⟩ := (hx.below hb).spot hlt
      have hsk := hx.2.2.1 xs[k] (List.getElem_mem hlt)
      have hlen := (putSt_len xs s k hk).1
      cases hd : (putSt xs s k).2 with
      | true =>
        have HS : Hid (putSt xs s (k + 1) = ((putSt xs s k).1 ++ [xs[k]], true)) := by
          unfold Hid; rw [putSt_succ xs s k hlt]; unfold putStep; rw [hd]; rfl
        have Hd := Lib.hid hd
        clear hd
        go_wp2_with (at_builtin; refine wpAppendStrs rfl (.tmp 36) (.tmp 41) rfl i0 hi0 hz0 hz1 hz2 w.heap.size a1 c1 _ (some ⟨_, 0, none⟩) 1 [xs[k]] rfl (hown.alloc _) rfl (strsOne _ _ hsk) (by simp only [List.length_cons, List.length_nil]; omega) (by simp; omega) ?_; intro a2 c2 w2 hown2 hg2)
        have hb2 := appended hb (Nat.le_refl _) hown hg2
        go_roundw
        case rel => exact ⟨k + 1, a2, c2, by omega, by go_num, by rw [HS.out], by rw [HS.out, List.length_append]; rfl, by rw [HS.out]; exact hown2, hb2⟩
        case measure => simp [intOf]; omega
      | false =>
        have hlen' := (putSt_len xs s k hk).2 hd
        cases hle : lessB xs[k] s with
        | true =>
          have HS : Hid (putSt xs s (k + 1) = ((putSt xs s k).1 ++ [xs[k]], false)) := by
            unfold Hid; rw [putSt_succ xs s k hlt]; unfold putStep; rw [hd, hle]; rfl
          have Hd := Lib.hid hd
          have Hle := Lib.hid hle
          clear hd hle
          go_wp2_with (first
            | (go_at_call 84; refine (specBeforeIs _ _ _ hsk hs true Hle.out).mono ?_; rintro e w1 ⟨rfl, n1, rfl⟩)
            | (at_builtin; refine wpAppendStrs rfl (.tmp 36) (.tmp 41) rfl i0 hi0 hz0 hz1 hz2 w.heap.size a1 c1 _ (some ⟨_, 0, none⟩) 1 [xs[k]] rfl ((hown.drewN n1).alloc _) rfl (strsOne _ _ hsk) (by simp only [List.length_cons, List.length_nil]; omega) (by simp; omega) ?_; intro a2 c2 w2 hown2 hg2))
          have hb2 := appended (below_drewN hb n1) (Nat.le_refl _) (hown.drewN n1) hg2
          go_roundw
          case rel => exact ⟨k + 1, a2, c2, by omega, by go_num, by rw [HS.out], by rw [HS.out, List.length_append]; rfl, by rw [HS.out]; exact hown2, hb2⟩
          case measure => simp [intOf]; omega
        | false =>
          cases he : (xs[k].toList == s.toList) with
          | true =>
            have HS : Hid (putSt xs s (k + 1) = ((putSt xs s k).1 ++ [s], true)) := by
              unfold Hid; rw [putSt_succ xs s k hlt]; unfold putStep; rw [hd, hle, he]; rfl
            have Hd := Lib.hid hd
            have Hle := Lib.hid hle
            clear hd hle
            go_wp2_with (first
              | (go_at_call 84; refine (specBeforeIs _ _ _ hsk hs false Hle.out).mono ?_; rintro e w1 ⟨rfl, n1, rfl⟩)
              | ((at_builtin; refine wpAppendStrs rfl (.tmp 26) (.tmp 28) rfl i0 hi0 hz0 hz1 hz2 w.heap.size a1 c1 _ (some ⟨_, 0, none⟩) 1 [s] rfl ((hown.drewN n1).alloc _) rfl (strsOne _ _ hs) (by simp only [List.length_cons, List.length_nil]; omega) (by simp; omega) ?_; intro a2 c2 w2 hown2 hg2); (have hb2 := appended (below_drewN hb n1) (Nat.le_refl _) (hown.drewN n1) hg2); (have hc2 := (hx.below hb2).spot hlt); (have hc2' : w2.cell? ⟨b, off + k, none⟩ = some (.string xs[k]) := by obtain ⟨b', off', he', _, h⟩ := hc2; cases he'; exact h); clear hc2))
            go_roundw
            case rel => exact ⟨k + 1, a2, c2, by omega, by go_num, by rw [HS.out], by rw [HS.out, List.length_append]; rfl, by rw [HS.out]; exact hown2, hb2⟩
            case measure => simp [intOf]; omega
          | false =>
            have HS : Hid (putSt xs s (k + 1) = ((putSt xs s k).1 ++ [s] ++ [xs[k]], true)) := by
              unfold Hid; rw [putSt_succ xs s k hlt]; unfold putStep; rw [hd, hle, he]; rfl
            have Hd := Lib.hid hd
            have Hle := Lib.hid hle
            clear hd hle
            go_wp2_with (first
              | (go_at_call 84; refine (specBeforeIs _ _ _ hsk hs false Hle.out).mono ?_; rintro e w1 ⟨rfl, n1, rfl⟩)
              | ((at_builtin; refine wpAppendStrs rfl (.tmp 26) (.tmp 28) rfl i0 hi0 hz0 hz1 hz2 w.heap.size a1 c1 _ (some ⟨_, 0, none⟩) 1 [s] rfl ((hown.drewN n1).alloc _) rfl (strsOne _ _ hs) (by simp only [List.length_cons, List.length_nil]; omega) (by simp; omega) ?_; intro a2 c2 w2 hown2 hg2); (have hb2 := appended (below_drewN hb n1) (Nat.le_refl _) (hown.drewN n1) hg2); (have hc2 := (hx.below hb2).spot hlt); (have hc2' : w2.cell? ⟨b, off + k, none⟩ = some (.string xs[k]) := by obtain ⟨b', off', he', _, h⟩ := hc2; cases he'; exact h); clear hc2; (have hsz2 := hb2.size))
              | (at_builtin; refine wpAppendStrs rfl (.tmp 36) (.tmp 41) rfl i0 hi0 hz0 hz1 hz2 w.heap.size a2 c2 ((putSt xs s k).1 ++ [s]) (some ⟨_, 0, none⟩) 1 [xs[k]] (by simp [go_sem]) (hown2.alloc _) rfl (strsOne _ _ hsk) (by simp only [List.length_cons, List.length_nil, List.length_append]; omega) (by simp; omega) ?_; intro a3 c3 w3 hown3 hg3))
            have hb3 := appended hb2 (Nat.le_refl _) hown2 hg3
            go_roundw
            case rel => exact ⟨k + 1, a3, c3, by omega, by go_num, by rw [HS.out], by rw [HS.out, List.length_append, List.length_append]; rfl, by rw [HS.out]; exact hown3, hb3⟩
            case measure => simp [intOf]; omega
    · obtain rfl : k = xs.length := by omega
      have hlen := (putSt_len xs s xs.length hk).1
      have hend := putSt_end xs s
      cases hd : (putSt xs s xs.length).2 with
      | true =>
        have HE : Hid (putL xs s = (putSt xs s xs.length).1) := by unfold Hid; rw [← hend, hd]; rfl
        have Hd := Lib.hid hd
        clear hd hend
        go_wp2_with fail
        go_ret
        exact ⟨a1, c1, by rw [HE.out]; rfl, by rw [HE.out]; exact hown, hb⟩
      | false =>
        have HE : Hid (putL xs s = (putSt xs s xs.length).1 ++ [s]) := by unfold Hid; rw [← hend, hd]; rfl
        have Hd := Lib.hid hd
        clear hd hend
        go_wp2_with (at_builtin; refine wpAppendStrs rfl (.tmp 45) (.tmp 47) rfl i0 hi0 hz0 hz1 hz2 w.heap.size a1 c1 _ (some ⟨_, 0, none⟩) 1 [s] rfl (hown.alloc _) rfl (strsOne _ _ hs) (by simp only [List.length_cons, List.length_nil]; omega) (by simp; omega) ?_; intro a2 c2 w2 hown2 hg2)
        have hb2 := appended hb (Nat.le_refl _) hown hg2
        go_ret
        exact ⟨a2, c2, by rw [HE.out, List.length_append]; rfl, by rw [HE.out]; exact hown2, hb2⟩

end Go.Proofs.YtefjjcoaeanagaaDoor
