/- The program's words of a text. -/
import Derived.Test.YtjnanlfahgjcbaaDoorLexImpl9
namespace Go.Proofs.YtjnanlfahgjcbaaDoor
open Go.RowKit

set_option maxRecDepth 100000 in
set_option maxHeartbeats 4000000 in
theorem implLex (s : ByteArray) (w : World) (hs : s.size ≤ 1048576) (tp : TypeId) (p : Value) (hG : Glob tp p w) (hw16 : 7 ≤ w.heap.size) : Calls Tryd.prog 10 #[.string s] w (LexAns s w) := by
  obtain ⟨i0, hi0, hz0, hz1, hz2⟩ := info_parts Tryd.infoToken
  have hll : s.data.toList.length = s.size := by simp
  by_cases hbig : (20000 : Int) < (s.size : Int)
  · have HB : Hid (lexB s.data.toList = .error 20000) := by unfold Hid lexB; rw [if_pos (by rw [hll]; omega)]
    clear hll
    go_enter Tryd.func10, Tryd.ntmps10
    go_wp2_with fail
    go_ret2
    exact lexAns_mk (ys := []) (by unfold toks; rw [HB.out]; rfl) (by rw [HB.out]; rfl) (OwnT.nil _ _) (Below.refl _ _)
  · have HB : Hid (lexB s.data.toList = lexAt (gap false s.data.toList) (s.data.toList.drop (gap false s.data.toList))) := by unfold Hid lexB; rw [if_neg (by rw [hll]; omega)]
    have HLL := Lib.hid hll
    have hg0 : gap false s.data.toList ≤ s.size := by have := gap_len false s.data.toList; omega
    have HG0 : Hid (gap false (s.data.toList.drop 0) = gap false s.data.toList) := by unfold Hid; simp
    have HGL := Lib.hid hG
    have hinfo : (Tryd.prog.info? 48).map (·.size) = some 258 := by kernel_rfl
    have HINFO := Lib.hid hinfo
    clear hll hinfo hG
    go_enter Tryd.func10, Tryd.ntmps10
    go_wp2_with fail
    refine (implClasses w).mono ?_
    rintro e w1 ⟨cs, rfl, hcls, hb1⟩
    have hsz : cs.size = 256 := hcls.1
    have HCLS := Lib.hid hcls
    have hthere : (w1.alloc (.cells Tryd.zeroCells48 48)).there w1.heap.size 0 (lexC s cs).size := fun j hj => by
      rw [cell_of_row _ _ _ _ _ _ (heap_alloc_new w1 _)]
      refine ⟨?_, frozen_of_row _ _ _ _ _ (heap_alloc_new w1 _)⟩
      have hj' : 0 + j < Tryd.zeroCells48.size := by rw [zeroLexer]; rw [lexC_size _ _ hsz] at hj; omega
      rw [Array.getElem?_eq_getElem hj']; rfl
    have HTH := Lib.hid hthere
    clear hcls hthere
    go_wp2_with (refine wpList_store_mid rfl 48 (.tmp 4) (.tmp 16) rfl w1.heap.size 0 (lexC s cs) rfl (by rfl) HTH.out (by rw [lexC_size _ _ hsz]; exact HINFO.out) (lexC_one s cs HCLS.out) ?_)
    have hL2 := lexLaid w1 s cs HCLS.out
    have hB2 : Below w.heap.size w ((w1.alloc (.cells Tryd.zeroCells48 48)).setCells w1.heap.size 0 (lexC s cs).toList) := belowCells (hb1.alloc hb1.size _) hb1.size _ _
    generalize hW2 : (w1.alloc (.cells Tryd.zeroCells48 48)).setCells w1.heap.size 0 (lexC s cs).toList = W2 at hL2 hB2 ⊢
    have hGsz := hb1.size
    generalize hGG : w1.heap.size = G at *
    have HW2 := Lib.hid hW2
    have HGG := Lib.hid hGG
    clear hW2 hGG hb1 HTH
    refine (implSkip hL2 hs (Nat.zero_le _)).mono ?_
    rw [HG0.out, Nat.zero_add]
    rintro e w3 ⟨rfl, mv3⟩
    have hB3 : Below w.heap.size w w3 := mv3.below hB2 hGsz (by have := hL2.lt; omega)
    have HL3 := Lib.hid mv3.1
    clear hL2 hB2 mv3
    go_wp2_with fail
    go_loopg [5] (s.size - gap false s.data.toList) (fun gk v wr => ∃ (k : Nat) (acc : List Tok) (ys : List Tk) (a1 : Option Addr) (c1 : Nat), gk = s.size - k ∧ k ≤ s.size ∧ v = .slice a1 ys.length c1 ∧ ys.length ≤ k ∧ Hid (ys = acc.map tkOf) ∧ Hid (lexB s.data.toList = cat acc (lexAt k (s.data.toList.drop k))) ∧ OwnT wr (G + 1) a1 c1 ys ∧ LexS wr G s k ∧ Below w.heap.size w wr)
    case atStart => exact ⟨_, [], [], none, 0, rfl, hg0, rfl, Nat.zero_le _, rfl, by unfold Hid; rw [HB.out, cat_nil], OwnT.nil _ _, HL3.out, hB3⟩
    case round =>
      obtain ⟨k, acc, ys, a1, c1, rfl, hk, rfl, hyk, hys, hlex, hown, hL, hb⟩ := hrel
      have hsr := hb.size
      by_cases hlt : k < s.size
      · have HMO : Hid (decide (k < s.size) = true) := decide_eq_true hlt
        have HL := Lib.hid hL
        clear hL
        go_wp2_with fail
        refine (implMore HL.out hs (by omega) true HMO.out).mono ?_
        rintro e w4 ⟨rfl, n4, hw4⟩
        have hb4' : Below wr.heap.size wr w4 := hw4 ▸ below_drewN (Below.refl _ _) n4
        have hL4 := HL.out.below hb4' HL.out.lt
        have hown4 := hown.below hb4'
        have hb4 : Below w.heap.size w w4 := hb.trans (hb4'.mono hsr)
        have c1' := hL4.c1
        have hs4 := hb4.size
        have HL4 := Lib.hid hL4
        have HGl := Lib.hid (HGL.out.below hb4 hw16)
        clear hw4 hb4' HL hown hb hL4
        go_wp2_with fail
        refine (implToken HL4.out tp p HGl.out (by omega) hs hlt).mono ?_
        have hd0 : s.data.toList.drop k ≠ [] := by rw [drop_at s k hlt]; simp
        have HD0 := Lib.hid hd0
        clear hd0
        rintro e w5 (⟨x, hx, rfl, mv5⟩ | ⟨hx, ka, t, m, rfl, mv5⟩)
        · have hpos := one_pos (k := x.1) (t := x.2.1) (n := x.2.2) hx
          obtain ⟨hle, _⟩ := one_le (k := x.1) (t := x.2.1) (n := x.2.2) hx
          have hkn : k + x.2.2 ≤ s.size := by rw [List.length_drop, HLL.out] at hle; omega
          have HX := Lib.hid (lexStep hlex.out hx)
          have hown5 : OwnT w5 (G + 1) a1 c1 ys := hown4.kept mv5.2 (fun q hq e => by cases e; have := (hown4.lt hq).1; omega)
          have hb5 : Below w.heap.size w w5 := mv5.below hb4 hGsz (by have := HL4.out.lt; omega)
          have hL5 := mv5.1
          have hG5 : G + 1 ≤ w5.heap.size := hL5.lt
          have hs5 := hb5.size
          have HL5 := Lib.hid hL5
          have HXX := Lib.hid hx
          clear hx hle mv5 hL5 hown4 hb4
          go_wp2_with (at_builtin; refine wpAppendTok rfl (.tmp 32) (.tmp 37) rfl i0 hi0 hz0 hz1 hz2 (G + 1) a1 c1 ys w5.heap.size ⟨(x.1 : Int), ⟨x.2.1.toArray⟩, (k : Int)⟩ rfl (hown5.alloc _) rfl (heap_alloc_new _ _) (by omega) (by rw [size_alloc1]; omega) ?_; intro a6 c6 w6 l6 hl6 hown6 hg6 _)
          have hb6 : Below w.heap.size w w6 := (hb5.alloc hs5 _).grown hg6 (by rw [size_alloc1]; omega) (fun q hq => by have := (hown5.lt hq).1; omega)
          have hL6 : LexS w6 G s (k + x.2.2) := by
            have h1 := HL5.out.below ((Below.refl w5.heap.size w5).alloc (Nat.le_refl _) (.cells #[.int .i64 (x.1 : Int), .string ⟨x.2.1.toArray⟩, .int .i64 (k : Int)] 29)) HL5.out.lt
            obtain ⟨D, hD, r⟩ := h1.ex
            exact ⟨D, (hg6.block G h1.lt (fun e => by have := (hown5.lt e.symm).1; omega)).trans hD, r⟩
          have HL6 := Lib.hid hL6
          have hs6 := hb6.size
          clear hL6 hg6 hown5 hb5
          refine (implSkip HL6.out hs hkn).mono ?_
          rintro e w7 ⟨rfl, mv7⟩
          have hgl : k + x.2.2 + gap false (s.data.toList.drop (k + x.2.2)) ≤ s.size := by
            have := gap_len false (s.data.toList.drop (k + x.2.2))
            rw [List.length_drop, HLL.out] at this
            omega
          have hb7 : Below w.heap.size w w7 := mv7.below hb6 hGsz (by have := HL6.out.lt; omega)
          have hown7 : OwnT w7 (G + 1) a6 c6 l6 := hown6.kept mv7.2 (fun q hq e => by cases e; have := (hown6.lt hq).1; omega)
          have hL7 := mv7.1
          clear mv7
          go_wp2_with fail
          go_roundg (s.size - (k + x.2.2 + gap false (s.data.toList.drop (k + x.2.2))))
          case measure => omega
          case rel => exact ⟨_, acc ++ [⟨x.1, x.2.1, k⟩], l6, a6, c6, rfl, hgl, rfl, by rw [hidT_len hl6]; omega, by unfold Hid; rw [hl6.out, hys.out]; simp [tkOf], HX, hown7, hL7, hb7⟩
        · have HX : Hid (lexB s.data.toList = cat acc (.error k)) := by unfold Hid; rw [hlex.out, lexAt_bad HD0.out hx]
          have hb5 : Below w.heap.size w w5 := mv5.below hb4 hGsz (by have := HL4.out.lt; omega)
          clear hx mv5
          go_wp2_with fail
          go_ret2
          have hbd := bad_of_cat HX.out
          exact lexAns_mk (ys := []) hbd.1 hbd.2 (OwnT.nil _ _) hb5
      · have HMO : Hid (decide (k < s.size) = false) := decide_eq_false hlt
        obtain rfl : k = s.size := by omega
        have HX : Hid (lexB s.data.toList = cat acc (.ok [])) := by unfold Hid; rw [hlex.out, List.drop_of_length_le (by rw [HLL.out]; exact Nat.le_refl _), lexAt_nil]
        go_wp2_with fail
        refine (implMore hL hs (by omega) false HMO.out).mono ?_
        rintro e w4 ⟨rfl, n4, hw4⟩
        have hb4' : Below wr.heap.size wr w4 := hw4 ▸ below_drewN (Below.refl _ _) n4
        have hown4 := hown.below hb4'
        have hb4 : Below w.heap.size w w4 := hb.trans (hb4'.mono hsr)
        clear hw4 hb4'
        go_wp2_with fail
        go_ret2
        have hok := ok_of_cat HX.out
        exact lexAns_mk (ys := ys) (by rw [hys.out]; exact hok.1) hok.2 (hown4.lower (by omega)) hb4

end Go.Proofs.YtjnanlfahgjcbaaDoor
