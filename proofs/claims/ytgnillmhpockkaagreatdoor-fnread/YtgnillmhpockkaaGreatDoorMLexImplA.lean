/- The program's words of a text. -/
/- Words mean the same in great letters: plain mathematics. -/
/- What the laws over Lex take from the tables that their rows list. -/
/- Expressions: their text as the program holds it. -/
/- What ParseExpr answers, and that it reads the text of an expression back. -/
/- strings.Clone answers the same text. -/
/- impl.copyExpr: the same tree in new blocks. -/
import Derived.Test.YtgnillmhpockkaaGreatDoorMLexImpl8
import Derived.Test.YtgnillmhpockkaaGreatDoorMLexSpec4
import Derived.Test.YtgnillmhpockkaaGreatDoorCards
import Derived.Test.YtgnillmhpockkaaGreatDoorTie
import Derived.ProofKit
import Derived.OpenShut
import Derived.ShutString
import Derived.ChangeOld
import Derived.Below
import Derived.LaidMore
import Derived.Lay
import Derived.Lib.LaidTab
import Derived.Stop.LaidErr
import Derived.SevenTiedAt
import Derived.Stop.Joined
import Derived.Test.YtgnillmhpockkaaGreatDoorMLexP
import Derived.Test.YtgnillmhpockkaaGreatDoorMBytes1
import Derived.Test.YtgnillmhpockkaaGreatDoorMRdrA
import Derived.Test.YtgnillmhpockkaaGreatDoorMShelf
import Derived.Test.YtgnillmhpockkaaGreatDoorMDrawOdd
namespace Go.Proofs.YtgnillmhpockkaaGreatDoor
open Go.RowKit

set_option maxRecDepth 100000 in
set_option maxHeartbeats 4000000 in
theorem implLex (s : ByteArray) (w : World) (hs : s.size ≤ 1048576) (tp : TypeId) (p : Value) (hG : Glob tp p w) (hw16 : 8 ≤ w.heap.size) : Calls Tryz.prog 14 #[.string s] w (LexAns s w) := by
  obtain ⟨i0, hi0, hz0, hz1, hz2⟩ := info_parts Tryz.infoToken
  have hll : s.data.toList.length = s.size := by simp
  by_cases hbig : (20000 : Int) < (s.size : Int)
  · have HB : Hid (lexB s.data.toList = .error 20000) := by unfold Hid lexB; rw [if_pos (by rw [hll]; omega)]
    clear hll
    go_enter Tryz.func14, Tryz.ntmps14
    go_wp2_with fail
    go_ret2
    exact lexAns_mk (ys := []) (by unfold toks; rw [HB.out]; rfl) (by rw [HB.out]; rfl) (OwnT.nil _ _) (Below.refl _ _)
  · have HB : Hid (lexB s.data.toList = lexAt (gap false s.data.toList) (s.data.toList.drop (gap false s.data.toList))) := by unfold Hid lexB; rw [if_neg (by rw [hll]; omega)]
    have HLL := Lib.hid hll
    have hg0 : gap false s.data.toList ≤ s.size := by have := gap_len false s.data.toList; omega
    have HG0 : Hid (gap false (s.data.toList.drop 0) = gap false s.data.toList) := by unfold Hid; simp
    have HGL := Lib.hid hG
    have hinfo : (Tryz.prog.info? 60).map (·.size) = some 258 := by kernel_rfl
    have HINFO := Lib.hid hinfo
    clear hll hinfo hG
    go_enter Tryz.func14, Tryz.ntmps14
    go_wp2_with fail
    refine (implClasses w).mono ?_
    rintro e w1 ⟨cs, rfl, hcls, hb1⟩
    have hsz : cs.size = 256 := hcls.1
    have HCLS := Lib.hid hcls
    have hthere : (w1.alloc (.cells Tryz.zeroCells60 60)).there w1.heap.size 0 (lexC s cs).size := fun j hj => by
      rw [cell_of_row _ _ _ _ _ _ (heap_alloc_new w1 _)]
      refine ⟨?_, frozen_of_row _ _ _ _ _ (heap_alloc_new w1 _)⟩
      have hj' : 0 + j < Tryz.zeroCells60.size := by rw [zeroLexer]; rw [lexC_size _ _ hsz] at hj; omega
      rw [Array.getElem?_eq_getElem hj']; rfl
    have HTH := Lib.hid hthere
    clear hcls hthere
    go_wp2_with (refine wpList_store_mid rfl 60 (.tmp 4) (.tmp 16) rfl w1.heap.size 0 (lexC s cs) rfl (by rfl) HTH.out (by rw [lexC_size _ _ hsz]; exact HINFO.out) (lexC_one s cs HCLS.out) ?_)
    have hL2 := lexLaid w1 s cs HCLS.out
    have hB2 : Below w.heap.size w ((w1.alloc (.cells Tryz.zeroCells60 60)).setCells w1.heap.size 0 (lexC s cs).toList) := belowCells (hb1.alloc hb1.size _) hb1.size _ _
    generalize hW2 : (w1.alloc (.cells Tryz.zeroCells60 60)).setCells w1.heap.size 0 (lexC s cs).toList = W2 at hL2 hB2 ⊢
    have hGsz := hb1.size
    generalize hGG : w1.heap.size = G at *
    have HW2 := Lib.hid hW2
    have HGG := Lib.hid hGG
    clear hW2 hGG hb1 HTH
    refine (implSkip hL2 hs (Nat.zero_le _)).mono ?_
    rw [HG0.out, Nat.zero_add]
    rintro e w3 ⟨rfl, mv3⟩
    have hB3 : Below w.heap.size w w3 := mv3.below hB2 hGsz (by have := hL2.lt; omega)
    have HL3 := Lib.hid mv3.1
    clear hL2 hB2 mv3
    go_wp2_with fail
    go_loopg [5] (s.size - gap false s.data.toList) (fun gk v wr => ∃ (k : Nat) (acc : List Tok) (ys : List Tk) (a1 : Option Addr) (c1 : Nat), gk = s.size - k ∧ k ≤ s.size ∧ v = .slice a1 ys.length c1 ∧ ys.length ≤ k ∧ Hid (ys = acc.map tkOf) ∧ Hid (lexB s.data.toList = cat acc (lexAt k (s.data.toList.drop k))) ∧ OwnT wr (G + 1) a1 c1 ys ∧ LexS wr G s k ∧ Below w.heap.size w wr)
    case atStart => exact ⟨_, [], [], none, 0, rfl, hg0, rfl, Nat.zero_le _, rfl, by unfold Hid; rw [HB.out, cat_nil], OwnT.nil _ _, HL3.out, hB3⟩
    case round =>
      obtain ⟨k, acc, ys, a1, c1, rfl, hk, rfl, hyk, hys, hlex, hown, hL, hb⟩ := hrel
      have hsr := hb.size
      by_cases hlt : k < s.size
      · have HMO : Hid (decide (k < s.size) = true) := decide_eq_true hlt
        have HL := Lib.hid hL
        clear hL
        go_wp2_with fail
        refine (implMore HL.out hs (by omega) true HMO.out).mono ?_
        rintro e w4 ⟨rfl, n4, hw4⟩
        have hb4' : Below wr.heap.size wr w4 := hw4 ▸ below_drewN (Below.refl _ _) n4
        have hL4 := HL.out.below hb4' HL.out.lt
        have hown4 := hown.below hb4'
        have hb4 : Below w.heap.size w w4 := hb.trans (hb4'.mono hsr)
        have c1' := hL4.c1
        have hs4 := hb4.size
        have HL4 := Lib.hid hL4
        have HGl := Lib.hid (HGL.out.below hb4 hw16)
        clear hw4 hb4' HL hown hb hL4
        go_wp2_with fail
        refine (implToken HL4.out tp p HGl.out (by omega) hs hlt).mono ?_
        have hd0 : s.data.toList.drop k ≠ [] := by rw [drop_at s k hlt]; simp
        have HD0 := Lib.hid hd0
        clear hd0
        rintro e w5 (⟨x, hx, rfl, mv5⟩ | ⟨hx, ka, t, m, rfl, mv5⟩)
        · have hpos := one_pos (k := x.1) (t := x.2.1) (n := x.2.2) hx
          obtain ⟨hle, _⟩ := one_le (k := x.1) (t := x.2.1) (n := x.2.2) hx
          have hkn : k + x.2.2 ≤ s.size := by rw [List.length_drop, HLL.out] at hle; omega
          have HX := Lib.hid (lexStep hlex.out hx)
          have hown5 : OwnT w5 (G + 1) a1 c1 ys := hown4.kept mv5.2 (fun q hq e => by cases e; have := (hown4.lt hq).1; omega)
          have hb5 : Below w.heap.size w w5 := mv5.below hb4 hGsz (by have := HL4.out.lt; omega)
          have hL5 := mv5.1
          have hG5 : G + 1 ≤ w5.heap.size := hL5.lt
          have hs5 := hb5.size
          have HL5 := Lib.hid hL5
          have HXX := Lib.hid hx
          clear hx hle mv5 hL5 hown4 hb4
          go_wp2_with (at_builtin; refine wpAppendTok rfl (.tmp 32) (.tmp 37) rfl i0 hi0 hz0 hz1 hz2 (G + 1) a1 c1 ys w5.heap.size ⟨(x.1 : Int), ⟨x.2.1.toArray⟩, (k : Int)⟩ rfl (hown5.alloc _) rfl (heap_alloc_new _ _) (by omega) (by rw [size_alloc1]; omega) ?_; intro a6 c6 w6 l6 hl6 hown6 hg6 _)
          have hb6 : Below w.heap.size w w6 := (hb5.alloc hs5 _).grown hg6 (by rw [size_alloc1]; omega) (fun q hq => by have := (hown5.lt hq).1; omega)
          have hL6 : LexS w6 G s (k + x.2.2) := by
            have h1 := HL5.out.below ((Below.refl w5.heap.size w5).alloc (Nat.le_refl _) (.cells #[.int .i64 (x.1 : Int), .string ⟨x.2.1.toArray⟩, .int .i64 (k : Int)] 36)) HL5.out.lt
            obtain ⟨D, hD, r⟩ := h1.ex
            exact ⟨D, (hg6.block G h1.lt (fun e => by have := (hown5.lt e.symm).1; omega)).trans hD, r⟩
          have HL6 := Lib.hid hL6
          have hs6 := hb6.size
          clear hL6 hg6 hown5 hb5
          refine (implSkip HL6.out hs hkn).mono ?_
          rintro e w7 ⟨rfl, mv7⟩
          have hgl : k + x.2.2 + gap false (s.data.toList.drop (k + x.2.2)) ≤ s.size := by
            have := gap_len false (s.data.toList.drop (k + x.2.2))
            rw [List.length_drop, HLL.out] at this
            omega
          have hb7 : Below w.heap.size w w7 := mv7.below hb6 hGsz (by have := HL6.out.lt; omega)
          have hown7 : OwnT w7 (G + 1) a6 c6 l6 := hown6.kept mv7.2 (fun q hq e => by cases e; have := (hown6.lt hq).1; omega)
          have hL7 := mv7.1
          clear mv7
          go_wp2_with fail
          go_roundg (s.size - (k + x.2.2 + gap false (s.data.toList.drop (k + x.2.2))))
          case measure => omega
          case rel => exact ⟨_, acc ++ [⟨x.1, x.2.1, k⟩], l6, a6, c6, rfl, hgl, rfl, by rw [hidT_len hl6]; omega, by unfold Hid; rw [hl6.out, hys.out]; simp [tkOf], HX, hown7, hL7, hb7⟩
        · have HX : Hid (lexB s.data.toList = cat acc (.error k)) := by unfold Hid; rw [hlex.out, lexAt_bad HD0.out hx]
          have hb5 : Below w.heap.size w w5 := mv5.below hb4 hGsz (by have := HL4.out.lt; omega)
          clear hx mv5
          go_wp2_with fail
          go_ret2
          have hbd := bad_of_cat HX.out
          exact lexAns_mk (ys := []) hbd.1 hbd.2 (OwnT.nil _ _) hb5
      · have HMO : Hid (decide (k < s.size) = false) := decide_eq_false hlt
        obtain rfl : k = s.size := by omega
        have HX : Hid (lexB s.data.toList = cat acc (.ok [])) := by unfold Hid; rw [hlex.out, List.drop_of_length_le (by rw [HLL.out]; exact Nat.le_refl _), lexAt_nil]
        go_wp2_with fail
        refine (implMore hL hs (by omega) false HMO.out).mono ?_
        rintro e w4 ⟨rfl, n4, hw4⟩
        have hb4' : Below wr.heap.size wr w4 := hw4 ▸ below_drewN (Below.refl _ _) n4
        have hown4 := hown.below hb4'
        have hb4 : Below w.heap.size w w4 := hb.trans (hb4'.mono hsr)
        clear hw4 hb4'
        go_wp2_with fail
        go_ret2
        have hok := ok_of_cat HX.out
        exact lexAns_mk (ys := ys) (by rw [hys.out]; exact hok.1) hok.2 (hown4.lower (by omega)) hb4

end Go.Proofs.YtgnillmhpockkaaGreatDoor

namespace Go.Proofs.YtgnillmhpockkaaGreatDoor

def upB (b : UInt8) : UInt8 := if decide (97 ≤ b.toNat) && decide (b.toNat ≤ 122) then b - 32 else b

theorem upB_cases (b : UInt8) : (upB b = b ∧ ¬ (97 ≤ b.toNat ∧ b.toNat ≤ 122)) ∨ ((upB b).toNat = b.toNat - 32 ∧ 97 ≤ b.toNat ∧ b.toNat ≤ 122) := by
  unfold upB
  by_cases h : 97 ≤ b.toNat ∧ b.toNat ≤ 122
  · right
    rw [if_pos (by simp [h.1, h.2])]
    refine ⟨?_, h⟩
    have : (32 : UInt8).toNat = 32 := rfl
    rw [UInt8.toNat_sub_of_le _ _ (by rw [UInt8.le_iff_toNat_le]; omega), this]
  · left
    refine ⟨?_, h⟩
    rw [if_neg]
    intro hc
    simp only [Bool.and_eq_true, decide_eq_true_eq] at hc
    exact h hc

theorem up_up (b : UInt8) : upB (upB b) = upB b := by
  rcases upB_cases b with ⟨e, _⟩ | ⟨e, h1, h2⟩
  · rw [e, e]
  · rcases upB_cases (upB b) with ⟨e', _⟩ | ⟨e', h3, h4⟩
    · exact e'
    · omega

theorem more_up (b : UInt8) : moreB (upB b) = moreB b := by
  rcases upB_cases b with ⟨e, _⟩ | ⟨e, h1, h2⟩
  · rw [e]
  · rw [Bool.eq_iff_iff]
    simp only [moreB, letterB, digitB, e, Bool.or_eq_true, Bool.and_eq_true, decide_eq_true_eq, beq_iff_eq]; omega

theorem letter_up (b : UInt8) : letterB (upB b) = letterB b := by
  rcases upB_cases b with ⟨e, _⟩ | ⟨e, h1, h2⟩
  · rw [e]
  · rw [Bool.eq_iff_iff]
    simp only [letterB, e, Bool.or_eq_true, Bool.and_eq_true, decide_eq_true_eq, beq_iff_eq]; omega

theorem low_up (b : UInt8) : lowB (upB b) = lowB b := by
  rcases upB_cases b with ⟨e, _⟩ | ⟨e, h1, h2⟩
  · rw [e]
  · rcases lowB_cases (upB b) with ⟨e1, h3⟩ | ⟨e1, h3, h4⟩
    · omega
    · rcases lowB_cases b with ⟨e2, h5⟩ | ⟨e2, h5, h6⟩
      · rw [e2]; exact UInt8.toNat_inj.1 (by omega)
      · omega

/-- A byte that no letter is stays what it is. -/
theorem up_iff (b : UInt8) (n : Nat) (h : ¬ (97 ≤ n ∧ n ≤ 122)) (h' : ¬ (65 ≤ n ∧ n ≤ 90)) : (upB b).toNat = n ↔ b.toNat = n := by
  rcases upB_cases b with ⟨e, _⟩ | ⟨e, h1, h2⟩
  · rw [e]
  · omega

theorem blank_up (b : UInt8) : blankB (upB b) = blankB b := by
  rw [Bool.eq_iff_iff]
  simp only [blankB, Bool.or_eq_true, beq_iff_eq]
  rw [up_iff b 32 (by omega) (by omega), up_iff b 9 (by omega) (by omega), up_iff b 10 (by omega) (by omega), up_iff b 13 (by omega) (by omega)]

def weak : List UInt8 → List UInt8 → Prop
  | [], [] => True
  | b :: r, c :: s => (c = b ∨ c = upB b) ∧ weak r s
  | _, _ => False

theorem weak_refl : ∀ l, weak l l
  | [] => trivial
  | _ :: r => ⟨.inl rfl, weak_refl r⟩

theorem weak_len : ∀ {l u : List UInt8}, weak l u → u.length = l.length
  | [], [], _ => rfl
  | [], _ :: _, h => h.elim
  | _ :: _, [], h => h.elim
  | b :: r, c :: s, h => by simp [weak_len h.2]

theorem weak_drop : ∀ {l u : List UInt8} (n : Nat), weak l u → weak (l.drop n) (u.drop n)
  | _, _, 0, h => h
  | [], [], _ + 1, _ => trivial
  | [], _ :: _, _ + 1, h => h.elim
  | _ :: _, [], _ + 1, h => h.elim
  | b :: r, c :: s, n + 1, h => weak_drop (l := r) (u := s) n h.2

theorem weak_head {l u : List UInt8} (h : weak l u) : (l.head? = none ∧ u.head? = none) ∨ ∃ b c, l.head? = some b ∧ u.head? = some c ∧ (c = b ∨ c = upB b) := by
  cases l with
  | nil => cases u with
    | nil => exact .inl ⟨rfl, rfl⟩
    | cons c s => exact h.elim
  | cons b r => cases u with
    | nil => exact h.elim
    | cons c s => exact .inr ⟨b, c, rfl, rfl, h.1⟩

theorem weak_set : ∀ {l u : List UInt8} (j : Nat) (h : j < u.length), weak l u → weak l (u.set j (upB u[j]))
  | [], [], j, h, _ => by simp at h
  | [], _ :: _, _, _, h => h.elim
  | _ :: _, [], _, _, h => h.elim
  | b :: r, c :: s, 0, _, h => by
    refine ⟨?_, h.2⟩
    rcases h.1 with e | e
    · right; simp only [List.getElem_cons_zero]; rw [e]
    · right; simp only [List.getElem_cons_zero]; rw [e, up_up]
  | b :: r, c :: s, j + 1, hj, h => ⟨h.1, by simpa using weak_set (l := r) (u := s) j (by simpa using hj) h.2⟩

theorem gap_weak : ∀ {l u : List UInt8} (c : Bool), weak l u → gap c u = gap c l
  | [], [], _, _ => rfl
  | [], _ :: _, _, h => h.elim
  | _ :: _, [], _, h => h.elim
  | b :: r, d :: s, true, h => by
    have e : (d.toNat != 10) = (b.toNat != 10) := by
      rcases h.1 with rfl | rfl
      · rfl
      · rw [Bool.eq_iff_iff]; simp only [bne_iff_ne, ne_eq, up_iff b 10 (by omega) (by omega)]
    rw [gap, gap, e, gap_weak _ h.2]
  | b :: r, d :: s, false, h => by
    have e1 : blankB d = blankB b := by
      rcases h.1 with rfl | rfl
      · rfl
      · exact blank_up b
    have e2 : (d.toNat == 45) = (b.toNat == 45) := by
      rcases h.1 with rfl | rfl
      · rfl
      · rw [Bool.eq_iff_iff]; simp only [beq_iff_eq, up_iff b 45 (by omega) (by omega)]
    have e3 : ((s.head?.map (·.toNat)) == some 45) = ((r.head?.map (·.toNat)) == some 45) := by
      rcases weak_head h.2 with ⟨h1, h2⟩ | ⟨x, y, h1, h2, h3⟩
      · rw [h1, h2]
      · rw [h1, h2]
        rcases h3 with rfl | rfl
        · rfl
        · rw [Bool.eq_iff_iff]; simp only [Option.map_some, beq_iff_eq, Option.some.injEq, up_iff x 45 (by omega) (by omega)]
    rw [gap, gap, e1, e2, e3, gap_weak false h.2, gap_weak true h.2]

theorem run_weak : ∀ {l u : List UInt8}, weak l u → runN u = runN l ∧ (runL u).map lowB = (runL l).map lowB
  | [], [], _ => ⟨rfl, rfl⟩
  | [], _ :: _, h => h.elim
  | _ :: _, [], h => h.elim
  | b :: r, d :: s, h => by
    have e1 : moreB d = moreB b := by
      rcases h.1 with rfl | rfl
      · rfl
      · exact more_up b
    have e2 : lowB d = lowB b := by
      rcases h.1 with rfl | rfl
      · rfl
      · exact low_up b
    obtain ⟨h1, h2⟩ := run_weak h.2
    unfold runN runL at h1 ⊢
    unfold runL at h2
    rw [List.takeWhile_cons, List.takeWhile_cons, e1]
    split
    · simp only [List.length_cons, List.map_cons, h1, h2, e2, and_self]
    · exact ⟨rfl, rfl⟩

theorem runL_take (l : List UInt8) : runL l = l.take (runN l) := by
  unfold runN runL
  induction l with
  | nil => rfl
  | cons b r ih =>
    rw [List.takeWhile_cons]
    split
    · rw [List.length_cons, List.take_succ_cons, ← ih]
    · rfl

theorem quoted_weak {q : UInt8} (hq : q.toNat = 34 ∨ q.toNat = 39) : ∀ (m : Nat) {l u : List UInt8} {t : List UInt8} {n : Nat}, l.length ≤ m → weak l u → quoted q l = some (t, n) → u.take n = l.take n → quoted q u = some (t, n)
  | _, [], [], _, _, _, _, h, _ => h
  | _, [], _ :: _, _, _, _, h, _, _ => h.elim
  | _, _ :: _, [], _, _, _, h, _, _ => h.elim
  | _, [b], d :: s, t, n, _, hw, h, he => by
    rw [quoted] at h
    split at h
    · cases h
      cases s with
      | nil =>
        have : d = b := by simpa using he
        subst this
        rw [quoted, if_pos (by assumption)]
      | cons x y => exact hw.2.elim
    · cases h
  | _, _ :: _ :: _, [_], _, _, _, hw, _, _ => hw.2.elim
  | 0, _ :: _ :: _, _ :: _ :: _, _, _, hm, _, _, _ => by simp at hm
  | m + 1, b :: c :: r, d :: e :: s, t, n, hm, hw, h, he => by
    have h' : r.length + 1 ≤ m := by simpa using hm
    rw [quoted] at h
    split at h
    · rename_i hb
      have n1 : 1 ≤ n := by
        split at h
        · cases hq2 : quoted q r with
          | none => rw [hq2] at h; cases h
          | some y => rw [hq2] at h; cases h; omega
        · cases h; omega
      have hd : d = b := by
        have := congrArg List.head? he
        simpa [List.head?_take, show n ≠ 0 by omega] using this
      rw [quoted, hd, if_pos hb]
      split at h
      · rename_i hc
        cases hq2 : quoted q r with
        | none => rw [hq2] at h; cases h
        | some y =>
          rw [hq2] at h
          cases h
          obtain ⟨yt, yn⟩ := y
          have he2 : e = c := by
            have := congrArg (·[1]?) he
            simpa [List.getElem?_take, show 1 < 2 + yn by omega] using this
          have het : s.take yn = r.take yn := by
            have := congrArg (List.drop 2) he
            simpa [List.drop_take] using this
          rw [he2, if_pos hc, quoted_weak hq m (by omega) hw.2.2 hq2 het]
          rfl
      · rename_i hc
        rw [if_neg]
        · exact h
        · rcases hw.2.1 with e1 | e1
          · rw [e1]; exact hc
          · rw [e1]
            intro e2
            apply hc
            apply UInt8.toNat_inj.1
            have h5 := congrArg UInt8.toNat e2
            rcases hq with hq | hq
            · rw [hq] at h5 ⊢; exact (up_iff c 34 (by omega) (by omega)).1 h5
            · rw [hq] at h5 ⊢; exact (up_iff c 39 (by omega) (by omega)).1 h5
    · rename_i hb
      cases hq2 : quoted q (c :: r) with
      | none => rw [hq2] at h; cases h
      | some y =>
        rw [hq2] at h
        cases h
        obtain ⟨yt, yn⟩ := y
        have hd : d = b := by
          have := congrArg List.head? he
          simpa [List.head?_take] using this
        have het : (e :: s).take yn = (c :: r).take yn := by
          have := congrArg (List.drop 1) he
          simpa [List.drop_take] using this
        rw [quoted, hd, if_neg hb, quoted_weak hq m (by simpa using h') hw.2 hq2 het]
        rfl

theorem digit_up (b : UInt8) : digitB (upB b) = digitB b := by
  rcases upB_cases b with ⟨e, _⟩ | ⟨e, h1, h2⟩
  · rw [e]
  · rw [Bool.eq_iff_iff]
    simp only [digitB, e, Bool.and_eq_true, decide_eq_true_eq]; omega

theorem two_weak {b c d : UInt8} (h : d = c ∨ d = upB c) : twoB b d = twoB b c := by
  rcases h with rfl | rfl
  · rfl
  · rw [Bool.eq_iff_iff]
    simp only [twoB, Bool.or_eq_true, Bool.and_eq_true, beq_iff_eq, up_iff c 61 (by omega) (by omega), up_iff c 62 (by omega) (by omega)]

/-- The word at the head, in great letters where it is one that may. -/
theorem one_weak {l u : List UInt8} {k : Nat} {t : List UInt8} {n : Nat} (hw : weak l u) (h : one l = some (k, t, n)) (he : k ≠ 0 → u.take n = l.take n) : one u = some (k, t, n) := by
  have hp := one_pos h
  cases l with
  | nil => simp [one] at h
  | cons b r => cases u with
    | nil => exact hw.elim
    | cons d s =>
      have hrun := run_weak hw
      rw [one] at h
      split at h
      · rename_i hb
        have hd : letterB d = true := by
          rcases hw.1 with rfl | rfl
          · exact hb
          · rw [letter_up]; exact hb
        rw [one, if_pos hd, hrun.1, hrun.2]
        exact h
      · rename_i hb
        have hk : k ≠ 0 := by
          split at h
          · split at h
            · simp only [Option.some.injEq, Prod.mk.injEq] at h; omega
            · cases h
          · split at h
            · cases hq : quoted 34 r with
              | none => rw [hq] at h; cases h
              | some x =>
                rw [hq, Option.bind_some] at h
                split at h
                · simp only [Option.some.injEq, Prod.mk.injEq] at h; omega
                · cases h
            · split at h
              · cases hq : quoted 39 r with
                | none => rw [hq] at h; cases h
                | some x =>
                  rw [hq, Option.bind_some] at h
                  split at h
                  · simp only [Option.some.injEq, Prod.mk.injEq] at h; omega
                  · cases h
              · split at h
                · cases h
                · simp only [Option.some.injEq, Prod.mk.injEq] at h; omega
        have hen := he hk
        have hd : d = b := by
          have := congrArg List.head? hen
          simpa [List.head?_take, show n ≠ 0 by omega] using this
        subst hd
        rw [one, if_neg hb]
        split at h
        · rename_i hdg
          rw [if_pos hdg]
          split at h
          · rename_i hr
            simp only [Option.some.injEq, Prod.mk.injEq] at h
            obtain ⟨rfl, rfl, rfl⟩ := h
            have e : runL (d :: s) = runL (d :: r) := by rw [runL_take, runL_take, hrun.1, hen]
            rw [e, if_pos hr, hrun.1]
          · cases h
        · rename_i hdg
          rw [if_neg hdg]
          split at h
          · rename_i h34
            rw [if_pos h34]
            cases hq : quoted 34 r with
            | none => rw [hq] at h; cases h
            | some x =>
              obtain ⟨xt, xn⟩ := x
              rw [hq, Option.bind_some] at h
              split at h
              · rename_i hnm
                simp only [Option.some.injEq, Prod.mk.injEq] at h
                obtain ⟨rfl, rfl, rfl⟩ := h
                have het : s.take xn = r.take xn := by
                  have := congrArg (List.drop 1) hen
                  simpa [List.drop_take] using this
                rw [quoted_weak (.inl rfl) _ (Nat.le_refl _) hw.2 hq het, Option.bind_some, if_pos hnm]
              · cases h
          · rename_i h34
            rw [if_neg h34]
            split at h
            · rename_i h39
              rw [if_pos h39]
              cases hq : quoted 39 r with
              | none => rw [hq] at h; cases h
              | some x =>
                obtain ⟨xt, xn⟩ := x
                rw [hq, Option.bind_some] at h
                split at h
                · rename_i hnm
                  simp only [Option.some.injEq, Prod.mk.injEq] at h
                  obtain ⟨rfl, rfl, rfl⟩ := h
                  have het : s.take xn = r.take xn := by
                    have := congrArg (List.drop 1) hen
                    simpa [List.drop_take] using this
                  rw [quoted_weak (.inr rfl) _ (Nat.le_refl _) hw.2 hq het, Option.bind_some, if_pos hnm]
                · cases h
            · rename_i h39
              rw [if_neg h39]
              have es : signN (d :: s) = signN (d :: r) := by
                cases r with
                | nil => cases s with
                  | nil => rfl
                  | cons x y => exact hw.2.elim
                | cons c r => cases s with
                  | nil => exact hw.2.elim
                  | cons x y => rw [signN, signN, two_weak hw.2.1]
              rw [es]
              split at h
              · cases h
              · rename_i hs
                simp only [Option.some.injEq, Prod.mk.injEq] at h
                obtain ⟨rfl, rfl, rfl⟩ := h
                rw [if_neg hs, hen]

theorem lexAt_at : ∀ (m p : Nat) (l : List UInt8) (ts : List Tok), l.length ≤ m → lexAt p l = .ok ts → ∀ x ∈ ts, p ≤ x.at_ ∧ x.at_ + x.text.length ≤ p + l.length
  | 0, p, l, ts, hm, h, x, hx => by
    rw [List.eq_nil_of_length_eq_zero (Nat.le_zero.1 hm), lexAt_nil] at h
    cases h
    cases hx
  | m + 1, p, l, ts, hm, h, x, hx => by
    by_cases h0 : l = []
    · subst h0; rw [lexAt_nil] at h; cases h; cases hx
    · cases h1 : one l with
      | none => rw [lexAt_bad h0 h1] at h; cases h
      | some y =>
        obtain ⟨k, t, n⟩ := y
        have hpos := one_pos h1
        obtain ⟨hle, htl⟩ := one_le h1
        have hl : 0 < l.length := List.length_pos_iff.2 h0
        rw [lexAt_one h1] at h
        cases h2 : lexAt (p + n + gap false (l.drop n)) ((l.drop n).drop (gap false (l.drop n))) with
        | error e => rw [h2] at h; cases h
        | ok us =>
          rw [h2] at h
          cases h
          rcases List.mem_append.1 hx with hx | hx
          · simp only [List.mem_singleton] at hx
            subst hx
            exact ⟨Nat.le_refl _, by show p + t.length ≤ _; omega⟩
          · have h3 := lexAt_at m _ _ us (by simp only [List.length_drop]; omega) h2 x hx
            simp only [List.length_drop] at h3
            have hg : gap false (l.drop n) ≤ (l.drop n).length := by
              rcases gap_tail (l.drop n) false with ⟨h4, _⟩ | ⟨h4, _⟩ <;> omega
            simp only [List.length_drop] at hg
            omega

theorem lexAt_up : ∀ (m p : Nat) (l u : List UInt8) (ts : List Tok), l.length ≤ m → lexAt p l = .ok ts → weak l u →
    (∀ j, (∀ x ∈ ts, x.kind = 0 → p + j < x.at_ ∨ x.at_ + x.text.length ≤ p + j) → u[j]? = l[j]?) → lexAt p u = .ok ts
  | 0, p, l, u, ts, hm, h, hw, _ => by
    have := List.eq_nil_of_length_eq_zero (Nat.le_zero.1 hm)
    subst this
    cases u with
    | nil => exact h
    | cons _ _ => exact hw.elim
  | m + 1, p, l, u, ts, hm, h, hw, hs => by
    by_cases h0 : l = []
    · subst h0
      cases u with
      | nil => exact h
      | cons _ _ => exact hw.elim
    · cases h1 : one l with
      | none => rw [lexAt_bad h0 h1] at h; cases h
      | some y =>
        obtain ⟨k, t, n⟩ := y
        have hpos := one_pos h1
        obtain ⟨hle, htl⟩ := one_le h1
        have hl : 0 < l.length := List.length_pos_iff.2 h0
        rw [lexAt_one h1] at h
        cases h2 : lexAt (p + n + gap false (l.drop n)) ((l.drop n).drop (gap false (l.drop n))) with
        | error e => rw [h2] at h; cases h
        | ok us =>
          rw [h2] at h
          cases h
          have hat := lexAt_at _ _ _ us (Nat.le_refl _) h2
          have hone : one u = some (k, t, n) := by
            refine one_weak hw h1 fun hk => ?_
            apply List.ext_getElem?
            intro j
            rw [List.getElem?_take, List.getElem?_take]
            split
            · refine hs j fun x hx hx0 => ?_
              rcases List.mem_append.1 hx with hx | hx
              · simp only [List.mem_singleton] at hx
                subst hx
                exact absurd hx0 hk
              · have := (hat x hx).1
                left; omega
            · rfl
          rw [lexAt_one hone, gap_weak false (weak_drop n hw)]
          rw [lexAt_up m _ ((l.drop n).drop (gap false (l.drop n))) ((u.drop n).drop (gap false (l.drop n))) us (by simp only [List.length_drop]; omega) h2 (weak_drop _ (weak_drop _ hw)) ?_]
          · rfl
          · intro j hj
            rw [List.getElem?_drop, List.getElem?_drop, List.getElem?_drop, List.getElem?_drop]
            refine hs _ fun x hx hx0 => ?_
            rcases List.mem_append.1 hx with hx | hx
            · simp only [List.mem_singleton] at hx
              subst hx
              right
              show p + t.length ≤ _
              omega
            · have := hj x hx hx0
              omega

/-- U is L but for words in great letters. -/
structure Upped (ts : List Tok) (l u : List UInt8) : Prop where
  weak : weak l u
  same : ∀ j, (∀ x ∈ ts, x.kind = 0 → j < x.at_ ∨ x.at_ + x.text.length ≤ j) → u[j]? = l[j]?

theorem Upped.refl (ts : List Tok) (l : List UInt8) : Upped ts l l := ⟨weak_refl l, fun _ _ => rfl⟩

theorem Upped.set {ts : List Tok} {l u : List UInt8} (h : Upped ts l u) {x : Tok} (hx : x ∈ ts) (h0 : x.kind = 0) {k : Nat} (hk : k < x.text.length) (hlt : x.at_ + k < u.length) : Upped ts l (u.set (x.at_ + k) (upB u[x.at_ + k])) := by
  refine ⟨weak_set _ hlt h.weak, fun j hj => ?_⟩
  have := hj x hx h0
  rw [List.getElem?_set_ne (by omega)]
  exact h.same j hj

theorem lexB_at {l : List UInt8} {ts : List Tok} (h : lexB l = .ok ts) : ∀ x ∈ ts, x.at_ + x.text.length ≤ l.length := by
  unfold lexB at h
  split at h
  · cases h
  · intro x hx
    have := lexAt_at _ _ _ ts (Nat.le_refl _) h x hx
    have hg : gap false l ≤ l.length := by
      rcases gap_tail l false with ⟨h4, _⟩ | ⟨h4, _⟩ <;> omega
    simp only [List.length_drop] at this
    omega

theorem lexB_up {l u : List UInt8} {ts : List Tok} (h : lexB l = .ok ts) (hu : Upped ts l u) : lexB u = .ok ts := by
  unfold lexB at h ⊢
  split at h
  · cases h
  · rename_i hl
    rw [if_neg (by rw [weak_len hu.weak]; exact hl), gap_weak false hu.weak]
    refine lexAt_up _ _ _ _ ts (Nat.le_refl _) h (weak_drop _ hu.weak) fun j hj => ?_
    rw [List.getElem?_drop, List.getElem?_drop]
    exact hu.same _ hj

end Go.Proofs.YtgnillmhpockkaaGreatDoor

namespace Go.Proofs.YtgnillmhpockkaaGreatDoor
open Go.ChangeShapes Go.WideShapes Go.ChangeAt Go.RowKit

theorem gSynL : Tryz.prog.globalNamed "strconv.ErrSyntax" = some 5 := by kernel_rfl
theorem gSynTypeL : (Tryz.prog.globals[5]?).map (·.type) = some 91 := by kernel_rfl
theorem cellsErrL : Tryz.prog.cellsOf 180 = 1 := by kernel_rfl
theorem cellsStrL : Tryz.prog.cellsOf 9 = 1 := by kernel_rfl
theorem starErrL : "*" ++ "errors.errorString" = "*errors.errorString" := by decide
theorem rowErrL (u : TypeId) (h : Tryz.prog.typeName? 3 u = some "*errors.errorString") : u = 178 :=
  typeName_ptr_named (nm := "errors.errorString") (by rw [starErrL]; kernel_rfl) (by kernel_rfl) (by decide) u (by rw [starErrL]; exact h)

theorem synVarL {W : World} {rest : List (String × DataW Unit)} (h : laidMet Tryz.prog (("strconv.ErrSyntax", Rows.laid_strconv_ErrSyntax) :: rest) W) :
    ∃ p, W.var? Tryz.prog "strconv.ErrSyntax" = some #[.iface 178 p] := by
  obtain ⟨a, s, hv, _⟩ := laid_sentinel h gSynL gSynTypeL Tryz.underlying91 rowErrL Tryz.underlying178 Tryz.underlying180 rfl rfl Tryz.underlying9 cellsErrL cellsStrL
  exact ⟨_, hv⟩

theorem var_lt {W : World} {n : String} {g : Nat} {cs : Array Value} (hg : Tryz.prog.globalNamed n = some g) (hv : W.var? Tryz.prog n = some cs) : g < W.heap.size := by
  unfold World.var? at hv
  rw [hg, Option.bind_some] at hv
  rcases Nat.lt_or_ge g W.heap.size with h | h
  · exact h
  · simp [Array.getElem?_eq_none h] at hv

/-- The row's tables give what Lex asks. -/
theorem glob_of {W : World} {d0 d1 d3 d4 : String × DataW Unit} {rest : List (String × DataW Unit)}
    (h : laidMet Tryz.prog (d0 :: d1 :: ("internal/strconv.uint64pow10", Rows.laid_internal_strconv_uint64pow10) :: d3 :: d4 :: ("strconv.ErrSyntax", Rows.laid_strconv_ErrSyntax) :: rest) W) :
    ∃ p, Glob 178 p W ∧ 8 ≤ W.heap.size := by
  have h2 := laidMet.tail (laidMet.tail h)
  have ht := powTab_of h2
  obtain ⟨p, hv⟩ := synVarL (laidMet.tail (laidMet.tail (laidMet.tail h2)))
  have l1 := var_lt gPow7 ht
  have l2 := var_lt gSynL hv
  exact ⟨p, ⟨ht, hv⟩, by omega⟩

theorem placed_count {l : List UInt8} : ∀ {ts : List Tok} {p : Nat}, placed l p ts → ts = [] ∨ p + ts.length ≤ l.length
  | [], _, _ => .inl rfl
  | x :: r, p, h => by
    right
    obtain ⟨b, hb, _⟩ := h.2.1
    have hlt : x.at_ < l.length := by
      rcases Nat.lt_or_ge x.at_ l.length with h' | h'
      · exact h'
      · rw [List.getElem?_eq_none h'] at hb; cases hb
    have h0 := h.1
    simp only [List.length_cons]
    rcases placed_count h.2.2 with rfl | h1
    · simp; omega
    · omega

theorem right_kind {k : Nat} {t : List UInt8} (h : Right k t) : k ≤ 4 := h.2.1

theorem lexB_right {l : List UInt8} {ts : List Tok} (h : lexB l = .ok ts) : ∀ x ∈ ts, Right x.kind x.text := by
  unfold lexB at h
  split at h
  · cases h
  · exact lexAt_right _ _ _ ts (Nat.le_refl _) h

theorem toks_fit (s : ByteArray) (hs : s.size ≤ 1048576) : FitsT (toks s) ∧ (toks s).length ≤ 1048576 := by
  have hl : s.data.toList.length = s.size := by simp
  unfold toks
  cases h : lexB s.data.toList with
  | error e => exact ⟨fun x hx => by simp [wordsOf] at hx, by simp [wordsOf]⟩
  | ok ts =>
    simp only [wordsOf]
    refine ⟨fun x hx => ?_, ?_⟩
    · obtain ⟨y, hy, rfl⟩ := List.mem_map.1 hx
      have h1 := lexB_at h y hy
      have h2 := right_kind (lexB_right h y hy)
      have h3 : (⟨y.text.toArray⟩ : ByteArray).size = y.text.length := by simp [ByteArray.size]
      unfold tkOf isI64 maxLen
      simp only []
      omega
    · rcases placed_count (lexB_placed h) with rfl | h1
      · simp
      · simp; omega

end Go.Proofs.YtgnillmhpockkaaGreatDoor

namespace Go.Proofs.YtgnillmhpockkaaGreatDoor

theorem txt_append (a b : List UInt8) : txt (a ++ b) = txt a ++ txt b := by
  apply ByteArray.ext
  simp [txt, ByteArray.data_append]

theorem txt_size (l : List UInt8) : (txt l).size = l.length := by simp [txt, ByteArray.size]

/-- The text of an expression that has to bind L. -/
def tE (e : Ex) (L : Nat) : ByteArray := txt (textE e L)

theorem tE_size {e : Ex} {L : Nat} (hs : shapeE e = true) (hn : e.nodes ≤ 40) : (tE e L).size ≤ 8400 := by
  have := text_len e.nodes e L (Nat.le_refl _) hs
  unfold tE
  rw [txt_size]
  omega

/-- .. without brackets, and with them. -/
theorem tE_out {e : Ex} {L : Nat} (h : ¬ bindsK e.kind < L) : tE e L = tE e 1 := by
  unfold tE
  rw [text_out (L' := 1) h (by have := (binds_range e.kind).1; omega)]

theorem tE_in {e : Ex} {L : Nat} (h : bindsK e.kind < L) : tE e L = txt [40] ++ tE e 1 ++ txt [41] := by
  unfold tE
  rw [text_in h, ← txt_append, ← txt_append]
  rfl

theorem tE_not (t : ByteArray) (n : Int) (a : Ex) : tE (.mk 6 t n [a]) 1 = txt [110, 111, 116, 32] ++ tE a 3 := by
  unfold tE
  rw [text_not, ← txt_append]
  rfl

theorem tE_null (t : ByteArray) (n : Int) (a : Ex) : tE (.mk 7 t n [a]) 1 = tE a 5 ++ txt [32, 105, 115, 32, 110, 117, 108, 108] := by
  unfold tE
  rw [text_null (by decide), ← txt_append]
  rfl

theorem tE_two {k : Int} (hk : k ∈ ([8, 9, 10, 11, 12, 13, 14, 15, 16, 17, 18] : List Int)) (t : ByteArray) (n : Int) (a b : Ex) : tE (.mk k t n [a, b]) 1 = tE a (firstK k) ++ txt [32] ++ txt (signK k) ++ txt [32] ++ tE b (bindsK k + 1) := by
  have hs := sign_no hk
  unfold tE
  rw [text_two k t n a b [] ⟨hs.1, hs.2.1⟩, ← txt_append, ← txt_append, ← txt_append, ← txt_append]
  simp

theorem tE_name (t : ByteArray) (n : Int) : tE (.mk 0 t n []) 1 = nameT t := by
  unfold tE
  rw [text_leaf]
  unfold nameT leafW wn
  rw [if_pos rfl]
  split
  · exact txt_data t
  · rfl

theorem tE_num (t : ByteArray) (n : Int) : tE (.mk 1 t n []) 1 = dec n := by
  unfold tE
  rw [text_leaf]
  rfl

theorem tE_text (t : ByteArray) (n : Int) : tE (.mk 2 t n []) 1 = quoteT t 39 := by
  unfold tE
  rw [text_leaf]
  rfl

theorem tE_true (t : ByteArray) (n : Int) : tE (.mk 3 t n []) 1 = txt wTrue := by unfold tE; rw [text_leaf]; rfl
theorem tE_false (t : ByteArray) (n : Int) : tE (.mk 4 t n []) 1 = txt wFalse := by unfold tE; rw [text_leaf]; rfl
theorem tE_nul (t : ByteArray) (n : Int) : tE (.mk 5 t n []) 1 = txt wNull := by unfold tE; rw [text_leaf]; rfl

end Go.Proofs.YtgnillmhpockkaaGreatDoor

namespace Go.Proofs.YtgnillmhpockkaaGreatDoor
open Go.RowKit

/-- What ParseExpr answers: the expression, and the place behind it. -/
def parseI (l : List Tk) (at_ : Int) : Option (Ex × Nat) :=
  if 20000 < l.length ∨ at_ < 0 ∨ (l.length : Int) ≤ at_ then none
  else match exprI (3 * l.length + 3) 1 (left l at_.toNat) with
    | some (e, _, r) => if (decide (e.nodes ≤ 40) && shapeE e) = true then some (e, l.length - r.length) else none
    | none => none

theorem fine4 : ∀ t ∈ [wAnd, wOr, wNot, wIs, wNull, wTrue, wFalse], (one (sp 4 t ++ [])).map (·.1) ≠ some 4 := by decide
theorem fine0 : ∀ t ∈ ([[61], [60, 62], [60], [60, 61], [62], [62, 61], [43], [45], [42], [40], [41]] : List (List UInt8)), (one (sp 0 t ++ [])).map (·.1) ≠ some 0 := by decide

theorem fine_tok {k : Nat} {t : List UInt8} (h : Right k t) : FineW ((k : Int), t) := by
  have h1 := (h.2.2 [] ends_nil).1
  refine ⟨fun hk hm => ?_, fun hk hm => ?_⟩
  · have hk' : k = 4 := by simp only at hk; omega
    subst hk'
    exact fine4 t hm (by rw [h1]; rfl)
  · have hk' : k = 0 := by simp only at hk; omega
    subst hk'
    exact fine0 t hm (by rw [h1]; rfl)

theorem wOf_tkOf (x : Tok) : wOf (tkOf x) = ((x.kind : Int), x.text) := by
  unfold wOf tkOf
  simp

/-- Whatever Lex reads is fine. -/
theorem fine_left {s : List UInt8} {ts : List Tok} (h : lexB s = .ok ts) (i : Nat) : Fine (left (ts.map tkOf) i) := by
  intro x hx
  unfold left at hx
  obtain ⟨y, hy, rfl⟩ := List.mem_map.1 hx
  obtain ⟨z, hz, rfl⟩ := List.mem_map.1 (List.mem_of_mem_drop hy)
  rw [wOf_tkOf]
  exact fine_tok (lexB_right h z hz)

theorem words_nonneg : ∀ (n : Nat) (e : Ex) (L : Nat), e.nodes ≤ n → ∀ x ∈ wordsE e L, 0 ≤ x.1 := by
  intro n
  induction n with
  | zero => intro e L h; rw [Ex.nodes_eq] at h; omega
  | succ n ih =>
    intro e L hn
    suffices H : ∀ x ∈ wordsE e 1, 0 ≤ x.1 by
      by_cases hp : bindsK e.kind < L
      · rw [words_in hp]
        intro x hx
        simp only [List.mem_cons, List.mem_append, List.not_mem_nil, or_false] at hx
        rcases hx with rfl | hx | rfl
        · decide
        · exact H x hx
        · decide
      · have := (binds_range e.kind).1
        rw [words_out hp (show ¬ bindsK e.kind < 1 by omega)]
        exact H
    obtain ⟨k, t, m, kids⟩ := e
    have hb := (binds_range k).1
    have hb1 : ¬ bindsK k < 1 := by omega
    rw [Ex.nodes_eq] at hn
    match kids, hn with
    | [], _ =>
      rw [wordsE, if_neg hb1]
      intro x hx
      rw [List.mem_singleton] at hx
      subst hx
      unfold leafW
      (repeat' split) <;> (simp only; omega)
    | [a], hn =>
      have hna : a.nodes ≤ n := by change 1 + nodesL [a] ≤ n + 1 at hn; rw [nodesL, nodesL] at hn; omega
      rw [wordsE, if_neg hb1, if_neg hb1]
      split
      · intro x hx
        rw [List.mem_cons] at hx
        rcases hx with rfl | hx
        · decide
        · exact ih a 3 hna x hx
      · intro x hx
        simp only [List.mem_append, List.mem_cons, List.not_mem_nil, or_false] at hx
        rcases hx with hx | rfl | rfl
        · exact ih a 5 hna x hx
        · decide
        · decide
    | a :: b :: r, hn =>
      have hnn : a.nodes ≤ n ∧ b.nodes ≤ n := by
        change 1 + nodesL (a :: b :: r) ≤ n + 1 at hn
        rw [nodesL, nodesL] at hn
        omega
      rw [wordsE, if_neg hb1]
      intro x hx
      rw [List.mem_append, List.mem_cons] at hx
      rcases hx with hx | rfl | hx
      · exact ih a _ hnn.1 x hx
      · unfold signW
        split <;> (simp only; omega)
      · exact ih b _ hnn.2 x hx

theorem words_of_kt : ∀ {ts : List Tok} {ws : List W}, kt ts = ws.map wn → (∀ x ∈ ws, 0 ≤ x.1) → (ts.map tkOf).map wOf = ws
  | [], [], _, _ => rfl
  | [], y :: r, h, _ => by simp [kt] at h
  | x :: t, [], h, _ => by simp [kt] at h
  | x :: t, y :: r, h, hp => by
    have h' : (x.kind, x.text) :: kt t = wn y :: r.map wn := h
    obtain ⟨h1, h2⟩ := List.cons.inj h'
    have ih := words_of_kt h2 fun z hz => hp z (List.mem_cons_of_mem _ hz)
    have hy := hp y (List.mem_cons_self ..)
    unfold wn at h1
    obtain ⟨h3, h4⟩ := Prod.mk.inj h1
    rw [List.map_cons, List.map_cons, ih, wOf_tkOf, h3, h4]
    have : ((y.1.toNat : Nat) : Int) = y.1 := by omega
    rw [this]

/-- What the model's reader finds there, the program's finds. -/
theorem parse_of {l : List Tk} {i g : Nat} {e : Ex} {r : List W} (hl : l.length ≤ 20000) (hi : i < l.length) (hf : Fine (left l i)) (hg : 10 * l.length + 30 ≤ g) (ha : anyP g 1 (left l i) = some (e, r)) (hs : shapeE e = true) (hn : e.nodes ≤ 40) :
    parseI l (i : Int) = some (e, l.length - r.length) := by
  have hll := left_len l i
  have h1 := (same_all (3 * l.length + 3)).1 1 (left l i) g (Nat.le_refl _) (by omega) hf (by unfold roomI; omega) (by omega)
  rw [ha] at h1
  unfold parseI
  rw [if_neg (by omega)]
  have hti : (i : Int).toNat = i := by omega
  rw [hti]
  cases hx : exprI (3 * l.length + 3) 1 (left l i) with
  | none => rw [hx] at h1; cases h1
  | some q =>
    obtain ⟨e', s', r'⟩ := q
    rw [hx] at h1
    have h2 : (e', r') = (e, r) := Option.some.inj h1
    obtain ⟨rfl, rfl⟩ := Prod.mk.inj h2
    simp only
    rw [if_pos (by simp [hs, hn])]

theorem toks_few {s : List UInt8} {ts : List Tok} (h : lexB s = .ok ts) : ts.length ≤ s.length := by
  rcases placed_count (lexB_placed h) with rfl | h1
  · simp
  · omega

/-- A right expression is read back from its text. -/
theorem parse_text {e : Ex} (hs : shapeE e = true) (hn : e.nodes ≤ 40) :
    ∃ ts, lexB (tE e 1).data.toList = .ok ts ∧ kt ts = (wordsE e 1).map wn ∧ parseI (ts.map tkOf) 0 = some (e, (ts.map tkOf).length) := by
  obtain ⟨ts, h1, h2⟩ := text_reads e 1 hs hn
  have hlen := text_len e.nodes e 1 (Nat.le_refl _) hs
  have hdat : (tE e 1).data.toList = textE e 1 := by unfold tE txt; simp
  refine ⟨ts, by rw [hdat]; exact h1, h2, ?_⟩
  have hw := words_of_kt h2 (words_nonneg e.nodes e 1 (Nat.le_refl _))
  have hfew := toks_few h1
  have hl0 : left (ts.map tkOf) 0 = wordsE e 1 := by unfold left; rw [List.drop_zero]; exact hw
  have hpos := words_pos e 1
  have hlw : (ts.map tkOf).length = (wordsE e 1).length := by rw [← hl0, left_len]; omega
  have hr := (read_back e.nodes e (Nat.le_refl _) hs).1 1 (Nat.le_refl _) (by omega) [] (10 * (ts.map tkOf).length + 30) (by unfold enough; rw [List.append_nil, ← hlw]; omega) (stop_nil _)
  rw [List.append_nil, ← hl0] at hr
  have := parse_of (i := 0) (by rw [List.length_map]; omega) (by omega) (fine_left h1 0) (Nat.le_refl _) hr hs hn
  rw [List.length_nil, Nat.sub_zero] at this
  exact this

end Go.Proofs.YtgnillmhpockkaaGreatDoor

namespace Go.Proofs.YtgnillmhpockkaaGreatDoor
open Go.RowKit

theorem stringsClone5 (s : ByteArray) (w : World) (hs : s.size ≤ 1048576) :
    Calls Tryz.prog 32 #[.string s] w fun e w' => e = .returned (.string s) ∧ Below w.heap.size w w' := by
  go_enter Tryz.func32, Tryz.ntmps32
  go_wp2_with fail
  refine (Tryz.stringslite_Clone s _ (by omega)).mono ?_
  rintro e w1 ⟨rfl, b1⟩
  go_wp2_with fail
  go_ret
  exact ⟨rfl, b1⟩

end Go.Proofs.YtgnillmhpockkaaGreatDoor

namespace Go.Proofs.YtgnillmhpockkaaGreatDoor
open Go.RowKit

def NewX (w : World) (e : Ex) (x : Ending) (w' : World) : Prop :=
  ∃ a c, x = .returned (.agg #[.int .i64 e.kind, .string e.text, .int .i64 e.num, .slice a e.kids.length c]) ∧ TrQ w' (fun b => w.heap.size ≤ b) e a c ∧ Below w.heap.size w w'

def CopyP (d : Nat) : Prop := ∀ (e : Ex) (a : Option Addr) (c : Nat) (w : World), e.fit → e.wt ≤ 1048576 → KidsAt w d a c e.kids →
  Calls Tryz.prog 47 #[.agg #[.int .i64 e.kind, .string e.text, .int .i64 e.num, .slice a e.kids.length c]] w (NewX w e)

/-- What stands between two rounds: the expression, its copy so far. -/
structure CpS (w : World) (e : Ex) (a : Option Addr) (c : Nat) (R : Nat) (es : List Es) (ak : Option Addr) (ck : Nat) (wr : World) : Prop where
  p : ExRow wr w.heap.size e.kind e.text e.num (.slice a e.kids.length c)
  rb : ExRow wr (w.heap.size + 1) 0 ⟨#[]⟩ 0 (.slice none 0 0)
  er : ExRow wr R e.kind e.text e.num (.slice ak es.length ck)
  row : Row (R + 1) wr ak ck es
  bel : Below w.heap.size w wr
  hR : w.heap.size + 2 ≤ R
  le : es.length ≤ e.kids.length
  eq : es.map Es.e = e.kids.take es.length

theorem CpS.below {w : World} {e : Ex} {a : Option Addr} {c : Nat} {R : Nat} {es : List Es} {ak : Option Addr} {ck : Nat} {wr wr' : World} (h : CpS w e a c R es ak ck wr) (hb : Below wr.heap.size wr wr') : CpS w e a c R es ak ck wr' :=
  ⟨h.p.below hb, h.rb.below hb, h.er.below hb, h.row.below hb, h.bel.trans (hb.mono h.bel.size), h.hR, h.le, h.eq⟩

theorem CpS.push {w : World} {e : Ex} {a : Option Addr} {c : Nat} {R : Nat} {es : List Es} {ak : Option Addr} {ck : Nat} {wr w2 w4 : World} (h : CpS w e a c R es ak ck wr) (hlt : es.length < e.kids.length) {a2 : Option Addr} {c2 : Nat}
    (htr : TrQ w2 (fun b => wr.heap.size ≤ b) e.kids[es.length] a2 c2) (hb : Below wr.heap.size wr w2) {o : Obj} {g4 cap : Nat}
    (hown : w4.ownsRow (R + 1) 32 4 (.slice (some ⟨g4, 0, none⟩) (es.length + 1) cap) (es.length + 1) (ecells es ++ [.int .i64 e.kids[es.length].kind, .string e.kids[es.length].text, .int .i64 e.kids[es.length].num, .slice a2 e.kids[es.length].kids.length c2])) (hg : (w2.alloc o).grownBy w4 (Value.slice ak es.length ck).ownBlock)
    (hat : (Value.slice ak es.length ck).ownBlock = some g4 ∨ g4 = (w2.alloc o).heap.size) :
    CpS w e a c R (es ++ [⟨e.kids[es.length], a2, c2⟩]) (some ⟨g4, 0, none⟩) cap (w4.setCell ⟨R, 3, none⟩ (.slice (some ⟨g4, 0, none⟩) (es.length + 1) cap)) := by
  have hRl := h.er.lt
  have hr2 := h.hR
  have hl1 : (es ++ [(⟨e.kids[es.length], a2, c2⟩ : Es)]).length = es.length + 1 := by simp
  have hbk : ∀ b, (Value.slice ak es.length ck).ownBlock = some b → R + 1 ≤ b ∧ b < wr.heap.size := fun b hb => h.row.own.lt b hb
  have h2 := h.below hb
  have hb2 : Below w2.heap.size w2 (w2.alloc o) := (Below.refl _ _).alloc (Nat.le_refl _) o
  have h3 := h2.below hb2
  have e4 := h3.er.kept hg (fun e => by have := (hbk R e).1; omega)
  have p4 := h3.p.kept hg (fun e => by have := (hbk _ e).1; omega)
  have b4 := h3.rb.kept hg (fun e => by have := (hbk _ e).1; omega)
  obtain ⟨dd, hk2⟩ := htr.kids
  have hk3 : KidsQ (fun b => R + 1 ≤ b ∧ (Value.slice ak es.length ck).ownBlock ≠ some b) (w2.alloc o) dd a2 c2 e.kids[es.length].kids :=
    (hk2.imp (q' := fun b => R + 1 ≤ b ∧ (Value.slice ak es.length ck).ownBlock ≠ some b) fun b hb _ => ⟨by omega, fun e => by have := (hbk b e).2; omega⟩).agree (by simp) fun b _ hb' q => hb2.cell (p := ⟨b, q, none⟩) hb'
  have r4 := h3.row.push (x := ⟨e.kids[es.length], a2, c2⟩) htr.fit hk3 (a' := some ⟨g4, 0, none⟩) (c' := cap) (w' := w4) hown hg (by
      rcases hat with e | e
      · left; rw [e]; rfl
      · right; rw [e]; rfl)
  have hbel4 : Below w.heap.size w w4 := h3.bel.grown hg h3.bel.size (fun q hq => by have := (hbk q hq).1; omega)
  refine ⟨p4.setO (by omega) _ _, b4.setO (by omega) _ _, by rw [hl1]; exact e4.set3 _, r4.set (by omega) _ _, hbel4.setCell (by simp only; omega) _, hr2, by rw [hl1]; omega, ?_⟩
  rw [hl1, List.map_append, h.eq, List.take_succ_eq_append_getElem hlt]
  rfl

/-- The end: the copy is stored into the answer's box. -/
theorem CpS.done {w : World} {e : Ex} {a : Option Addr} {c : Nat} {R : Nat} {es : List Es} {ak : Option Addr} {ck : Nat} {wr : World} (h : CpS w e a c R es ak ck wr) (hfit : e.fit) (hn : es.length = e.kids.length) {v0 v1 v2 v3 : Value} {W : World}
    (hW : W = (((wr.setCell ⟨w.heap.size + 1, 0, none⟩ v0).setCell ⟨w.heap.size + 1, 1, none⟩ v1).setCell ⟨w.heap.size + 1, 2, none⟩ v2).setCell ⟨w.heap.size + 1, 3, none⟩ v3) :
    NewX w e (.returned (.agg #[.int .i64 e.kind, .string e.text, .int .i64 e.num, .slice ak es.length ck])) W := by
  have hr2 := h.hR
  have r := (((h.row.set (R := w.heap.size + 1) (by omega) 0 v0).set (R := w.heap.size + 1) (by omega) 1 v1).set (R := w.heap.size + 1) (by omega) 2 v2).set (R := w.heap.size + 1) (by omega) 3 v3
  obtain ⟨d, hk⟩ := r.kids
  have he : es.map Es.e = e.kids := by rw [h.eq, hn, List.take_length]
  rw [he] at hk
  refine ⟨ak, ck, by rw [hn], ⟨hfit, d, ?_⟩, ?_⟩
  · subst hW
    exact hk.toQ.imp fun b hb _ => by omega
  · subst hW
    exact (((h.bel.setCell (p := ⟨w.heap.size + 1, 0, none⟩) (by simp) v0).setCell (p := ⟨w.heap.size + 1, 1, none⟩) (by simp) v1).setCell (p := ⟨w.heap.size + 1, 2, none⟩) (by simp) v2).setCell (p := ⟨w.heap.size + 1, 3, none⟩) (by simp) v3

set_option maxRecDepth 100000 in
set_option maxHeartbeats 4000000 in
theorem copyMore (d : Nat) (ih : CopyP d) : CopyP (d + 1) := by
  intro e a c w hfit hwt hk
  have hw := Ex.wt_eq e
  have hl := hk.len
  have hts : Hid (e.text.size ≤ 1048576) := by unfold Hid; omega
  obtain ⟨i0, hi0, hz0, hz1, hz2⟩ := info_parts Tryz.infoExpr
  have HK := Lib.hid (fun w' (hb : Below w.heap.size w w') => hk.below hb)
  have HIH : Hid (CopyP d) := @ih
  have HWN : Hid (e.kids.length ≤ 1048576) := by unfold Hid; omega
  have HW : Hid (∀ i (h : i < e.kids.length), e.kids[i].wt ≤ 1048576) := fun i h => Nat.le_trans (wtL_get h) (by omega)
  have HP0 := Lib.hid (show ExRow ((w.alloc (.cells #[.int .i64 e.kind, .string e.text, .int .i64 e.num, .slice a e.kids.length c] 32)).alloc (.cells #[.int .i64 0, .string ⟨#[]⟩, .int .i64 0, .slice none 0 0] 32)) w.heap.size e.kind e.text e.num (.slice a e.kids.length c) from (exRow_new w _ _ _ _).alloc _)
  have HR0 := Lib.hid (show ExRow ((w.alloc (.cells #[.int .i64 e.kind, .string e.text, .int .i64 e.num, .slice a e.kids.length c] 32)).alloc (.cells #[.int .i64 0, .string ⟨#[]⟩, .int .i64 0, .slice none 0 0] 32)) (w.heap.size + 1) 0 ⟨#[]⟩ 0 (.slice none 0 0) from by have := exRow_new (w.alloc (.cells #[.int .i64 e.kind, .string e.text, .int .i64 e.num, .slice a e.kids.length c] 32)) 0 ⟨#[]⟩ 0 (.slice none 0 0); rw [size_allocE] at this; exact this)
  have HB0 := Lib.hid (show Below w.heap.size w ((w.alloc (.cells #[.int .i64 e.kind, .string e.text, .int .i64 e.num, .slice a e.kids.length c] 32)).alloc (.cells #[.int .i64 0, .string ⟨#[]⟩, .int .i64 0, .slice none 0 0] 32)) from ((Below.refl _ _).alloc (Nat.le_refl _) _).alloc (by simp) _)
  clear hk ih hw
  go_enter Tryz.func47, Tryz.ntmps47
  go_wp2_with fail
  generalize (w.alloc (.cells #[.int .i64 e.kind, .string e.text, .int .i64 e.num, .slice a e.kids.length c] 32)).alloc (.cells #[.int .i64 0, .string ⟨#[]⟩, .int .i64 0, .slice none 0 0] 32) = W0 at HP0 HR0 HB0 ⊢
  have HPD := Lib.hid (HP0.out.below (below_drewE (Below.refl _ _)))
  have HRD := Lib.hid (HR0.out.below (below_drewE (Below.refl _ _)))
  have HBD := Lib.hid (below_drewE HB0.out)
  obtain ⟨p0, p1, p2, p3, pf⟩ := HPD.out.cells
  obtain ⟨z0, z1, z2, z3, zf⟩ := (HPD.out.alloc (.cells #[.int .i64 0, .string ⟨#[]⟩, .int .i64 0, .slice none 0 0] 32)).cells
  have hz : w.heap.size < W0.heap.size := HP0.out.lt
  have HZ : Hid (w.heap.size + 1 < W0.heap.size) := HR0.out.lt
  have HY := Lib.hid (show ExRow (W0.drew.alloc (.cells #[.int .i64 0, .string ⟨#[]⟩, .int .i64 0, .slice none 0 0] 32)) W0.heap.size 0 ⟨#[]⟩ 0 (.slice none 0 0) from exRow_new W0.drew 0 ⟨#[]⟩ 0 (.slice none 0 0))
  rename_i K hK
  have hcont : ∀ (R : Nat) (W1 : World), Hid (CpS w e a c R [] none 0 W1) → K { tmps := #[.agg #[.int .i64 e.kind, .string e.text, .int .i64 e.num, .slice a e.kids.length c], .pointer (some ⟨w.heap.size, 0, none⟩), .pointer (some ⟨w.heap.size + 1, 0, none⟩), .pointer (some ⟨R, 0, none⟩), undef, undef, .pointer (some ⟨w.heap.size, 0, none⟩), .int .i64 e.kind, .pointer (some ⟨w.heap.size, 1, none⟩), .string e.text, .string e.text, .pointer (some ⟨w.heap.size, 2, none⟩), .int .i64 e.num, .agg #[.int .i64 e.kind, .string e.text, .int .i64 e.num, .slice none 0 0], undef, undef, undef, undef, undef, undef, undef, undef, undef, undef, undef, undef, undef, undef, undef, undef], defers := [] } W1 := by
    intro R W1 HS
    clear HP0 HR0 HB0 HPD HRD HBD HY HZ hz p0 p1 p2 p3 pf z0 z1 z2 z3 zf
    obtain ⟨p0, p1, p2, p3, pf⟩ := HS.out.p.cells
    go_wp2_with fail
    go_loopw [17] (fun i wr => ∃ (es : List Es) (ak : Option Addr) (ck : Nat), i = .int .i64 (es.length : Int) ∧ Hid (CpS w e a c R es ak ck wr)) (fun i _ => e.kids.length - (intOf i).toNat)
    case atStart => exact ⟨[], none, 0, rfl, HS.out⟩
    case round =>
      obtain ⟨es, ak, ck, rfl, HM⟩ := hrel
      have hle := HM.out.le
      clear p0 p1 p2 p3 pf HS
      by_cases hlt : es.length < e.kids.length
      · obtain ⟨b, off, rfl, hbl, hc0, hc1, hc2, hfx, a', c', hc3, hkid⟩ := (HK.out _ HM.out.bel).spot hlt
        have HWX := Lib.hid (HW.out es.length hlt)
        have HKX := Lib.hid (fun W (hb : Below wr.heap.size wr W) => hkid.below hb)
        have HFX := Lib.hid hfx
        have HMA := Lib.hid (HM.out.below ((Below.refl _ _).alloc (Nat.le_refl _) (.cells #[.int .i64 e.kids[es.length].kind, .string e.kids[es.length].text, .int .i64 e.kids[es.length].num, .slice a' e.kids[es.length].kids.length c'] 32)))
        have HKB := Lib.hid (exRow_new wr e.kids[es.length].kind e.kids[es.length].text e.kids[es.length].num (.slice a' e.kids[es.length].kids.length c'))
        have HAB := Lib.hid (show Below wr.heap.size wr (wr.alloc (.cells #[.int .i64 e.kids[es.length].kind, .string e.kids[es.length].text, .int .i64 e.kids[es.length].num, .slice a' e.kids[es.length].kids.length c'] 32)) from (Below.refl _ _).alloc (Nat.le_refl _) _)
        obtain ⟨y, hy⟩ : ∃ y, y = e.kids[es.length] := ⟨_, rfl⟩
        have HYE := Lib.hid hy
        rw [← hy] at hc0 hc1 hc2 hc3 HWX HKX HFX HMA HKB HAB
        clear hkid hfx hy
        go_wp2_with fail
        have hkb : wr.heap.size < (wr.alloc (.cells #[.int .i64 y.kind, .string y.text, .int .i64 y.num, .slice a' y.kids.length c'] 32)).heap.size := HKB.out.lt
        have HKS := Lib.hid hkb
        clear hc0 hc1 hc2 hc3 hkb
        generalize wr.alloc (.cells #[.int .i64 y.kind, .string y.text, .int .i64 y.num, .slice a' y.kids.length c'] 32) = W3 at HMA HKB HAB HKS ⊢
        have HMD := Lib.hid (HMA.out.below (below_drewE (Below.refl _ _)))
        have HKD := Lib.hid (HKB.out.below (below_drewE (Below.refl _ _)))
        have HAD := Lib.hid (below_drewE HAB.out)
        obtain ⟨y0, y1, y2, y3, yf⟩ := HKD.out.cells
        obtain ⟨_, _, _, z3, zf⟩ := HMD.out.er.cells
        have zf3 := zf 3
        clear yf zf
        have HKE : Hid (∀ W, Below W3.drew.heap.size W3.drew W → W.cell? ⟨R, 3, none⟩ = some (.slice ak es.length ck) ∧ W.frozen? ⟨R, 3, none⟩ = false) := fun W hb => by
          obtain ⟨_, _, _, z3, zf⟩ := (HMD.out.below hb).er.cells
          exact ⟨z3, zf 3⟩
        have HKK : Hid (∀ W o W', Below W3.drew.heap.size W3.drew W → (W.alloc o).grownBy W' (Value.slice ak es.length ck).ownBlock → W'.cell? ⟨R, 3, none⟩ = some (.slice ak es.length ck) ∧ W'.frozen? ⟨R, 3, none⟩ = false) := fun W o W' hb hg' => by
          obtain ⟨_, _, _, z3, zf⟩ := (((HMD.out.below hb).er.alloc o).kept hg' (fun e => by have := (HMD.out.row.own.lt _ e).1; omega)).cells
          exact ⟨z3, zf 3⟩
        have hszW : R < W3.drew.heap.size := HMD.out.er.lt
        have HLE : Hid (es.length ≤ 1048576) := by unfold Hid; have := HM.out.le; have := HWN.out; omega
        have hlen : es.length ≤ 1048576 := HLE.out
        go_region_law
          (first
            | (go_simp; go_at_call 47; refine (HIH.out y a' c' _ HFX.out HWX.out (HKX.out _ HAD.out)).mono ?_; rintro e w2 ⟨a2, c2, rfl, htr2, hb2⟩; obtain ⟨y4, y4f⟩ := HKE.out _ hb2; have hsz2 := hb2.size; have hRw := Nat.lt_of_lt_of_le hszW hsz2; have HB2 := Lib.hid hb2; have HTR2 := Lib.hid htr2; clear htr2 hb2)
            | (refine step_append_lies _ rfl (.tmp 22) (.tmp 25) 30 rfl (R + 1) 32 i0 (.agg #[.int .i64 0, .string ByteArray.empty, .int .i64 0, .slice none 0 0]) 4 56 Tryz.underlying30 hi0 hz0 hz1 hz2 rfl (by decide) (.slice ak es.length ck) es.length (ecells es) rfl ((HMD.out.below HB2.out).row.alloc _).own ⟨w2.heap.size, 0, none⟩ 1 1 [.int .i64 y.kind, .string y.text, .int .i64 y.num, .slice a2 y.kids.length c2] rfl rfl (World.news_of_block (heap_alloc_new w2 _)) (fun u hu => by simp at hu; rcases hu with rfl | rfl | rfl | rfl <;> rfl) (by have := HLE.out; omega) (by have := HLE.out; unfold maxLen; omega) (by omega) (by simp; omega) _ rfl ?_; intro g4 cap4 w4 hown4 hg4 hat4 hlt4; obtain ⟨y5, y5f⟩ := HKK.out _ _ _ HB2.out hg4))
        all_goals
          have hMP : Hid (CpS w e (some ⟨b, off, none⟩) c R (es ++ [⟨y, a2, c2⟩]) (some ⟨g4, 0, none⟩) cap4 (w4.setCell ⟨R, 3, none⟩ (.slice (some ⟨g4, 0, none⟩) (es.length + 1) cap4))) := by
            have h1 := HYE.out
            subst h1
            exact HMD.out.push hlt HTR2.out HB2.out hown4 hg4 hat4
          clear hown4 hg4 hat4
          go_wp2_with fail
          go_roundw
          case rel => exact ⟨es ++ [⟨y, a2, c2⟩], some ⟨g4, 0, none⟩, cap4, by simp, hMP⟩
          case measure => simp [intOf]; omega
      · have hee : es.length = e.kids.length := by omega
        obtain ⟨r0, r1, r2, r3, rf⟩ := HM.out.er.cells
        obtain ⟨b0, b1, b2, b3, bf⟩ := HM.out.rb.cells
        have hbr : w.heap.size + 1 ≠ R := by have := HM.out.hR; omega
        have HFT := Lib.hid hfit
        have HEE := Lib.hid hee
        clear hfit hee
        go_wp2_with fail
        refine bodyPost_ret (v := .agg #[.int .i64 e.kind, .string e.text, .int .i64 e.num, .slice ak es.length ck]) (by simp [results, Tryz.results47, go_sem, b0, b1, b2, b3]) rfl ?_
        exact HM.out.done HFT.out HEE.out rfl
  obtain ⟨k0, k1, k2, k3, kf⟩ := HP0.out.cells
  have hne' : ¬ w.heap.size = W0.heap.size := by omega
  have hne2 : W0.heap.size ≠ w.heap.size := by omega
  go_region_held3 (fun w' => w'.cell? ⟨w.heap.size, 0, none⟩ = some (.int .i64 e.kind) ∧ w'.cell? ⟨w.heap.size, 1, none⟩ = some (.string e.text) ∧ w'.cell? ⟨w.heap.size, 2, none⟩ = some (.int .i64 e.num)) (go_keep)
    ((go_at_call 32; refine (stringsClone5 e.text _ hts.out).mono ?_; rintro x w2 ⟨rfl, hb2⟩
      first
      | (have HP2 := Lib.hid (HPD.out.below hb2); have HR2 := Lib.hid (HRD.out.below hb2); have HB2 := Lib.hid (HBD.out.trans (hb2.mono HBD.out.size)); have hlt2 := HP2.out.lt; obtain ⟨q0, q1, q2, q3, qf⟩ := HP2.out.cells)
      | (have HP2 := Lib.hid ((HPD.out.alloc _).below hb2); have HR2 := Lib.hid ((HRD.out.alloc _).below hb2); have HBB := HBD.out.alloc HBD.out.size (.cells #[.int .i64 0, .string ⟨#[]⟩, .int .i64 0, .slice none 0 0] 32); have HB2 := Lib.hid (HBB.trans (hb2.mono HBB.size)); have HY2 := Lib.hid (HY.out.below hb2); obtain ⟨q0, q1, q2, q3, qf⟩ := HP2.out.cells; obtain ⟨y0, y1, y2, y3, yf⟩ := HY2.out.cells)))
  all_goals
    first
    | refine hcont w2.heap.size _ ?_
      have hz2 : w.heap.size + 1 < w2.heap.size := HR2.out.lt
      exact ⟨HP2.out.alloc _, HR2.out.alloc _, exRow_new _ _ _ _ _, Row.nil _ _, HB2.out.alloc HB2.out.size _, hz2, Nat.zero_le _, by simp⟩
    | refine hcont W0.heap.size _ ?_
      have s0 := HZ.out
      exact ⟨(((HP2.out.setO (by omega) _ _).setO (by omega) _ _).setO (by omega) _ _).setO (by omega) _ _, (((HR2.out.setO (by omega) _ _).setO (by omega) _ _).setO (by omega) _ _).setO (by omega) _ _, (((HY2.out.set0 _).set1 _).set2 _).set3 _, Row.nil _ _, (((HB2.out.setCell (by simp only; omega) _).setCell (by simp only; omega) _).setCell (by simp only; omega) _).setCell (by simp only; omega) _, by omega, Nat.zero_le _, by simp⟩

theorem copyX : ∀ d, CopyP d
  | 0 => fun _ _ _ _ _ _ h => h.elim
  | d + 1 => copyMore d (copyX d)

end Go.Proofs.YtgnillmhpockkaaGreatDoor
