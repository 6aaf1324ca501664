/- spec.PutName. -/
/- impl.Quote answers the text between quotes, each of its quotes doubled. -/
/- impl.PutName. -/
/- TypeText of the program and of the model. -/
/- Expressions: trees, how they lie in memory. -/
/- Expressions: how they are written as words, and how they are read: plain mathematics. -/
/- A number comes back from its numeral: plain mathematics. -/
/- Expressions: what is written is read back. -/
import Derived.Test.YtjjdcdnaonfnmaaGreatDoorMDrawType
import Derived.Test.YtjjdcdnaonfnmaaGreatDoorMClone
import Derived.Test.YtjjdcdnaonfnmaaGreatDoorMLexQ
import Derived.Test.YtjjdcdnaonfnmaaGreatDoorMShelf
import Derived.Lib.ItoaLen
import Derived.Test.YtjjdcdnaonfnmaaGreatDoorMMem
import Derived.Laws.OwnMore
namespace Go.Proofs.YtjjdcdnaonfnmaaGreatDoor
open Go.RowKit

def keptL : List ByteArray := keptW.map fun l => ⟨l.toArray⟩

theorem has_kept (s : ByteArray) : hasB keptL s = keptB s.data.toList := by
  unfold hasB keptL keptB
  rw [List.any_map]
  congr 1
  funext x
  simp only [Function.comp]
  rw [beq_flip, Lib.toList_data, Lib.toList_data]

/-- A new row of texts that is laid in one go. -/
theorem rowLit (w : World) (xs : List ByteArray) (hs : ∀ s ∈ xs, s.size ≤ maxLen) (hn : xs.length ≤ 1000000) :
    Strs (w.alloc (.cells (xs.map Value.string).toArray 9)) (some ⟨w.heap.size, 0, none⟩) xs.length xs := by
  refine ⟨Nat.le_refl _, by unfold maxLen; omega, hs, (fun h => by cases h), fun _ => ⟨w.heap.size, 0, rfl, by simp, fun i hi => ?_⟩⟩
  rw [cell_of_row _ _ _ _ _ _ (heap_alloc_new w _)]
  simp [hi]

theorem keptL_small : ∀ s ∈ keptL, s.size ≤ 10 := by unfold keptL keptW; decide

set_option maxRecDepth 100000 in
set_option maxHeartbeats 1000000 in
theorem specKept (w : World) : Calls Tryz.prog 40 #[] w fun e w' => e = .returned (.slice (some ⟨w.heap.size, 0, none⟩) 39 39) ∧ Strs w' (some ⟨w.heap.size, 0, none⟩) 39 keptL ∧ Below w.heap.size w w' := by
  have hst := Lib.hid (rowLit w keptL (fun s hs => by have := keptL_small s hs; unfold maxLen; omega) (by decide))
  go_enter Tryz.func40, Tryz.ntmps40
  go_wp2_with fail
  go_ret
  exact ⟨rfl, hst.out, (Below.refl _ _).alloc (Nat.le_refl _) _⟩

theorem specHasKept (w : World) (a : Option Addr) (s : ByteArray) (h : Strs w a 39 keptL) (v : Bool) (hv : keptB s.data.toList = v) :
    Calls Tryz.prog 39 #[.slice a 39 39, .string s] w fun e w' => e = .returned (.bool v) ∧ Below w.heap.size w w' := by
  have := specHas a 39 keptL s w h
  rw [has_kept, hv] at this
  refine this.mono ?_
  rintro e w' ⟨he, n, rfl⟩
  exact ⟨he, below_drewN (Below.refl _ _) n⟩

theorem okB_eq (b : UInt8) : okB b = (moreB b && !inI (b.toNat : Int) 65 90) := by
  rw [Bool.eq_iff_iff]
  simp only [okB, smallB, moreB, letterB, digitB, inI, Bool.or_eq_true, Bool.and_eq_true, decide_eq_true_eq, Bool.not_eq_true', Bool.and_eq_false_iff, decide_eq_false_iff_not, beq_iff_eq]
  constructor
  · intro h; omega
  · intro h; omega

theorem all_step (s : ByteArray) (k : Nat) (h : k < s.size) : (s.data.toList.take (k + 1)).all okB = ((s.data.toList.take k).all okB && okB s[k]) := by
  have hl : k < s.data.toList.length := by simpa using h
  rw [List.take_succ_eq_append_getElem hl, List.all_append]
  simp only [List.all_cons, List.all_nil, Bool.and_true]
  rfl

set_option maxHeartbeats 4000000 in
theorem specPutName (s : ByteArray) (w : World) (hs : s.size ≤ 1048576) (r : ByteArray) (hr : nameT s = r) :
    Calls Tryz.prog 19 #[.string s] w fun e w' => e = .returned (.string r) ∧ Below w.heap.size w w' := by
  by_cases h0 : s.size = 0
  · have HR : Hid (quoteT s 34 = r) := by unfold Hid; rw [← hr, nameT, plain_empty s h0]; rfl
    have hse : s.toList = [] := by rw [Lib.toList_data]; exact List.length_eq_zero_iff.1 (by simpa using h0)
    have hn : (!(s.toList == [])) = false := by rw [hse]; rfl
    have hn2 : s.toList.isEmpty = true := by rw [hse]; rfl
    clear hr hse h0
    go_enter Tryz.func19, Tryz.ntmps19
    go_wp2_with fail
    go_loop [3, 4] (fun p i => p = .bool false ∧ ∃ k : Nat, k ≤ s.size ∧ i = .int .i64 k) (fun _ i => s.size - (intOf i).toNat)
    case atStart => exact ⟨rfl, 0, Nat.zero_le _, rfl⟩
    case round =>
      obtain ⟨rfl, k, hk, rfl⟩ := hrel
      by_cases hlt : k < s.size
      · go_wp2_with fail
        exact ⟨⟨rfl, k + 1, by omega, by go_num⟩, by simp [intOf]; omega⟩
      · go_wp2_with fail
        refine (specQuote s 34 _ hs).mono ?_
        rintro e w9 ⟨rfl, b9⟩
        go_wp2_with fail
        go_ret
        exact ⟨by rw [← HR.out]; rfl, b9⟩
  · have hpos : 0 < s.size := by omega
    have hne : s.toList ≠ [] := by
      intro e
      rw [Lib.toList_data] at e
      have h2 : s.data.toList.length = 0 := by rw [e]; rfl
      have h3 : s.data.toList.length = s.size := by simp
      omega
    have hn : (!(s.toList == [])) = true := by simpa using hne
    have hn2 : s.toList.isEmpty = false := List.isEmpty_eq_false_iff.2 hne
    have hby := byte_le s[0]
    have hsz : (0 : Int) < (s.size : Int) := by omega
    cases hd : digitB s[0] with
    | true =>
      have HR : Hid (quoteT s 34 = r) := by unfold Hid; rw [← hr, nameT, plain_no s 0 hpos (.inr ⟨rfl, hd⟩)]; rfl
      have HD := Lib.hid hd
      clear hr hne h0 hd
      go_enter Tryz.func19, Tryz.ntmps19
      go_wp2_with fail
      refine (specDigitB s[0] _ true HD.out).mono ?_
      rintro e w1 ⟨rfl, rfl⟩
      go_wp2_with fail
      go_loop [3, 4] (fun p i => p = .bool false ∧ ∃ k : Nat, k ≤ s.size ∧ i = .int .i64 k) (fun _ i => s.size - (intOf i).toNat)
      case atStart => exact ⟨rfl, 0, Nat.zero_le _, rfl⟩
      case round =>
        obtain ⟨rfl, k, hk, rfl⟩ := hrel
        by_cases hlt : k < s.size
        · go_wp2_with fail
          exact ⟨⟨rfl, k + 1, by omega, by go_num⟩, by simp [intOf]; omega⟩
        · go_wp2_with fail
          refine (specQuote s 34 _ hs).mono ?_
          rintro e w9 ⟨rfl, b9⟩
          go_wp2_with fail
          go_ret
          exact ⟨by rw [← HR.out]; rfl, b9⟩
    | false =>
      have HD := Lib.hid hd
      cases hq : keptB s.data.toList with
      | true =>
        have HR : Hid (quoteT s 34 = r) := by unfold Hid; rw [← hr, nameT, hq]; simp
        have HQ := Lib.hid hq
        clear hr hne h0 hd hq
        go_enter Tryz.func19, Tryz.ntmps19
        go_wp2_with fail
        refine (specDigitB s[0] _ false HD.out).mono ?_
        rintro e w1 ⟨rfl, rfl⟩
        go_wp2_with fail
        refine (specKept _).mono ?_
        rintro e w2 ⟨rfl, st2, b2⟩
        have HS := Lib.hid st2
        clear st2
        go_wp2_with fail
        refine (specHasKept _ _ s HS.out true HQ.out).mono ?_
        rintro e w3 ⟨rfl, b3⟩
        have B3 := b2.trans (b3.mono b2.size)
        clear HS b2 b3
        go_wp2_with fail
        go_loop [3, 4] (fun p i => p = .bool false ∧ ∃ k : Nat, k ≤ s.size ∧ i = .int .i64 k) (fun _ i => s.size - (intOf i).toNat)
        case atStart => exact ⟨rfl, 0, Nat.zero_le _, rfl⟩
        case round =>
          obtain ⟨rfl, k, hk, rfl⟩ := hrel
          by_cases hlt : k < s.size
          · go_wp2_with fail
            exact ⟨⟨rfl, k + 1, by omega, by go_num⟩, by simp [intOf]; omega⟩
          · go_wp2_with fail
            refine (specQuote s 34 _ hs).mono ?_
            rintro e w9 ⟨rfl, b9⟩
            go_wp2_with fail
            go_ret
            exact ⟨by rw [← HR.out]; rfl, B3.trans (b9.mono B3.size)⟩
      | false =>
        have HR : Hid ((if s.data.toList.all okB then s else quoteT s 34) = r) := by
          unfold Hid
          have he : s.data.toList.isEmpty = false := by rw [← Lib.toList_data]; exact hn2
          rw [← hr, nameT, hq, plainB, he, head_get s hpos, hd]
          simp
        have HQ := Lib.hid hq
        clear hr hne h0 hd hq
        go_enter Tryz.func19, Tryz.ntmps19
        go_wp2_with fail
        refine (specDigitB s[0] _ false HD.out).mono ?_
        rintro e w1 ⟨rfl, rfl⟩
        go_wp2_with fail
        refine (specKept _).mono ?_
        rintro e w2 ⟨rfl, st2, b2⟩
        have HS := Lib.hid st2
        clear st2
        go_wp2_with fail
        refine (specHasKept _ _ s HS.out false HQ.out).mono ?_
        rintro e w3 ⟨rfl, b3⟩
        have B3 := b2.trans (b3.mono b2.size)
        clear HS b2 b3
        go_wp2_with fail
        go_loop [3, 4] (fun p i => ∃ (c : Bool) (k : Nat), p = .bool c ∧ Hid (c = (s.data.toList.take k).all okB) ∧ k ≤ s.size ∧ i = .int .i64 k) (fun _ i => s.size - (intOf i).toNat)
        case atStart => exact ⟨true, 0, rfl, rfl, Nat.zero_le _, rfl⟩
        case round =>
          obtain ⟨c, k, rfl, hc, hk, rfl⟩ := hrel
          by_cases hlt : k < s.size
          · have hbk := byte_le s[k]
            cases c with
            | false =>
              have HN : Hid (false = (s.data.toList.take (k + 1)).all okB) := by unfold Hid; rw [all_step s k hlt, ← hc.out]; rfl
              go_wp2_with fail
              exact ⟨⟨false, k + 1, rfl, HN, by omega, by go_num⟩, by simp [intOf]; omega⟩
            | true =>
              cases hm : moreB s[k] with
              | false =>
                have HN : Hid (false = (s.data.toList.take (k + 1)).all okB) := by unfold Hid; rw [all_step s k hlt, ← hc.out, okB_eq, hm]; rfl
                have HM := Lib.hid hm
                clear hm
                go_wp2_with fail
                refine (specMore s[k] _ false HM.out).mono ?_
                rintro e w4 ⟨rfl, rfl⟩
                go_wp2_with fail
                exact ⟨⟨false, k + 1, rfl, HN, by omega, by go_num⟩, by simp [intOf]; omega⟩
              | true =>
                have HN : Hid ((!inI (s[k].toNat : Int) 65 90) = (s.data.toList.take (k + 1)).all okB) := by unfold Hid; rw [all_step s k hlt, ← hc.out, okB_eq, hm]; simp
                have HM := Lib.hid hm
                clear hm
                go_wp2_with fail
                refine (specMore s[k] _ true HM.out).mono ?_
                rintro e w4 ⟨rfl, rfl⟩
                go_wp2_with fail
                refine (specIn _ 65 90 _).mono ?_
                rintro e w4 ⟨rfl, rfl⟩
                go_wp2_with fail
                exact ⟨⟨_, k + 1, rfl, HN, by omega, by go_num⟩, by simp [intOf]; omega⟩
          · have hke : k = s.size := by omega
            have hall : c = s.data.toList.all okB := by
              rw [hc.out, hke, List.take_of_length_le (by simp)]
            cases c with
            | true =>
              have HR2 : Hid (s = r) := by unfold Hid; rw [← HR.out, ← hall]; rfl
              clear hall hke
              go_wp2_with fail
              go_ret
              exact ⟨by rw [← HR2.out]; rfl, B3⟩
            | false =>
              have HR2 : Hid (quoteT s 34 = r) := by unfold Hid; rw [← HR.out, ← hall]; rfl
              clear hall hke
              go_wp2_with fail
              refine (specQuote s 34 _ hs).mono ?_
              rintro e w9 ⟨rfl, b9⟩
              go_wp2_with fail
              go_ret
              exact ⟨by rw [← HR2.out]; rfl, B3.trans (b9.mono B3.size)⟩

end Go.Proofs.YtjjdcdnaonfnmaaGreatDoor

namespace Go.Proofs.YtjjdcdnaonfnmaaGreatDoor
open Go.RowKit

set_option maxHeartbeats 2000000 in
theorem implQuote (s : ByteArray) (y : UInt8) (w : World) (hs : s.size ≤ 1048576) :
    Calls Tryz.prog 37 #[.string s, .int .u8 (y.toNat : Int)] w fun e w' => e = .returned (.string (quoteT s y)) ∧ Below w.heap.size w w' := by
  have hy := byte_le y
  go_enter Tryz.func37, Tryz.ntmps37
  go_wp2_with fail
  refine (writeByte w.heap.size none 0 [] y _ (Bld.new w) (by simp)).mono ?_
  rintro e w1 ⟨rfl, a1, c1, l1, hl1, hB1, hW1, _⟩
  have hb1 : Below w.heap.size w w1 := hW1.below (Bld.new w) ((Below.refl _ _).alloc (Nat.le_refl _) _) (Nat.le_refl _)
  obtain ⟨W, cap, hcv, hbW, hrW, hcap, hcell⟩ := convTextEx w1 s
  have hne1 : ∀ g, (Value.slice a1 l1.length c1).ownBlock = some g → g ≠ w1.heap.size := fun g hg => by have := (hB1.own.lt hg).2; omega
  have hltB := hB1.lt
  have HC := Lib.hid hcell
  have HL : Hid (l1 = y :: dbl y (s.data.toList.take 0)) := hl1
  have HN := Lib.hid hne1
  generalize hR : w1.heap.size = R at *
  have hBW := hB1.below (hR ▸ hbW)
  have hbw : Below w.heap.size w W := hb1.trans ((hR ▸ hbW : Below w1.heap.size w1 W).mono hb1.size)
  have HBW := Lib.hid hBW
  have HR := Lib.hid hR
  clear hl1 hB1 hW1 hb1 hcell hne1 hR hBW hbW
  go_wp2_with fail
  go_loopw [13] (fun i wr => ∃ (k : Nat) (a : Option Addr) (c : Nat) (l : List UInt8), k ≤ s.size ∧ i = .int .i64 k ∧ Hid (l = y :: dbl y (s.data.toList.take k)) ∧ Bld wr w.heap.size a c l ∧ Hid (wr.heap[R]? = W.heap[R]?) ∧ R < wr.heap.size ∧ Hid (∀ g, (Value.slice a l.length c).ownBlock = some g → g ≠ R) ∧ Below w.heap.size w wr) (fun i _ => s.size - (intOf i).toNat)
  case atStart => exact ⟨0, a1, c1, l1, Nat.zero_le _, rfl, HL, HBW.out, rfl, hrW, HN, hbw⟩
  case round =>
    obtain ⟨k, a, c, l, hk, rfl, hl, hB, hrow, hr, hne, hb⟩ := hrel
    have hlk : l.length ≤ 3000000 := by
      have h1 := dbl_len y (s.data.toList.take k)
      have h2 : (s.data.toList.take k).length ≤ k := List.length_take_le _ _
      rw [hl.out]
      simp only [List.length_cons]
      omega
    by_cases hlt : k < s.size
    · have hc : wr.cell? ⟨R, k, none⟩ = some (.int .u8 (s[k].toNat : Int)) := (World.cell?_of_block (w := W) (w' := wr) (a := ⟨R, k, none⟩) hrow.out).trans (HC.out k hlt)
      have hby := byte_le s[k]
      by_cases he : s[k] = y
      · have HS := Lib.hid (dbl_eq y s k hlt he)
        have ht := byte_eq he
        clear he
        go_wp2_with fail
        refine (writeByte w.heap.size a c l y _ hB (by omega)).mono ?_
        rintro e w2 ⟨rfl, a2, c2, l2, hl2, hB2, hW2, hn2⟩
        have hr2 : R < w2.heap.size := Nat.lt_of_lt_of_le hr hW2.size
        have hrow2 : Hid (w2.heap[R]? = W.heap[R]?) := (hW2.block R hr (by omega) (fun e => hne.out R e.symm rfl)).trans hrow.out
        have hne2 : Hid (∀ g, (Value.slice a2 l2.length c2).ownBlock = some g → g ≠ R) := fun g hg => by
          rcases hn2 g hg with h | h
          · exact hne.out g h
          · omega
        have hb2 := hW2.below hB hb (Nat.le_refl _)
        have hlk2 : l2.length ≤ 3000001 := by rw [hid_len hl2]; omega
        have HW2 := Lib.hid hW2
        have HN2 := Lib.hid hn2
        clear hW2 hn2
        go_wp2_with fail
        refine (writeByte w.heap.size a2 c2 l2 s[k] _ hB2 (by omega)).mono ?_
        rintro e w3 ⟨rfl, a3, c3, l3, hl3, hB3, hW3, hn3⟩
        have hr3 : R < w3.heap.size := Nat.lt_of_lt_of_le hr2 hW3.size
        have hrow3 : Hid (w3.heap[R]? = W.heap[R]?) := (hW3.block R hr2 (by omega) (fun e => hne2.out R e.symm rfl)).trans hrow2.out
        have hne3 : Hid (∀ g, (Value.slice a3 l3.length c3).ownBlock = some g → g ≠ R) := fun g hg => by
          rcases hn3 g hg with h | h
          · exact hne2.out g h
          · omega
        have hb3 := hW3.below hB2 hb2 (Nat.le_refl _)
        have HW3 := Lib.hid hW3
        have HN3 := Lib.hid hn3
        clear hW3 hn3
        go_wp2_with fail
        go_roundw
        case rel => exact ⟨k + 1, a3, c3, l3, by omega, by go_num, by unfold Hid; rw [hl3.out, hl2.out, hl.out, HS.out]; simp, hB3, hrow3, hr3, hne3, hb3⟩
        case measure => simp [intOf]; omega
      · have HS := Lib.hid (dbl_ne y s k hlt he)
        have ht := byte_ne he
        clear he
        go_wp2_with fail
        refine (writeByte w.heap.size a c l s[k] _ hB (by omega)).mono ?_
        rintro e w2 ⟨rfl, a2, c2, l2, hl2, hB2, hW2, hn2⟩
        have hr2 : R < w2.heap.size := Nat.lt_of_lt_of_le hr hW2.size
        have hrow2 : Hid (w2.heap[R]? = W.heap[R]?) := (hW2.block R hr (by omega) (fun e => hne.out R e.symm rfl)).trans hrow.out
        have hne2 : Hid (∀ g, (Value.slice a2 l2.length c2).ownBlock = some g → g ≠ R) := fun g hg => by
          rcases hn2 g hg with h | h
          · exact hne.out g h
          · omega
        have hb2 := hW2.below hB hb (Nat.le_refl _)
        have HW2 := Lib.hid hW2
        have HN2 := Lib.hid hn2
        clear hW2 hn2
        go_wp2_with fail
        go_roundw
        case rel => exact ⟨k + 1, a2, c2, l2, by omega, by go_num, by unfold Hid; rw [hl2.out, hl.out, HS.out]; simp, hB2, hrow2, hr2, hne2, hb2⟩
        case measure => simp [intOf]; omega
    · obtain rfl : k = s.size := by omega
      have HQ : Hid (quoteL y s.data.toList = l ++ [y]) := by
        unfold Hid
        rw [hl.out, List.take_of_length_le (by simp)]
        simp [quoteL, dbl]
      go_wp2_with fail
      refine (writeByte w.heap.size a c l y _ hB (by omega)).mono ?_
      rintro e w2 ⟨rfl, a2, c2, l2, hl2, hB2, hW2, hn2⟩
      have hb2 := hW2.below hB hb (Nat.le_refl _)
      have HW2 := Lib.hid hW2
      have HN2 := Lib.hid hn2
      clear hW2 hn2
      go_wp2_with fail
      refine (builderString w.heap.size a2 c2 l2 _ hB2).mono ?_
      rintro e w3 ⟨rfl, hb3⟩
      go_wp2_with fail
      go_ret
      exact ⟨by rw [quoteT, HQ.out, ← hl2.out]; rfl, hb2.trans hb3⟩

end Go.Proofs.YtjjdcdnaonfnmaaGreatDoor

namespace Go.Proofs.YtjjdcdnaonfnmaaGreatDoor
open Go.RowKit

set_option maxHeartbeats 2000000 in
theorem implPlain (s : ByteArray) (w : World) (hs : s.size ≤ 1048576) (v : Bool) (hv : plainB s.data.toList = v) :
    Calls Tryz.prog 34 #[.string s] w fun e w' => e = .returned (.bool v) ∧ Below w.heap.size w w' := by
  have HV := Lib.hid hv
  clear hv
  obtain ⟨W, cap, hcv, hbW, hrW, hcap, hcell⟩ := convTextEx w s
  have HC := Lib.hid hcell
  have HB := Lib.hid hbW
  clear hcell hbW hcap
  go_enter Tryz.func34, Tryz.ntmps34
  go_wp2_with fail
  go_loop [10] (fun i => ∃ k : Nat, k ≤ s.size ∧ i = .int .i64 k ∧ Hid (∀ (j : Nat) (hj : j < s.size), j < k → okB s[j] = true ∧ (j = 0 → digitB s[j] = false))) (fun i => s.size - (intOf i).toNat)
  case atStart => exact ⟨0, Nat.zero_le _, rfl, fun j _ h => by omega⟩
  case round =>
    obtain ⟨k, hk, rfl, hall⟩ := hrel
    by_cases hlt : k < s.size
    · have hc : W.cell? ⟨w.heap.size, k, none⟩ = some (.int .u8 (s[k].toNat : Int)) := HC.out k hlt
      have hby := byte_le s[k]
      have next : okB s[k] = true → (k = 0 → digitB s[k] = false) → Hid (∀ (j : Nat) (hj : j < s.size), j < k + 1 → okB s[j] = true ∧ (j = 0 → digitB s[j] = false)) := fun h1 h2 j hj hjk => by
        by_cases e : j = k
        · subst e; exact ⟨h1, h2⟩
        · exact hall.out j hj (by omega)
      have stop : okB s[k] = false ∨ (k = 0 ∧ digitB s[k] = true) → Hid (v = false) := fun h => by unfold Hid; rw [← HV.out]; exact plain_no s k hlt h
      have h0k : (0 : Int) ≤ (k : Int) := by omega
      have hkl : (k : Int) < (s.size : Int) := by omega
      by_cases a1 : s[k].toNat = 95
      · have HN := next (ok_of_small (.inl a1)).1 (fun _ => (ok_of_small (.inl a1)).2)
        have f1 : ((s[k].toNat : Int) == 95) = true := by simp [a1]
        have f2 : decide ((48 : Int) ≤ (s[k].toNat : Int)) = true := by simp; omega
        have f3 : decide ((s[k].toNat : Int) ≤ 57) = false := by simp; omega
        clear next stop a1
        go_wp2_with fail
        exact ⟨⟨k + 1, by omega, by go_num, HN⟩, by simp [intOf]; omega⟩
      · have f1 : ((s[k].toNat : Int) == 95) = false := by rw [beq_eq_false_iff_ne]; omega
        by_cases a2 : 97 ≤ s[k].toNat
        · have f2 : decide ((97 : Int) ≤ (s[k].toNat : Int)) = true := by simp; omega
          have f4 : decide ((48 : Int) ≤ (s[k].toNat : Int)) = true := by simp; omega
          have f5 : decide ((s[k].toNat : Int) ≤ 57) = false := by simp; omega
          by_cases a3 : s[k].toNat ≤ 122
          · have f3 : decide ((s[k].toNat : Int) ≤ 122) = true := by simp; omega
            have HN := next (ok_of_small (.inr ⟨a2, a3⟩)).1 (fun _ => (ok_of_small (.inr ⟨a2, a3⟩)).2)
            clear next stop a1 a2 a3
            go_wp2_with fail
            exact ⟨⟨k + 1, by omega, by go_num, HN⟩, by simp [intOf]; omega⟩
          · have f3 : decide ((s[k].toNat : Int) ≤ 122) = false := by simp; omega
            have HN := stop (.inl (ok_no a1 (by omega) (by omega)))
            clear next stop a1 a2 a3
            cases f6 : ((k : Int) == 0) with
            | true =>
              go_wp2_with fail
              go_ret
              exact ⟨by rw [HN.out]; rfl, HB.out⟩
            | false =>
              go_wp2_with fail
              go_ret
              exact ⟨by rw [HN.out]; rfl, HB.out⟩
        · have f2 : decide ((97 : Int) ≤ (s[k].toNat : Int)) = false := by simp; omega
          by_cases a3 : 48 ≤ s[k].toNat
          · have f3 : decide ((48 : Int) ≤ (s[k].toNat : Int)) = true := by simp; omega
            by_cases a4 : s[k].toNat ≤ 57
            · have f4 : decide ((s[k].toNat : Int) ≤ 57) = true := by simp; omega
              have hd := ok_of_digit ⟨a3, a4⟩
              cases f6 : ((k : Int) == 0) with
              | true =>
                have HN := stop (.inr ⟨by simpa using f6, hd.2⟩)
                clear next stop a1 a2 a3 a4 hd
                go_wp2_with fail
                go_ret
                exact ⟨by rw [HN.out]; rfl, HB.out⟩
              | false =>
                have HN := next hd.1 (fun e => by subst e; simp at f6)
                clear next stop a1 a2 a3 a4 hd
                go_wp2_with fail
                exact ⟨⟨k + 1, by omega, by go_num, HN⟩, by simp [intOf]; omega⟩
            · have f4 : decide ((s[k].toNat : Int) ≤ 57) = false := by simp; omega
              have HN := stop (.inl (ok_no a1 (by omega) (by omega)))
              clear next stop a1 a2 a3 a4
              cases f6 : ((k : Int) == 0) with
              | true =>
                go_wp2_with fail
                go_ret
                exact ⟨by rw [HN.out]; rfl, HB.out⟩
              | false =>
                go_wp2_with fail
                go_ret
                exact ⟨by rw [HN.out]; rfl, HB.out⟩
          · have f3 : decide ((48 : Int) ≤ (s[k].toNat : Int)) = false := by simp; omega
            have HN := stop (.inl (ok_no a1 (by omega) (by omega)))
            clear next stop a1 a2 a3
            cases f6 : ((k : Int) == 0) with
            | true =>
              go_wp2_with fail
              go_ret
              exact ⟨by rw [HN.out]; rfl, HB.out⟩
            | false =>
              go_wp2_with fail
              go_ret
              exact ⟨by rw [HN.out]; rfl, HB.out⟩
    · have HN : Hid (v = !s.toList.isEmpty) := by
        unfold Hid
        rw [← HV.out, Lib.toList_data]
        by_cases h0 : s.size = 0
        · rw [plain_empty s h0]
          have : s.data.toList = [] := List.length_eq_zero_iff.1 (by simpa using h0)
          rw [this]; rfl
        · rw [plain_yes s (by omega) (fun j hj => (hall.out j hj (by omega)).1) ((hall.out 0 (by omega) (by omega)).2 rfl)]
          have : s.data.toList.isEmpty = false := by
            rw [List.isEmpty_eq_false_iff]
            intro e
            have h2 : s.data.toList.length = 0 := by rw [e]; rfl
            have h3 : s.data.toList.length = s.size := by simp
            omega
          rw [this]; rfl
      go_wp2_with fail
      go_ret
      exact ⟨by rw [HN.out]; rfl, HB.out⟩

theorem stringsClone (s : ByteArray) (w : World) (hs : s.size ≤ 1048576) :
    Calls Tryz.prog 36 #[.string s] w fun e w' => e = .returned (.string s) ∧ Below w.heap.size w w' := by
  go_enter Tryz.func36, Tryz.ntmps36
  go_wp2_with fail
  refine (Tryz.stringslite_Clone s _ (by omega)).mono ?_
  rintro e w1 ⟨rfl, b1⟩
  go_wp2_with fail
  go_ret
  exact ⟨rfl, b1⟩

set_option maxHeartbeats 1000000 in
theorem implPutName (s : ByteArray) (w : World) (hs : s.size ≤ 1048576) (r : ByteArray) (hr : nameT s = r) :
    Calls Tryz.prog 17 #[.string s] w fun e w' => e = .returned (.string r) ∧ Below w.heap.size w w' := by
  unfold nameT at hr
  have hp := fun w => implPlain s w hs _ rfl
  have hk := fun w => implReserved s w (keptB s.data.toList) (by rw [Lib.toList_data])
  generalize plainB s.data.toList = p at hr hp
  generalize keptB s.data.toList = q at hr hk
  cases p with
  | false =>
    have HR : Hid (quoteT s 34 = r) := by unfold Hid; rw [← hr]; rfl
    clear hr
    go_enter Tryz.func17, Tryz.ntmps17
    go_wp2_with fail
    refine (hp _).mono ?_
    rintro e w1 ⟨rfl, b1⟩
    go_wp2_with fail
    refine (implQuote s 34 _ hs).mono ?_
    rintro e w2 ⟨rfl, b2⟩
    go_wp2_with fail
    go_ret
    exact ⟨by rw [← HR.out]; rfl, b1.trans (b2.mono b1.size)⟩
  | true =>
    cases q with
    | true =>
      have HR : Hid (quoteT s 34 = r) := by unfold Hid; rw [← hr]; rfl
      clear hr
      go_enter Tryz.func17, Tryz.ntmps17
      go_wp2_with fail
      refine (hp _).mono ?_
      rintro e w1 ⟨rfl, b1⟩
      go_wp2_with fail
      refine (hk _).mono ?_
      rintro e w1' ⟨rfl, rfl⟩
      go_wp2_with fail
      refine (implQuote s 34 _ hs).mono ?_
      rintro e w2 ⟨rfl, b2⟩
      go_wp2_with fail
      go_ret
      exact ⟨by rw [← HR.out]; rfl, b1.trans (b2.mono b1.size)⟩
    | false =>
      have HR : Hid (s = r) := by unfold Hid; rw [← hr]; rfl
      clear hr
      go_enter Tryz.func17, Tryz.ntmps17
      go_wp2_with fail
      refine (hp _).mono ?_
      rintro e w1 ⟨rfl, b1⟩
      go_wp2_with fail
      refine (hk _).mono ?_
      rintro e w1' ⟨rfl, rfl⟩
      go_wp2_with fail
      refine (stringsClone s _ hs).mono ?_
      rintro e w2 ⟨rfl, b2⟩
      go_wp2_with fail
      go_ret
      exact ⟨by rw [← HR.out]; rfl, b1.trans (b2.mono b1.size)⟩

end Go.Proofs.YtjjdcdnaonfnmaaGreatDoor

namespace Go.Proofs.YtjjdcdnaonfnmaaGreatDoor
open Go.RowKit

def typeTextT (k l : Int) (s : ByteArray) : ByteArray :=
  if typeOkB k l s = false then ⟨#[]⟩ else if k = 0 then ⟨#[105, 110, 116]⟩ else if k = 1 then ⟨#[116, 101, 120, 116]⟩ else if k = 2 then ⟨#[98, 111, 111, 108]⟩
  else if k = 3 then ⟨#[99, 104, 97, 114, 40]⟩ ++ dec l ++ ⟨#[41]⟩ else ⟨#[101, 110, 117, 109, 32]⟩ ++ nameT s

def formText (f : ByteArray) (mx : Int) (nm : Bool) (l : Int) (s : ByteArray) : ByteArray :=
  if 0 < mx then f ++ ⟨#[40]⟩ ++ dec l ++ ⟨#[41]⟩ else if nm then f ++ ⟨#[32]⟩ ++ nameT s else f

theorem dec_size (n : Int) (h0 : -9223372036854775808 ≤ n) (h1 : n ≤ 9223372036854775807) : (dec n).size ≤ 21 := Lib.itoa_length_le n h0 h1

theorem quoteL_len3 (q : UInt8) (t : List UInt8) : (quoteL q t).length ≤ 2 * t.length + 2 := by
  have := dbl_len q t
  unfold dbl at this
  unfold quoteL
  simp only [List.length_append, List.length_cons, List.length_nil]
  omega

theorem nameT_size (s : ByteArray) : (nameT s).size ≤ 2 * s.size + 2 := by
  unfold nameT
  split
  · omega
  · have h1 := quoteL_len3 34 s.data.toList
    have h2 : (quoteT s 34).size = (quoteL 34 s.data.toList).length := by unfold quoteT; exact List.size_toArray
    have h3 : s.data.toList.length = s.size := by simp
    omega

theorem typeText_eq (k l : Int) (s : ByteArray) (h : 0 ≤ k ∧ k ≤ 4) : ∃ f mn mx nm, formOf k = .agg #[.string f, .int .i64 mn, .int .i64 mx, .bool nm] ∧ fitsB mn mx nm l s = typeOkB k l s ∧ f.size ≤ 10 ∧ (0 < mx → typeOkB k l s = true → 1 ≤ l ∧ l ≤ 100) ∧ (typeOkB k l s = true → formText f mx nm l s = typeTextT k l s) := by
  obtain ⟨f, mn, mx, nm, e1, e2⟩ := typeOk_eq k l s h
  refine ⟨f, mn, mx, nm, e1, e2, ?_⟩
  have hc : k = 0 ∨ k = 1 ∨ k = 2 ∨ k = 3 ∨ k = 4 := by omega
  have hin : ∀ a b c d a' b' c' d', (Value.agg #[.string a, .int .i64 b, .int .i64 c, .bool d]) = .agg #[.string a', .int .i64 b', .int .i64 c', .bool d'] → a = a' ∧ b = b' ∧ c = c' ∧ d = d' := fun a b c d a' b' c' d' e => by
    simp only [Value.agg.injEq, Array.mk.injEq, List.cons.injEq, Value.string.injEq, Value.int.injEq, Value.bool.injEq, and_true, true_and] at e
    exact e
  rcases hc with rfl | rfl | rfl | rfl | rfl
  · obtain ⟨rfl, rfl, rfl, rfl⟩ := hin _ _ _ _ _ _ _ _ e1
    exact ⟨by decide, fun h => absurd h (by decide), fun h => by unfold typeTextT; rw [h]; rfl⟩
  · obtain ⟨rfl, rfl, rfl, rfl⟩ := hin _ _ _ _ _ _ _ _ e1
    exact ⟨by decide, fun h => absurd h (by decide), fun h => by unfold typeTextT; rw [h]; rfl⟩
  · obtain ⟨rfl, rfl, rfl, rfl⟩ := hin _ _ _ _ _ _ _ _ e1
    exact ⟨by decide, fun h => absurd h (by decide), fun h => by unfold typeTextT; rw [h]; rfl⟩
  · obtain ⟨rfl, rfl, rfl, rfl⟩ := hin _ _ _ _ _ _ _ _ e1
    refine ⟨by decide, fun _ h => ?_, fun h => by unfold typeTextT; rw [h]; rfl⟩
    have : (inI l 1 100 && s.toList.isEmpty) = true := h
    rw [Bool.and_eq_true] at this
    have := this.1
    unfold inI at this
    rw [Bool.and_eq_true, decide_eq_true_eq, decide_eq_true_eq] at this
    exact this
  · obtain ⟨rfl, rfl, rfl, rfl⟩ := hin _ _ _ _ _ _ _ _ e1
    exact ⟨by decide, fun h => absurd h (by decide), fun h => by unfold typeTextT; rw [h]; rfl⟩

set_option maxHeartbeats 2000000 in
theorem specTypeText (k l : Int) (s : ByteArray) (w : World) (hs : s.size ≤ 1048576) (r : ByteArray) (hr : typeTextT k l s = r) :
    Calls Tryz.prog 7 #[.agg #[.int .i64 k, .int .i64 l, .string s]] w fun e w' => e = .returned (.string r) ∧ Below w.heap.size w w' := by
  have hlay := Lib.hid (lay1_new w 25 k l s)
  cases hok : typeOkB k l s with
  | false =>
    have HR : Hid (r = ⟨#[]⟩) := by unfold Hid; rw [← hr, typeTextT, if_pos hok]
    have HO := Lib.hid hok
    clear hr hok
    go_enter Tryz.func7, Tryz.ntmps7
    go_wp2_with fail
    refine (specTypeOk k l s _ hs false HO.out).mono ?_
    rintro e w1 ⟨rfl, b1⟩
    go_wp2_with fail
    go_ret
    exact ⟨by rw [HR.out]; rfl, (hlay.out.below b1).2.2⟩
  | true =>
    have HO := Lib.hid hok
    have hc : k = 0 ∨ k = 1 ∨ k = 2 ∨ k = 3 ∨ k = 4 := by
      rcases Classical.em (k = 0 ∨ k = 1 ∨ k = 2 ∨ k = 3 ∨ k = 4) with h | h
      · exact h
      · rw [typeOkB, if_neg (by omega), if_neg (by omega), if_neg (by omega)] at hok
        cases hok
    rcases hc with rfl | rfl | rfl | rfl | rfl
    · have HR : Hid (r = ⟨#[105, 110, 116]⟩) := by unfold Hid; rw [← hr, typeTextT, hok]; rfl
      clear hr hok
      go_enter Tryz.func7, Tryz.ntmps7
      go_wp2_with fail
      refine (specTypeOk _ l s _ hs true HO.out).mono ?_
      rintro e w1 ⟨rfl, b1⟩
      have L1 := Lib.hid (hlay.out.below b1)
      obtain ⟨⟨c0, c1, c2⟩, _, _⟩ := L1.out
      clear b1
      go_wp2_with fail
      go_ret
      exact ⟨by rw [HR.out]; rfl, L1.out.2.2⟩
    · have HR : Hid (r = ⟨#[116, 101, 120, 116]⟩) := by unfold Hid; rw [← hr, typeTextT, hok]; rfl
      clear hr hok
      go_enter Tryz.func7, Tryz.ntmps7
      go_wp2_with fail
      refine (specTypeOk _ l s _ hs true HO.out).mono ?_
      rintro e w1 ⟨rfl, b1⟩
      have L1 := Lib.hid (hlay.out.below b1)
      obtain ⟨⟨c0, c1, c2⟩, _, _⟩ := L1.out
      clear b1
      go_wp2_with fail
      go_ret
      exact ⟨by rw [HR.out]; rfl, L1.out.2.2⟩
    · have HR : Hid (r = ⟨#[98, 111, 111, 108]⟩) := by unfold Hid; rw [← hr, typeTextT, hok]; rfl
      clear hr hok
      go_enter Tryz.func7, Tryz.ntmps7
      go_wp2_with fail
      refine (specTypeOk _ l s _ hs true HO.out).mono ?_
      rintro e w1 ⟨rfl, b1⟩
      have L1 := Lib.hid (hlay.out.below b1)
      obtain ⟨⟨c0, c1, c2⟩, _, _⟩ := L1.out
      clear b1
      go_wp2_with fail
      go_ret
      exact ⟨by rw [HR.out]; rfl, L1.out.2.2⟩
    · have HR : Hid (r = ⟨#[99, 104, 97, 114, 40]⟩ ++ dec l ++ ⟨#[41]⟩) := by unfold Hid; rw [← hr, typeTextT, hok]; rfl
      have hl : 1 ≤ l ∧ l ≤ 100 := by
        have : (inI l 1 100 && s.toList.isEmpty) = true := hok
        rw [Bool.and_eq_true] at this
        have := this.1
        unfold inI at this
        rw [Bool.and_eq_true, decide_eq_true_eq, decide_eq_true_eq] at this
        exact this
      have hz := dec_size l (by omega) (by omega)
      have hdt := fun w => specDecText l w (by omega) (by omega)
      generalize dec l = D at HR hz hdt
      clear hr hok hl
      go_enter Tryz.func7, Tryz.ntmps7
      go_wp2_with fail
      refine (specTypeOk _ l s _ hs true HO.out).mono ?_
      rintro e w1 ⟨rfl, b1⟩
      have L1 := Lib.hid (hlay.out.below b1)
      obtain ⟨⟨c0, c1, c2⟩, _, _⟩ := L1.out
      clear b1
      go_wp2_with fail
      refine (hdt _).mono ?_
      rintro e w2 ⟨rfl, rfl⟩
      go_wp2_with fail
      go_ret
      exact ⟨by rw [HR.out]; rfl, L1.out.2.2⟩
    · have HR : Hid (r = ⟨#[101, 110, 117, 109, 32]⟩ ++ nameT s) := by unfold Hid; rw [← hr, typeTextT, hok]; rfl
      have hz := nameT_size s
      have hdt := fun w => specPutName s w hs _ rfl
      generalize nameT s = D at HR hz hdt
      clear hr hok
      go_enter Tryz.func7, Tryz.ntmps7
      go_wp2_with fail
      refine (specTypeOk _ l s _ hs true HO.out).mono ?_
      rintro e w1 ⟨rfl, b1⟩
      have L1 := Lib.hid (hlay.out.below b1)
      obtain ⟨⟨c0, c1, c2⟩, _, _⟩ := L1.out
      clear b1
      go_wp2_with fail
      refine (hdt _).mono ?_
      rintro e w2 ⟨rfl, b2⟩
      go_wp2_with fail
      go_ret
      exact ⟨by rw [HR.out]; rfl, (L1.out.below b2).2.2⟩

end Go.Proofs.YtjjdcdnaonfnmaaGreatDoor

namespace Go.Proofs.YtjjdcdnaonfnmaaGreatDoor
open Go.RowKit

/-- An expression as the program holds it. -/
inductive Ex where
  | mk (kind : Int) (text : ByteArray) (num : Int) (kids : List Ex)

def Ex.kind : Ex → Int | .mk k _ _ _ => k
def Ex.text : Ex → ByteArray | .mk _ t _ _ => t
def Ex.num : Ex → Int | .mk _ _ n _ => n
def Ex.kids : Ex → List Ex | .mk _ _ _ l => l

def Ex.v (e : Ex) (a : Option Addr) (c : Nat) : Value := .agg #[.int .i64 e.kind, .string e.text, .int .i64 e.num, .slice a e.kids.length c]

def i64E (n : Int) : Prop := -9223372036854775808 ≤ n ∧ n ≤ 9223372036854775807
def Ex.fit (e : Ex) : Prop := e.text.size ≤ maxLen ∧ i64E e.kind ∧ i64E e.num

/-- One expression lies at the cells from ⟨b, o⟩ on; P says of its kids' slice. -/
def At1 (w : World) (b o : Nat) (e : Ex) (P : Option Addr → Nat → Prop) : Prop :=
  w.cell? ⟨b, o, none⟩ = some (.int .i64 e.kind) ∧ w.cell? ⟨b, o + 1, none⟩ = some (.string e.text) ∧ w.cell? ⟨b, o + 2, none⟩ = some (.int .i64 e.num) ∧ e.fit ∧
  ∃ a c, w.cell? ⟨b, o + 3, none⟩ = some (.slice a e.kids.length c) ∧ P a c

/-- The slice (a, length of kids, c) reads as the expressions kids, no deeper than d. -/
def KidsAt (w : World) : Nat → Option Addr → Nat → List Ex → Prop
  | 0, _, _, _ => False
  | d + 1, a, c, kids => kids.length ≤ c ∧ c ≤ maxLen ∧ (a = none → c = 0) ∧
    (0 < kids.length → ∃ b off, a = some ⟨b, off, none⟩ ∧ b < w.heap.size ∧ ∀ (i : Nat) (h : i < kids.length), At1 w b (off + i * 4) kids[i] (fun a' c' => KidsAt w d a' c' kids[i].kids))

theorem At1.mono {w : World} {b o : Nat} {e : Ex} {P Q : Option Addr → Nat → Prop} (h : At1 w b o e P) (hpq : ∀ a c, P a c → Q a c) : At1 w b o e Q := by
  obtain ⟨h1, h2, h3, h4, a, c, h5, h6⟩ := h
  exact ⟨h1, h2, h3, h4, a, c, h5, hpq a c h6⟩

theorem KidsAt.below {w w' : World} (hb : Below w.heap.size w w') : ∀ {d : Nat} {a : Option Addr} {c : Nat} {kids : List Ex}, KidsAt w d a c kids → KidsAt w' d a c kids
  | 0, _, _, _, h => h
  | d + 1, a, c, kids, h => by
    obtain ⟨h1, h2, h3, h4⟩ := h
    refine ⟨h1, h2, h3, fun hp => ?_⟩
    obtain ⟨b, off, ha, hlt, hc⟩ := h4 hp
    refine ⟨b, off, ha, Nat.lt_of_lt_of_le hlt hb.size, fun i hi => ?_⟩
    obtain ⟨c1, c2, c3, hf, a', c', c4, hk⟩ := hc i hi
    have e : ∀ o, w'.cell? ⟨b, o, none⟩ = w.cell? ⟨b, o, none⟩ := fun o => hb.cell (p := ⟨b, o, none⟩) hlt
    exact ⟨(e _).trans c1, (e _).trans c2, (e _).trans c3, hf, a', c', (e _).trans c4, KidsAt.below hb hk⟩

theorem KidsAt.len {w : World} {d : Nat} {a : Option Addr} {c : Nat} {kids : List Ex} (h : KidsAt w d a c kids) : kids.length ≤ 9223372036854775807 := by
  cases d with
  | zero => exact h.elim
  | succ d => have h1 := h.1; have h2 := h.2.1; unfold maxLen at h2; omega

theorem KidsAt.spot {w : World} {d : Nat} {a : Option Addr} {c : Nat} {kids : List Ex} (h : KidsAt w (d + 1) a c kids) {i : Nat} (hi : i < kids.length) :
    ∃ b off, a = some ⟨b, off, none⟩ ∧ b < w.heap.size ∧ At1 w b (off + i * 4) kids[i] (fun a' c' => KidsAt w d a' c' kids[i].kids) := by
  obtain ⟨_, _, _, h4⟩ := h
  obtain ⟨b, off, ha, hlt, hc⟩ := h4 (by omega)
  exact ⟨b, off, ha, hlt, hc i hi⟩

theorem KidsAt.mono {w : World} : ∀ {d d' : Nat} {a : Option Addr} {c : Nat} {kids : List Ex}, d ≤ d' → KidsAt w d a c kids → KidsAt w d' a c kids
  | 0, _, _, _, _, _, h => h.elim
  | d + 1, 0, _, _, _, hd, _ => by omega
  | d + 1, d' + 1, a, c, kids, hd, h => by
    obtain ⟨h1, h2, h3, h4⟩ := h
    refine ⟨h1, h2, h3, fun hp => ?_⟩
    obtain ⟨b, off, ha, hlt, hc⟩ := h4 hp
    exact ⟨b, off, ha, hlt, fun i hi => (hc i hi).mono fun a' c' hk => KidsAt.mono (by omega) hk⟩

mutual
/-- What the laws' measure counts: letters and kids. -/
def Ex.wt : Ex → Nat
  | .mk _ t _ kids => t.size + (kids.length + wtL kids)
def wtL : List Ex → Nat
  | [] => 0
  | e :: r => e.wt + wtL r
end

theorem Ex.wt_eq (e : Ex) : e.wt = e.text.size + (e.kids.length + wtL e.kids) := by
  cases e; rw [Ex.wt]; rfl

mutual
def Ex.nodes : Ex → Nat
  | .mk _ _ _ kids => 1 + nodesL kids
def nodesL : List Ex → Nat
  | [] => 0
  | e :: r => e.nodes + nodesL r
end

theorem Ex.nodes_eq (e : Ex) : e.nodes = 1 + nodesL e.kids := by
  cases e; rw [Ex.nodes]; rfl

theorem wtL_take (l : List Ex) (k : Nat) (h : k < l.length) : wtL (l.take (k + 1)) = wtL (l.take k) + l[k].wt := by
  induction l generalizing k with
  | nil => simp at h
  | cons e r ih =>
    cases k with
    | zero => simp [wtL]
    | succ k =>
      simp only [List.take_succ_cons, wtL, List.getElem_cons_succ]
      rw [ih k (by simpa using h)]
      omega

theorem wtL_mono (l : List Ex) (k : Nat) : wtL (l.take k) ≤ wtL l := by
  induction l generalizing k with
  | nil => simp
  | cons e r ih =>
    cases k with
    | zero => simp [wtL]
    | succ k => simp only [List.take_succ_cons, wtL]; have := ih k; omega

theorem nodesL_take (l : List Ex) (k : Nat) (h : k < l.length) : nodesL (l.take (k + 1)) = nodesL (l.take k) + l[k].nodes := by
  induction l generalizing k with
  | nil => simp at h
  | cons e r ih =>
    cases k with
    | zero => simp [nodesL]
    | succ k =>
      simp only [List.take_succ_cons, nodesL, List.getElem_cons_succ]
      rw [ih k (by simpa using h)]
      omega

mutual
theorem nodes_wt : (e : Ex) → e.nodes ≤ 1 + e.wt
  | .mk _ t _ kids => by rw [Ex.nodes, Ex.wt]; have := nodesL_wt kids; omega
theorem nodesL_wt : (l : List Ex) → nodesL l ≤ l.length + wtL l
  | [] => by simp [nodesL]
  | e :: r => by rw [nodesL, wtL, List.length_cons]; have := nodes_wt e; have := nodesL_wt r; omega
end

end Go.Proofs.YtjjdcdnaonfnmaaGreatDoor

namespace Go.Proofs.YtjjdcdnaonfnmaaGreatDoor

/-- A word: its kind and its text. -/
abbrev W := Int × List UInt8

def bindsK (k : Int) : Nat :=
  if k = 9 then 1 else if k = 8 then 2 else if k = 6 then 3
  else if k = 7 ∨ k = 10 ∨ k = 11 ∨ k = 12 ∨ k = 13 ∨ k = 14 ∨ k = 15 then 4
  else if k = 16 ∨ k = 17 then 5 else if k = 18 then 6 else 7

def wAnd : List UInt8 := [97, 110, 100]
def wOr : List UInt8 := [111, 114]
def wNot : List UInt8 := [110, 111, 116]
def wIs : List UInt8 := [105, 115]
def wNull : List UInt8 := [110, 117, 108, 108]
def wTrue : List UInt8 := [116, 114, 117, 101]
def wFalse : List UInt8 := [102, 97, 108, 115, 101]

/-- What stands between two kids. -/
def signK (k : Int) : List UInt8 :=
  if k = 8 then wAnd else if k = 9 then wOr else if k = 10 then [61] else if k = 11 then [60, 62] else if k = 12 then [60] else if k = 13 then [60, 61]
  else if k = 14 then [62] else if k = 15 then [62, 61] else if k = 16 then [43] else if k = 17 then [45] else if k = 18 then [42] else []

def isW (x : W) (t : List UInt8) : Bool := (x.1 == 0 || x.1 == 4) && x.2 == t

/-- The first word is t. -/
def hdW : List W → List UInt8 → Bool
  | x :: _, t => isW x t
  | [], _ => false

/-- The kind of two kids that binds b whose sign is x. -/
def nextK (x : W) (b : Nat) : Option Int := ([8, 9, 10, 11, 12, 13, 14, 15, 16, 17, 18] : List Int).find? fun k => bindsK k == b && isW x (signK k)

def txt (l : List UInt8) : ByteArray := ⟨l.toArray⟩
def leaf (k : Int) (t : List UInt8) (n : Int) : Ex := .mk k (txt t) n []
def node (k : Int) (l : List Ex) : Ex := .mk k (txt []) 0 l

mutual
def atomP : Nat → List W → Option (Ex × List W)
  | 0, _ => none
  | _ + 1, [] => none
  | f + 1, x :: r =>
    if x.1 = 2 then some (leaf 1 [] (readD x.2), r)
    else if x.1 = 3 then some (leaf 2 x.2 0, r)
    else if x.1 = 1 ∨ (x.1 = 0 ∧ keptB x.2 = false) then some (leaf 0 x.2 0, r)
    else if isW x wTrue then some (leaf 3 [] 0, r)
    else if isW x wFalse then some (leaf 4 [] 0, r)
    else if isW x wNull then some (leaf 5 [] 0, r)
    else if isW x [40] then
      match anyP f 1 r with
      | some (e, y :: r') => if isW y [41] then some (e, r') else none
      | _ => none
    else none
def anyP : Nat → Nat → List W → Option (Ex × List W)
  | 0, _, _ => none
  | f + 1, L, ts =>
    if L = 7 then atomP f ts
    else if L = 3 ∧ hdW ts wNot = true then
      match anyP f 3 ts.tail with
      | some (k, r) => some (node 6 [k], r)
      | none => none
    else match anyP f (L + 1) ts with
      | some (e, r) => some (loopP f L e r)
      | none => none
def loopP : Nat → Nat → Ex → List W → Ex × List W
  | 0, _, e, r => (e, r)
  | f + 1, L, e, r =>
    match r with
    | [] => (e, r)
    | x :: r' =>
      if L = 4 ∧ isW x wIs = true ∧ hdW r' wNull = true then (node 7 [e], r'.tail)
      else match nextK x L with
        | none => (e, r)
        | some k => match anyP f (L + 1) r' with
          | none => (e, r)
          | some (s, r'') => if L = 4 then (node k [e, s], r'') else loopP f L (node k [e, s]) r''
end

/-! ### the fuel is enough -/
def enough (f L : Nat) (ts : List W) : Prop := 10 * ts.length + 10 ≤ f + L
def enoughL (f L : Nat) (r : List W) : Prop := 10 * (r.length + 1) + 9 ≤ f + L

/-- What is read takes a word at least. -/
theorem reads_len : ∀ f : Nat, (∀ ts e r, atomP f ts = some (e, r) → r.length < ts.length) ∧ (∀ L ts e r, anyP f L ts = some (e, r) → r.length < ts.length) ∧ (∀ L e r, (loopP f L e r).2.length ≤ r.length) := by
  intro f
  induction f with
  | zero =>
    refine ⟨fun ts e r h => ?_, fun L ts e r h => ?_, fun L e r => ?_⟩
    · cases ts <;> simp [atomP] at h
    · simp [anyP] at h
    · simp [loopP]
  | succ f ih =>
    obtain ⟨ihA, ihN, ihL⟩ := ih
    refine ⟨fun ts e r h => ?_, fun L ts e r h => ?_, fun L e r => ?_⟩
    · cases ts with
      | nil => simp [atomP] at h
      | cons x q =>
        rw [atomP] at h
        split at h
        · cases h; simp
        split at h
        · cases h; simp
        split at h
        · cases h; simp
        split at h
        · cases h; simp
        split at h
        · cases h; simp
        split at h
        · cases h; simp
        split at h
        · split at h
          · rename_i e' y r' he
            have := ihN _ _ _ _ he
            split at h
            · cases h; simp at this ⊢; omega
            · cases h
          · cases h
        · cases h
    · rw [anyP] at h
      split at h
      · exact ihA _ _ _ h
      split at h
      · rename_i hn
        split at h
        · rename_i k r' he
          cases h
          have := ihN _ _ _ _ he
          have h2 : ts.tail.length ≤ ts.length := by simp
          omega
        · cases h
      · split at h
        · rename_i e' r' he
          have h1 := ihN _ _ _ _ he
          have h2 := ihL L e' r'
          rw [Option.some.inj h] at h2
          have h3 : r.length ≤ r'.length := h2
          omega
        · cases h
    · cases r with
      | nil => simp [loopP]
      | cons x r' =>
        rw [loopP]
        split
        · simp; omega
        · split
          · simp
          · split
            · simp
            · rename_i s r'' he
              have h1 := ihN _ _ _ _ he
              split
              · simp only [List.length_cons]; omega
              · simp only [List.length_cons]
                exact Nat.le_trans (ihL L _ r'') (by omega)

end Go.Proofs.YtjjdcdnaonfnmaaGreatDoor

namespace Go.Proofs.YtjjdcdnaonfnmaaGreatDoor

theorem decFrom_snocB : ∀ (l : List UInt8) (acc n : Nat) (b : UInt8) (d : Nat), Lib.decFrom acc l = some n → Lib.digitVal b = some d → Lib.decFrom acc (l ++ [b]) = some (n * 10 + d)
  | [], acc, n, b, d, h, hd => by
    cases h
    simp [Lib.decFrom, hd]
  | x :: r, acc, n, b, d, h, hd => by
    rw [Lib.decFrom] at h
    rw [List.cons_append, Lib.decFrom]
    cases hv : Lib.digitVal x with
    | none => rw [hv] at h; cases h
    | some e => rw [hv] at h; exact decFrom_snocB r _ n b d h hd

theorem digit_ofB (d : Nat) (h : d < 10) : Lib.digitVal (UInt8.ofNat (48 + d)) = some d := by
  have h2 : (UInt8.ofNat (48 + d)).toNat = 48 + d := by rw [UInt8.toNat_ofNat']; omega
  unfold Lib.digitVal
  rw [h2, if_pos (by omega)]
  congr 1
  omega

theorem decFrom_digitsB (u : Nat) : Lib.decFrom 0 (Lib.decDigits u) = some u := by
  induction u using Nat.strongRecOn with
  | ind u ih =>
    by_cases h : u < 10
    · rw [Lib.decDigits_one h, Lib.decFrom, digit_ofB u h]
      simp [Lib.decFrom]
    · rw [Lib.decDigits, dif_neg h, decFrom_snocB _ _ _ _ _ (ih (u / 10) (by omega)) (digit_ofB (u % 10) (by omega))]
      congr 1
      omega

theorem decDigits_neB (u : Nat) : Lib.decDigits u ≠ [] := by
  intro h
  have h1 := Lib.decDigits_length u
  have h2 := Lib.nDigits_pos u
  rw [h] at h1
  simp at h1
  omega

theorem itoa_natB (m : Nat) : Lib.itoa (m : Int) = Lib.decDigits m := by
  unfold Lib.itoa
  rw [if_neg (by omega), Int.toNat_natCast]

theorem nDigits_leB : ∀ (k u : Nat), 1 ≤ k → u < 10 ^ k → Lib.nDigits u ≤ k
  | 0, _, h, _ => by omega
  | k + 1, u, _, h => by
    by_cases hu : u < 10
    · rw [Lib.nDigits_small hu]; omega
    · rw [Lib.nDigits_big hu]
      rcases Nat.eq_zero_or_pos k with rfl | hk
      · simp at h; omega
      · have : u / 10 < 10 ^ k := by
          rw [Nat.pow_succ] at h
          exact Nat.div_lt_of_lt_mul (by rw [Nat.mul_comm]; exact h)
        have := nDigits_leB k (u / 10) hk this
        omega

theorem readD_inB (n : Int) (h0 : 0 ≤ n) (h1 : n ≤ 999999999) : readD (Lib.itoa n) = n := by
  obtain ⟨m, rfl⟩ := Int.eq_ofNat_of_zero_le h0
  have hl : (Lib.decDigits m).length ≤ 9 := by
    rw [Lib.decDigits_length]
    exact nDigits_leB 9 m (by omega) (by omega)
  rw [itoa_natB, readD_end hl (decDigits_neB m) (decFrom_digitsB m), itoa_natB, if_pos rfl]

end Go.Proofs.YtjjdcdnaonfnmaaGreatDoor

namespace Go.Proofs.YtjjdcdnaonfnmaaGreatDoor

def kidsK (k : Int) : Int := if k < 0 ∨ 18 < k then -1 else if k ≤ 5 then 0 else if k ≤ 7 then 1 else 2

/-- What one node asks for, but for its kids' own shape. -/
def node1 (k : Int) (t : ByteArray) (n : Int) (m : Nat) : Bool :=
  decide ((m : Int) = kidsK k) && (if k = 0 then nameB t.data.toList else if k = 2 then decide (t.size ≤ 100) else t.toList.isEmpty) && (if k = 1 then decide (0 ≤ n ∧ n ≤ 999999999) else decide (n = 0))

mutual
def shapeE : Ex → Bool
  | .mk k t n kids => node1 k t n kids.length && shapeL kids
def shapeL : List Ex → Bool
  | [] => true
  | e :: r => shapeE e && shapeL r
end

def leafW (k : Int) (t : ByteArray) (n : Int) : W :=
  if k = 0 then (if plainB t.data.toList && !keptB t.data.toList then (0, t.data.toList) else (1, t.data.toList))
  else if k = 1 then (2, Lib.itoa n) else if k = 2 then (3, t.data.toList) else if k = 3 then (0, wTrue) else if k = 4 then (0, wFalse) else (0, wNull)

def firstK (k : Int) : Nat := if bindsK k = 4 then 5 else bindsK k
def signW (k : Int) : W := (if k = 8 ∨ k = 9 then 0 else 4, signK k)

def wordsE : Ex → Nat → List W
  | .mk k t n [], least => if bindsK k < least then (4, [40]) :: (leafW k t n :: [(4, [41])]) else [leafW k t n]
  | .mk k _ _ [a], least =>
    if k = 6 then (if bindsK k < least then (4, [40]) :: ((0, wNot) :: wordsE a 3 ++ [(4, [41])]) else (0, wNot) :: wordsE a 3)
    else (if bindsK k < least then (4, [40]) :: (wordsE a 5 ++ [(0, wIs), (0, wNull)] ++ [(4, [41])]) else wordsE a 5 ++ [(0, wIs), (0, wNull)])
  | .mk k _ _ (a :: b :: _), least =>
    if bindsK k < least then (4, [40]) :: (wordsE a (firstK k) ++ signW k :: wordsE b (bindsK k + 1) ++ [(4, [41])]) else wordsE a (firstK k) ++ signW k :: wordsE b (bindsK k + 1)

theorem words_pos (e : Ex) (L : Nat) : 0 < (wordsE e L).length := by
  obtain ⟨k, t, n, kids⟩ := e
  match kids with
  | [] => rw [wordsE]; split <;> simp
  | [a] => rw [wordsE]; split <;> split <;> simp
  | a :: b :: r => rw [wordsE]; split <;> (simp; try omega)

/-- The brackets that are wanted. -/
theorem words_in {e : Ex} {L : Nat} (h : bindsK e.kind < L) : wordsE e L = (4, [40]) :: (wordsE e 1 ++ [(4, [41])]) := by
  obtain ⟨k, t, n, kids⟩ := e
  have h1 : ¬ bindsK k < 1 := by unfold bindsK; (repeat' split) <;> omega
  have h2 : bindsK k < L := h
  match kids with
  | [] => rw [wordsE, wordsE, if_pos h2, if_neg h1]; rfl
  | [a] =>
    rw [wordsE, wordsE]
    by_cases hk : k = 6
    · rw [if_pos hk, if_pos hk, if_pos h2, if_neg h1]
    · rw [if_neg hk, if_neg hk, if_pos h2, if_neg h1]
  | a :: b :: r => rw [wordsE, wordsE, if_pos h2, if_neg h1]

theorem words_out {e : Ex} {L L' : Nat} (h : ¬ bindsK e.kind < L) (h' : ¬ bindsK e.kind < L') : wordsE e L = wordsE e L' := by
  obtain ⟨k, t, n, kids⟩ := e
  have h1 : ¬ bindsK k < L := h
  have h2 : ¬ bindsK k < L' := h'
  match kids with
  | [] => rw [wordsE, wordsE, if_neg h1, if_neg h2]
  | [a] =>
    rw [wordsE, wordsE]
    by_cases hk : k = 6
    · rw [if_pos hk, if_pos hk, if_neg h1, if_neg h2]
    · rw [if_neg hk, if_neg hk, if_neg h1, if_neg h2]
  | a :: b :: r => rw [wordsE, wordsE, if_neg h1, if_neg h2]

/-- Nothing of strength L or more goes on here. -/
def Stop (L : Nat) (rest : List W) : Prop := ∀ x r, rest = x :: r → (∀ b, L ≤ b → b ≤ 6 → nextK x b = none) ∧ (L ≤ 4 → isW x wIs = false)

theorem Stop.mono {L L' : Nat} {rest : List W} (h : Stop L rest) (hl : L ≤ L') : Stop L' rest := fun x r e =>
  ⟨fun b hb hb' => (h x r e).1 b (by omega) hb', fun h4 => (h x r e).2 (by omega)⟩
theorem stop_nil (L : Nat) : Stop L [] := fun _ _ e => by cases e

theorem loop_stop {f L : Nat} {e : Ex} {rest : List W} (h : Stop L rest) (hL : L ≤ 6) : loopP f L e rest = (e, rest) := by
  cases f with
  | zero => rw [loopP]
  | succ f =>
    cases rest with
    | nil => rw [loopP]
    | cons x r =>
      obtain ⟨h1, h2⟩ := h x r rfl
      rw [loopP]
      rw [if_neg (by rintro ⟨rfl, h3, _⟩; rw [h2 (by omega)] at h3; cases h3), h1 L (Nat.le_refl _) hL]

def RTat (e : Ex) (L : Nat) : Prop := ∀ rest f, enough f L (wordsE e L ++ rest) → Stop L rest → anyP f L (wordsE e L ++ rest) = some (e, rest)
def Aat (e : Ex) (L : Nat) : Prop := ∀ rest f, enough f L (wordsE e L ++ rest) → Stop (L + 1) rest → ∃ f', enoughL f' L rest ∧ anyP f L (wordsE e L ++ rest) = some (loopP f' L e rest)

/-- One level down, where e is no sum of that level itself. -/
theorem step_down {e : Ex} {L : Nat} (hL : L ≤ 6) (hw : wordsE e L = wordsE e (L + 1)) (hn : L = 3 → ∀ rest, hdW (wordsE e L ++ rest) wNot = false) (h : RTat e (L + 1)) : Aat e L := by
  intro rest f hf hs
  have hp := words_pos e L
  unfold enough at hf
  rw [List.length_append] at hf
  obtain ⟨f, rfl⟩ : ∃ g, f = g + 1 := ⟨f - 1, by omega⟩
  refine ⟨f, by unfold enoughL; omega, ?_⟩
  rw [anyP, if_neg (by omega), if_neg (by rintro ⟨h3, h4⟩; rw [hn h3 rest] at h4; cases h4), hw]
  have := h rest f (by unfold enough; rw [← hw, List.length_append]; omega) hs
  rw [this]

theorem rt_of_a {e : Ex} {L : Nat} (hL : L ≤ 6) (h : Aat e L) : RTat e L := by
  intro rest f hf hs
  obtain ⟨f', _, h2⟩ := h rest f hf (hs.mono (by omega))
  rw [h2, loop_stop hs hL]

end Go.Proofs.YtjjdcdnaonfnmaaGreatDoor
