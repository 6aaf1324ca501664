/- impl.Quote answers the text between quotes, each of its quotes doubled. -/
import Derived.Test.YtnepfnbmmdcgpaaDoorQuoteSpec
import Derived.Test.YtnepfnbmmdcgpaaDoorBuilder
namespace Go.Proofs.YtnepfnbmmdcgpaaDoor
open Go.RowKit

set_option maxHeartbeats 2000000 in
theorem implQuote (s : ByteArray) (y : UInt8) (w : World) (hs : s.size ≤ 1048576) :
    Calls Tryd.prog 62 #[.string s, .int .u8 (y.toNat : Int)] w fun e w' => e = .returned (.string (quoteT s y)) ∧ Below w.heap.size w w' := by
  have hy := byte_le y
  go_enter Tryd.func62, Tryd.ntmps62
  go_wp2_with fail
  refine (writeByte w.heap.size none 0 [] y _ (Bld.new w) (by simp)).mono ?_
  rintro e w1 ⟨rfl, a1, c1, l1, hl1, hB1, hW1, _⟩
  have hb1 : Below w.heap.size w w1 := hW1.below (Bld.new w) ((Below.refl _ _).alloc (Nat.le_refl _) _) (Nat.le_refl _)
  obtain ⟨W, cap, hcv, hbW, hrW, hcap, hcell⟩ := convTextEx w1 s
  have hne1 : ∀ g, (Value.slice a1 l1.length c1).ownBlock = some g → g ≠ w1.heap.size := fun g hg => by have := (hB1.own.lt hg).2; omega
  have hltB := hB1.lt
  have HC := Lib.hid hcell
  have HL : Hid (l1 = y :: dbl y (s.data.toList.take 0)) := hl1
  have HN := Lib.hid hne1
  generalize hR : w1.heap.size = R at *
  have hBW := hB1.below (hR ▸ hbW)
  have hbw : Below w.heap.size w W := hb1.trans ((hR ▸ hbW : Below w1.heap.size w1 W).mono hb1.size)
  have HBW := Lib.hid hBW
  have HR := Lib.hid hR
  clear hl1 hB1 hW1 hb1 hcell hne1 hR hBW hbW
  go_wp2_with fail
  go_loopw [13] (fun i wr => ∃ (k : Nat) (a : Option Addr) (c : Nat) (l : List UInt8), k ≤ s.size ∧ i = .int .i64 k ∧ Hid (l = y :: dbl y (s.data.toList.take k)) ∧ Bld wr w.heap.size a c l ∧ Hid (wr.heap[R]? = W.heap[R]?) ∧ R < wr.heap.size ∧ Hid (∀ g, (Value.slice a l.length c).ownBlock = some g → g ≠ R) ∧ Below w.heap.size w wr) (fun i _ => s.size - (intOf i).toNat)
  case atStart => exact ⟨0, a1, c1, l1, Nat.zero_le _, rfl, HL, HBW.out, rfl, hrW, HN, hbw⟩
  case round =>
    obtain ⟨k, a, c, l, hk, rfl, hl, hB, hrow, hr, hne, hb⟩ := hrel
    have hlk : l.length ≤ 3000000 := by
      have h1 := dbl_len y (s.data.toList.take k)
      have h2 : (s.data.toList.take k).length ≤ k := List.length_take_le _ _
      rw [hl.out]
      simp only [List.length_cons]
      omega
    by_cases hlt : k < s.size
    · have hc : wr.cell? ⟨R, k, none⟩ = some (.int .u8 (s[k].toNat : Int)) := (World.cell?_of_block (w := W) (w' := wr) (a := ⟨R, k, none⟩) hrow.out).trans (HC.out k hlt)
      have hby := byte_le s[k]
      by_cases he : s[k] = y
      · have HS := Lib.hid (dbl_eq y s k hlt he)
        have ht := byte_eq he
        clear he
        go_wp2_with fail
        refine (writeByte w.heap.size a c l y _ hB (by omega)).mono ?_
        rintro e w2 ⟨rfl, a2, c2, l2, hl2, hB2, hW2, hn2⟩
        have hr2 : R < w2.heap.size := Nat.lt_of_lt_of_le hr hW2.size
        have hrow2 : Hid (w2.heap[R]? = W.heap[R]?) := (hW2.block R hr (by omega) (fun e => hne.out R e.symm rfl)).trans hrow.out
        have hne2 : Hid (∀ g, (Value.slice a2 l2.length c2).ownBlock = some g → g ≠ R) := fun g hg => by
          rcases hn2 g hg with h | h
          · exact hne.out g h
          · omega
        have hb2 := hW2.below hB hb (Nat.le_refl _)
        have hlk2 : l2.length ≤ 3000001 := by rw [hid_len hl2]; omega
        have HW2 := Lib.hid hW2
        have HN2 := Lib.hid hn2
        clear hW2 hn2
        go_wp2_with fail
        refine (writeByte w.heap.size a2 c2 l2 s[k] _ hB2 (by omega)).mono ?_
        rintro e w3 ⟨rfl, a3, c3, l3, hl3, hB3, hW3, hn3⟩
        have hr3 : R < w3.heap.size := Nat.lt_of_lt_of_le hr2 hW3.size
        have hrow3 : Hid (w3.heap[R]? = W.heap[R]?) := (hW3.block R hr2 (by omega) (fun e => hne2.out R e.symm rfl)).trans hrow2.out
        have hne3 : Hid (∀ g, (Value.slice a3 l3.length c3).ownBlock = some g → g ≠ R) := fun g hg => by
          rcases hn3 g hg with h | h
          · exact hne2.out g h
          · omega
        have hb3 := hW3.below hB2 hb2 (Nat.le_refl _)
        have HW3 := Lib.hid hW3
        have HN3 := Lib.hid hn3
        clear hW3 hn3
        go_wp2_with fail
        go_roundw
        case rel => exact ⟨k + 1, a3, c3, l3, by omega, by go_num, by unfold Hid; rw [hl3.out, hl2.out, hl.out, HS.out]; simp, hB3, hrow3, hr3, hne3, hb3⟩
        case measure => simp [intOf]; omega
      · have HS := Lib.hid (dbl_ne y s k hlt he)
        have ht := byte_ne he
        clear he
        go_wp2_with fail
        refine (writeByte w.heap.size a c l s[k] _ hB (by omega)).mono ?_
        rintro e w2 ⟨rfl, a2, c2, l2, hl2, hB2, hW2, hn2⟩
        have hr2 : R < w2.heap.size := Nat.lt_of_lt_of_le hr hW2.size
        have hrow2 : Hid (w2.heap[R]? = W.heap[R]?) := (hW2.block R hr (by omega) (fun e => hne.out R e.symm rfl)).trans hrow.out
        have hne2 : Hid (∀ g, (Value.slice a2 l2.length c2).ownBlock = some g → g ≠ R) := fun g hg => by
          rcases hn2 g hg with h | h
          · exact hne.out g h
          · omega
        have hb2 := hW2.below hB hb (Nat.le_refl _)
        have HW2 := Lib.hid hW2
        have HN2 := Lib.hid hn2
        clear hW2 hn2
        go_wp2_with fail
        go_roundw
        case rel => exact ⟨k + 1, a2, c2, l2, by omega, by go_num, by unfold Hid; rw [hl2.out, hl.out, HS.out]; simp, hB2, hrow2, hr2, hne2, hb2⟩
        case measure => simp [intOf]; omega
    · obtain rfl : k = s.size := by omega
      have HQ : Hid (quoteL y s.data.toList = l ++ [y]) := by
        unfold Hid
        rw [hl.out, List.take_of_length_le (by simp)]
        simp [quoteL, dbl]
      go_wp2_with fail
      refine (writeByte w.heap.size a c l y _ hB (by omega)).mono ?_
      rintro e w2 ⟨rfl, a2, c2, l2, hl2, hB2, hW2, hn2⟩
      have hb2 := hW2.below hB hb (Nat.le_refl _)
      have HW2 := Lib.hid hW2
      have HN2 := Lib.hid hn2
      clear hW2 hn2
      go_wp2_with fail
      refine (builderString w.heap.size a2 c2 l2 _ hB2).mono ?_
      rintro e w3 ⟨rfl, hb3⟩
      go_wp2_with fail
      go_ret
      exact ⟨by rw [quoteT, HQ.out, ← hl2.out]; rfl, hb2.trans hb3⟩

end Go.Proofs.YtnepfnbmmdcgpaaDoor
