/- spec.Quote answers the text between quotes, each of its quotes doubled. -/
import Derived.Test.YtnepfnbmmdcgpaaDoorBytes1
import Derived.Test.YtnepfnbmmdcgpaaDoorLexM
namespace Go.Proofs.YtnepfnbmmdcgpaaDoor
open Go.RowKit

def dbl (q : UInt8) (t : List UInt8) : List UInt8 := t.flatMap fun b => if b = q then [q, b] else [b]
def quoteT (s : ByteArray) (q : UInt8) : ByteArray := ⟨(quoteL q s.data.toList).toArray⟩

theorem dbl_eq (q : UInt8) (s : ByteArray) (k : Nat) (h : k < s.size) (he : s[k] = q) : dbl q (s.data.toList.take (k + 1)) = dbl q (s.data.toList.take k) ++ [q] ++ [s[k]] := by
  unfold dbl
  rw [take_snoc s k h, List.flatMap_append]
  simp [he]
theorem dbl_ne (q : UInt8) (s : ByteArray) (k : Nat) (h : k < s.size) (he : s[k] ≠ q) : dbl q (s.data.toList.take (k + 1)) = dbl q (s.data.toList.take k) ++ [s[k]] := by
  unfold dbl
  rw [take_snoc s k h, List.flatMap_append]
  simp [he]
theorem dbl_len (q : UInt8) (t : List UInt8) : (dbl q t).length ≤ 2 * t.length := by
  unfold dbl
  induction t with
  | nil => simp
  | cons b r ih =>
    rw [List.flatMap_cons, List.length_append, List.length_cons]
    split
    · simp only [List.length_cons, List.length_nil]; omega
    · simp only [List.length_cons, List.length_nil]; omega

set_option maxHeartbeats 1000000 in
theorem specQuote (s : ByteArray) (y : UInt8) (w : World) (hs : s.size ≤ 1048576) :
    Calls Tryd.prog 58 #[.string s, .int .u8 (y.toNat : Int)] w fun e w' => e = .returned (.string (quoteT s y)) ∧ Below w.heap.size w w' := by
  obtain ⟨i0, hi0, hz0, hz1, hz2⟩ := info_parts Tryd.infoByte
  have hy := byte_le y
  go_enter Tryd.func58, Tryd.ntmps58
  go_wp2
  go_loopw [5, 6] (fun v i wr => ∃ (k : Nat) (a1 : Option Addr) (c1 : Nat) (l1 : List UInt8), k ≤ s.size ∧ i = .int .i64 k ∧ v = .slice a1 l1.length c1 ∧ Hid (l1 = y :: dbl y (s.data.toList.take k)) ∧ OwnB wr w.heap.size a1 c1 l1 ∧ Below w.heap.size w wr) (fun _ i _ => s.size - (intOf i).toNat)
  case atStart => exact ⟨0, _, _, [y], Nat.zero_le _, rfl, rfl, rfl, ownBOne w y, (Below.refl _ _).alloc (Nat.le_refl _) _⟩
  case round =>
    obtain ⟨k, a1, c1, l1, hk, rfl, rfl, hl1, hown, hb⟩ := hrel
    have hsz := hb.size
    have hlk : l1.length ≤ 3000000 := by
      have h1 := dbl_len y (s.data.toList.take k)
      have h2 : (s.data.toList.take k).length ≤ k := List.length_take_le _ _
      rw [hl1.out]
      simp only [List.length_cons]
      omega
    by_cases hlt : k < s.size
    · have hby := byte_le s[k]
      by_cases he : s[k] = y
      · have HS := Lib.hid (dbl_eq y s k hlt he)
        have ht := byte_eq he
        have HE := Lib.hid he
        clear he
        go_wp2_with (first
          | ((at_builtin; refine wpAppendByte rfl (.tmp 20) (.tmp 22) rfl i0 hi0 hz0 hz1 hz2 w.heap.size a1 c1 l1 wr.heap.size y rfl (hown.alloc _) rfl (by simp) (by omega) (by simp; omega) ?_; intro a2 c2 w2 l2 hl2 hown2 hg2 _); (have hb2 : Below w.heap.size w w2 := (hb.alloc hsz _).grown hg2 (by simp; omega) (fun q hq => (hown.lt hq).1)); (have hsz2 := hb2.size); (have hlk2 : l2.length ≤ 3000001 := by rw [hid_len hl2]; omega))
          | (at_builtin; refine wpAppendByte rfl (.tmp 24) (.tmp 28) rfl i0 hi0 hz0 hz1 hz2 w.heap.size a2 c2 l2 w2.heap.size s[k] rfl (hown2.alloc _) rfl (by simp) (by omega) (by simp; omega) ?_; intro a3 c3 w3 l3 hl3 hown3 hg3 _))
        have hb3 : Below w.heap.size w w3 := (hb2.alloc hsz2 _).grown hg3 (by simp; omega) (fun q hq => (hown2.lt hq).1)
        go_roundw
        case rel => exact ⟨k + 1, a3, c3, l3, by omega, by go_num, rfl, by unfold Hid; rw [hl3.out, hl2.out, hl1.out, HS.out]; simp, hown3, hb3⟩
        case measure => simp [intOf]; omega
      · have HS := Lib.hid (dbl_ne y s k hlt he)
        have ht := byte_ne he
        have HE := Lib.hid he
        clear he
        go_wp2_with (at_builtin; refine wpAppendByte rfl (.tmp 24) (.tmp 28) rfl i0 hi0 hz0 hz1 hz2 w.heap.size a1 c1 l1 wr.heap.size s[k] rfl (hown.alloc _) rfl (by simp) (by omega) (by simp; omega) ?_; intro a3 c3 w3 l3 hl3 hown3 hg3 _)
        have hb3 : Below w.heap.size w w3 := (hb.alloc hsz _).grown hg3 (by simp; omega) (fun q hq => (hown.lt hq).1)
        go_roundw
        case rel => exact ⟨k + 1, a3, c3, l3, by omega, by go_num, rfl, by unfold Hid; rw [hl3.out, hl1.out, HS.out]; simp, hown3, hb3⟩
        case measure => simp [intOf]; omega
    · obtain rfl : k = s.size := by omega
      have HQ : Hid (quoteL y s.data.toList = l1 ++ [y]) := by
        unfold Hid
        rw [hl1.out, List.take_of_length_le (by simp)]
        simp [quoteL, dbl]
      go_wp2_with (at_builtin; refine wpAppendByte rfl (.tmp 30) (.tmp 32) rfl i0 hi0 hz0 hz1 hz2 w.heap.size a1 c1 l1 wr.heap.size y rfl (hown.alloc _) rfl (by simp) (by omega) (by simp; omega) ?_; intro a3 c3 w3 l3 hl3 hown3 hg3 _; have hcv := convBytes hown3)
      have hb3 : Below w.heap.size w w3 := (hb.alloc hsz _).grown hg3 (by simp; omega) (fun q hq => (hown.lt hq).1)
      go_ret
      exact ⟨by rw [quoteT, HQ.out, ← hl3.out]; rfl, hb3⟩

end Go.Proofs.YtnepfnbmmdcgpaaDoor
