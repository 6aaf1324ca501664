/- l01Text answers a text of as many bytes as are asked for. -/
import Derived.Test.YtjnanlfahgjcbaaDrawT
namespace Go.Proofs.Ytjnanlfahgjcbaa
open Go.RowKit

theorem grown_refl (w : World) (r : Option Nat) : w.grownBy w r := ⟨rfl, rfl, rfl, Nat.le_refl _, fun _ _ _ => rfl⟩

theorem nearerLen {n L L' m m' : Nat} (hL : L < n) (hm : m' < 2 ^ 87) (h : L < L' ∨ (L' = L ∧ m' < m)) : (n - L') * 2 ^ 87 + m' < (n - L) * 2 ^ 87 + m := by
  rcases h with h | ⟨h, h'⟩
  · omega
  · omega

set_option maxRecDepth 100000 in
set_option maxHeartbeats 4000000 in
theorem l01TextSome {w0 : World} {a : Option Addr} {c : Nat} {l : List UInt8} {g : Nat} {w : World} (hd : Deck w0 a c l g w) (n : Nat) (hn0 : 1 ≤ n) (hn : n ≤ 200) :
    Calls Try.prog 20 #[.pointer (some ⟨g, 0, none⟩), .int .i64 n] w (Drawn w0 a c l g w (TextOf n)) := by
  obtain ⟨i0, hi0, hz0, hz1, hz2⟩ := info_parts Try.infoByte
  go_enter Try.func20, Try.ntmps20
  go_wp2_with fail
  go_loopw [5] (fun v wr => ∃ (a1 : Option Addr) (c1 : Nat) (l1 : List UInt8), v = .slice a1 l1.length c1 ∧ l1.length ≤ n + 19 ∧ Out w0 a c l g w wr a1 c1 l1) (fun v wr => (n - sliceLen v) * 2 ^ 87 + muW l.length g wr)
  case atStart => exact ⟨_, _, [], rfl, by simp, ⟨hd.alloc _, grown_alloc (grown_refl _ _) _, ownBEmpty w, hd.lt⟩⟩
  case round =>
    obtain ⟨a1, c1, l1, rfl, hl1, ho⟩ := hrel
    by_cases hlt : l1.length < n
    · have hcur := ho.deck.curOf.2
      have hsz := ho.size
      go_wp2_with fail
      refine (l01BelowX ho.deck 5 (by omega) (by omega)).mono ?_
      rintro e w1 ⟨y, rfl, hy0, hy1, hd1, hg1, t1⟩
      have ho1 := ho.draw hd1 hg1
      have hsz1 := ho1.size
      have hy : y = 0 ∨ y = 1 ∨ y = 2 ∨ y = 3 ∨ y = 4 := by omega
      have T1 := Lib.hid t1
      clear hg1 t1 hd1
      rcases hy with rfl | rfl | rfl | hy
      · go_wp2_with fail
        refine (l01ByteX ho1.deck).mono ?_
        rintro e w2 ⟨x, rfl, hx0, hx1, hd2, hg2, _⟩
        have ho2 := ho1.draw hd2 hg2
        have hsz2 := ho2.size
        clear hg2 hd2
        obtain ⟨b, rfl⟩ := byteOf hx0 hx1
        have hub := u8_same b
        go_wp2_with (at_builtin; refine wpAppendByte rfl (.tmp 28) (.tmp 32) rfl i0 hi0 hz0 hz1 hz2 w.heap.size a1 c1 l1 w2.heap.size b rfl (ho2.own.alloc _) rfl (by simp) (by omega) (by simp; omega) ?_; intro a3 c3 w3 l3 hl3 hown3 hg3 _)
        have h3 := ho2.append hown3 hg3
        have hlen := hid_len hl3
        go_roundw
        case rel => exact ⟨a3, c3, l3, rfl, by omega, h3.1⟩
        case measure => exact nearerLen hlt (muW_lt h3.1.deck) (.inl (by show l1.length < l3.length; omega))
      · obtain ⟨M0, hM0⟩ : ∃ M0, M0 = muW l.length g wr := ⟨_, rfl⟩
        go_wp2_with fail
        refine (l01BelowX ho1.deck 9 (by omega) (by omega)).mono ?_
        rintro e w2 ⟨k', rfl, hk0, hk1, hd2, hg2, t2⟩
        have ho2 := ho1.draw hd2 hg2
        obtain ⟨k, rfl⟩ := Int.eq_ofNat_of_zero_le hk0
        have T2 := Lib.hid t2
        clear hg2 hd2 t2
        go_wp2_with fail
        refine (l01BelowX ho2.deck 4 (by omega) (by omega)).mono ?_
        rintro e w3 ⟨x, rfl, hx0, hx1, hd3, hg3, t3⟩
        have ho3 := ho2.draw hd3 hg3
        have HMU : Hid (muW l.length g w3 < M0) := by rw [hM0]; exact muW_three hcur T1.out T2.out t3 (.inl rfl)
        have HM0 := Lib.hid hM0
        clear hg3 hd3 t3 hM0
        obtain ⟨b, hb⟩ := byteOf (x := 97 + x) (by omega) (by omega)
        have hwb : IntKind.i64.wrap (97 + x) = (b.toNat : Int) := by rw [IntWalk.i64_in _ (by omega)]; exact hb
        have hub := u8_same b
        have HB := Lib.hid hb
        clear hb
        go_wp2_with fail
        go_loopw [5, 8] (fun v i wq => ∃ (j : Nat) (a2 : Option Addr) (c2 : Nat) (l2 : List UInt8), v = .slice a2 l2.length c2 ∧ i = .int .i64 j ∧ j ≤ k ∧ Hid (l2.length = l1.length + j) ∧ Out w0 a c l g w wq a2 c2 l2 ∧ Hid (j = 0 → muW l.length g wq < M0)) (fun _ i _ => k - (intOf i).toNat)
        case atStart => exact ⟨0, a1, c1, l1, rfl, rfl, Nat.zero_le _, rfl, ho3, fun _ => HMU.out⟩
        case round =>
          obtain ⟨j, a2, c2, l2, rfl, rfl, hjk, hl2, ho4, hmu4⟩ := hrel
          have hl2' : l2.length ≤ n + 19 := by rw [hl2.out]; omega
          have hsz4 := ho4.size
          by_cases hj : j < k
          · go_wp2_with (at_builtin; refine wpAppendByte rfl (.tmp 47) (.tmp 49) rfl i0 hi0 hz0 hz1 hz2 w.heap.size a2 c2 l2 wr.heap.size b rfl (ho4.own.alloc _) rfl (by simp) (by omega) (by simp; omega) ?_; intro a5 c5 w5 l5 hl5 hown5 hg5 _)
            have h5 := ho4.append hown5 hg5
            go_roundw
            case rel => exact ⟨j + 1, a5, c5, l5, rfl, by go_num, by omega, by unfold Hid; rw [hid_len hl5, hl2.out]; omega, h5.1, fun h => by omega⟩
            case measure => simp [intOf]; omega
          · go_wp2_with fail
            go_roundw
            case rel => exact ⟨a2, c2, l2, rfl, hl2', ho4⟩
            case measure =>
              refine nearerLen hlt (muW_lt ho4.deck) ?_
              rcases Nat.eq_zero_or_pos j with h | h
              · exact .inr ⟨by show l2.length = l1.length; rw [hl2.out]; omega, by rw [← HM0.out]; exact hmu4.out h⟩
              · exact .inl (by show l1.length < l2.length; rw [hl2.out]; omega)
      · by_cases hp : 0 < l1.length
        · obtain ⟨M0, hM0⟩ : ∃ M0, M0 = muW l.length g wr := ⟨_, rfl⟩
          go_wp2_with fail
          refine (l01BelowX ho1.deck (l1.length : Int) (by omega) (by omega)).mono ?_
          rintro e w2 ⟨f', rfl, hf0, hf1, hd2, hg2, t2⟩
          have ho2 := ho1.draw hd2 hg2
          obtain ⟨f, rfl⟩ := Int.eq_ofNat_of_zero_le hf0
          have T2 := Lib.hid t2
          clear hg2 hd2 t2
          go_wp2_with fail
          refine (l01BelowX ho2.deck 20 (by omega) (by omega)).mono ?_
          rintro e w3 ⟨k', rfl, hk0, hk1, hd3, hg3, t3⟩
          have ho3 := ho2.draw hd3 hg3
          obtain ⟨k, rfl⟩ := Int.eq_ofNat_of_zero_le hk0
          have HMU : Hid (muW l.length g w3 < M0) := by rw [hM0]; exact muW_three hcur T1.out T2.out t3 (.inr rfl)
          have HM0 := Lib.hid hM0
          clear hg3 hd3 t3 hM0
          go_wp2_with fail
          go_loopw [5, 11] (fun v i wq => ∃ (j : Nat) (a2 : Option Addr) (c2 : Nat) (l2 : List UInt8), v = .slice a2 l2.length c2 ∧ i = .int .i64 j ∧ j ≤ k ∧ Hid (l2.length = l1.length + j) ∧ Out w0 a c l g w wq a2 c2 l2 ∧ Hid (j = 0 → muW l.length g wq < M0)) (fun _ i _ => k - (intOf i).toNat)
          case atStart => exact ⟨0, a1, c1, l1, rfl, rfl, Nat.zero_le _, rfl, ho3, fun _ => HMU.out⟩
          case round =>
            obtain ⟨j, a2, c2, l2, rfl, rfl, hjk, hl2, ho4, hmu4⟩ := hrel
            have hl2e := hl2.out
            have hl2' : l2.length ≤ n + 19 := by omega
            have hsz4 := ho4.size
            by_cases hj : j < k
            · obtain ⟨q, hq⟩ : ∃ q, q = f + j := ⟨_, rfl⟩
              have hql : q < l2.length := by omega
              have hwq : IntKind.i64.wrap ((f : Int) + (j : Int)) = (q : Int) := by rw [IntWalk.i64_in _ (by omega)]; omega
              have hqi : (q : Int) < (l2.length : Int) := by omega
              have hq0 : (0 : Int) ≤ (q : Int) := by omega
              obtain ⟨R, rfl, _, _, hcell⟩ := ho4.own.at (by omega)
              have hcR := hcell q hql
              have HQ := Lib.hid hq
              clear hcell hl2e hq
              go_wp2_with (at_builtin; refine wpAppendByte rfl (.tmp 75) (.tmp 82) rfl i0 hi0 hz0 hz1 hz2 w.heap.size (some ⟨R, 0, none⟩) c2 l2 wr.heap.size l2[q] rfl (ho4.own.alloc _) rfl (by simp) (by omega) (by simp; omega) ?_; intro a5 c5 w5 l5 hl5 hown5 hg5 _)
              have h5 := ho4.append hown5 hg5
              go_roundw
              case rel => exact ⟨j + 1, a5, c5, l5, rfl, by go_num, by omega, by unfold Hid; rw [hid_len hl5, hl2.out]; omega, h5.1, fun h => by omega⟩
              case measure => simp [intOf]; omega
            · clear hl2e
              go_wp2_with fail
              go_roundw
              case rel => exact ⟨a2, c2, l2, rfl, hl2', ho4⟩
              case measure =>
                refine nearerLen hlt (muW_lt ho4.deck) ?_
                rcases Nat.eq_zero_or_pos j with h | h
                · exact .inr ⟨by show l2.length = l1.length; rw [hl2.out]; omega, by rw [← HM0.out]; exact hmu4.out h⟩
                · exact .inl (by show l1.length < l2.length; rw [hl2.out]; omega)
        · go_wp2_with fail
          go_roundw
          case rel => exact ⟨a1, c1, l1, rfl, hl1, ho1⟩
          case measure => exact nearerLen hlt (muW_lt ho1.deck) (.inr ⟨rfl, muW_one hcur T1.out (.inr rfl)⟩)
      · have hn1 : (y == 0) = false := by simp; omega
        have hn2 : (y == 1) = false := by simp; omega
        have hn3 : (y == 2) = false := by simp; omega
        go_wp2_with fail
        refine (l01BelowX ho1.deck 26 (by omega) (by omega)).mono ?_
        rintro e w2 ⟨x, rfl, hx0, hx1, hd2, hg2, _⟩
        have ho2 := ho1.draw hd2 hg2
        have hsz2 := ho2.size
        clear hg2 hd2
        obtain ⟨b, hb⟩ := byteOf (x := 97 + x) (by omega) (by omega)
        have hwb : IntKind.i64.wrap (97 + x) = (b.toNat : Int) := by rw [IntWalk.i64_in _ (by omega)]; exact hb
        have hub := u8_same b
        have HB := Lib.hid hb
        clear hb
        go_wp2_with (at_builtin; refine wpAppendByte rfl (.tmp 19) (.tmp 24) rfl i0 hi0 hz0 hz1 hz2 w.heap.size a1 c1 l1 w2.heap.size b rfl (ho2.own.alloc _) rfl (by simp) (by omega) (by simp; omega) ?_; intro a3 c3 w3 l3 hl3 hown3 hg3 _)
        have h3 := ho2.append hown3 hg3
        have hlen := hid_len hl3
        go_roundw
        case rel => exact ⟨a3, c3, l3, rfl, by omega, h3.1⟩
        case measure => exact nearerLen hlt (muW_lt h3.1.deck) (.inl (by show l1.length < l3.length; omega))
    · have hln : n ≤ l1.length := by omega
      obtain ⟨R, rfl, hlc, hcm, hcell⟩ := ho.own.at (by omega)
      have hcv := convCells (c := c1) (W := wr) (R := R) (l := l1.take n) (fun j hj => by
        rw [List.length_take] at hj
        rw [hcell j (by omega), List.getElem_take])
      rw [List.length_take_of_le hln] at hcv
      have HC := Lib.hid hcell
      have g1 : (n : Int) ≤ (c1 : Int) := by omega
      have g0 : (0 : Int) ≤ (n : Int) := by omega
      unfold maxLen at hcm
      clear hcell
      go_wp2_with fail
      go_ret
      exact ⟨_, ⟨_, rfl, by show (l1.take n).toArray.size = n; rw [List.size_toArray, List.length_take_of_le hln]⟩, rfl, ho.deck, ho.grown⟩

set_option maxRecDepth 100000 in
set_option maxHeartbeats 1000000 in
theorem l01TextNone {w0 : World} {a : Option Addr} {c : Nat} {l : List UInt8} {g : Nat} {w : World} (hd : Deck w0 a c l g w) :
    Calls Try.prog 20 #[.pointer (some ⟨g, 0, none⟩), .int .i64 0] w (Drawn w0 a c l g w (TextOf 0)) := by
  have hcv : (convert 22 9 (.slice (some ⟨w.heap.size, 0, none⟩) 0 0)).run Try.prog (w.alloc (.cells #[] 5)) = .ok (.string ⟨#[]⟩) (w.alloc (.cells #[] 5)) :=
    convCells (l := []) (fun j hj => by simp at hj)
  go_enter Try.func20, Try.ntmps20
  go_wp2_with fail
  go_loopw [5] (fun v wr => v = .slice (some ⟨w.heap.size, 0, none⟩) 0 0 ∧ wr = w.alloc (.cells #[] 5)) (fun _ _ => 0)
  case atStart => exact ⟨rfl, rfl⟩
  case round =>
    obtain ⟨rfl, rfl⟩ := hrel
    go_wp2_with fail
    go_ret
    exact ⟨_, ⟨⟨#[]⟩, rfl, rfl⟩, rfl, hd.alloc _, grown_alloc (grown_refl _ _) _⟩

theorem l01Text {w0 : World} {a : Option Addr} {c : Nat} {l : List UInt8} {g : Nat} {w : World} (hd : Deck w0 a c l g w) (n : Nat) (hn : n ≤ 200) :
    Calls Try.prog 20 #[.pointer (some ⟨g, 0, none⟩), .int .i64 n] w (Drawn w0 a c l g w (TextOf n)) := by
  rcases Nat.eq_zero_or_pos n with rfl | h
  · exact l01TextNone hd
  · exact l01TextSome hd n h hn

end Go.Proofs.Ytjnanlfahgjcbaa
