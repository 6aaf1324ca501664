/- spec.Put answers a new list, the text put in at its place. -/
/- spec.Columns answers the rising list of the columns. -/
/- The words of a text: plain mathematics over lists of bytes, nothing of the program. -/
/- The reserved words: impl.isReserved and the model's list. -/
/- Expressions: how they are written as words, and how they are read: plain mathematics. -/
/- spec.Quote answers the text between quotes, each of its quotes doubled. -/
import Derived.Test.YthebkfanpnbanaaDoorMPlain
import Derived.Test.YthebkfanpnbanaaDoorMMem
import Derived.Lib.Atoi
import Derived.Lib.ItoaNum
import Derived.Test.YthebkfanpnbanaaDoorMDrawType
import Derived.Test.YthebkfanpnbanaaDoorMBytes1
namespace Go.Proofs.YthebkfanpnbanaaDoor
open Go.RowKit

theorem specBeforeIs (a b : ByteArray) (w : World) (ha : a.size ≤ maxLen) (hb : b.size ≤ maxLen) (v : Bool) (h : lessB a b = v) :
    Calls Tryd.prog 76 #[.string a, .string b] w fun e w' => e = .returned (.bool v) ∧ ∃ n, w' = w.drewN n := by
  have := specBefore a b w ha hb
  unfold lessB at h
  rw [h] at this
  exact this

set_option maxHeartbeats 1000000 in
theorem specPut (a : Option Addr) (c : Nat) (xs : List ByteArray) (s : ByteArray) (w : World) (hx : Strs w a c xs) (hs : s.size ≤ maxLen) (hn : xs.length ≤ 4194304) :
    Calls Tryd.prog 51 #[.slice a xs.length c, .string s] w (NewStrs w (putL xs s)) := by
  obtain ⟨i0, hi0, hz0, hz1, hz2⟩ := info_parts Tryd.infoString
  have hl := hx.len
  go_enter Tryd.func51, Tryd.ntmps51
  go_wp2
  go_loopw [5, 6, 7] (fun v d i wr => ∃ (k : Nat) (a1 : Option Addr) (c1 : Nat), k ≤ xs.length ∧ i = .int .i64 k ∧ d = .bool (putSt xs s k).2 ∧ v = .slice a1 (putSt xs s k).1.length c1 ∧ Own wr w.heap.size a1 c1 (putSt xs s k).1 ∧ Below w.heap.size w wr) (fun _ _ i _ => xs.length - (intOf i).toNat)
  case atStart => exact ⟨0, _, _, Nat.zero_le _, rfl, rfl, rfl, ownEmpty w, (Below.refl _ _).alloc (Nat.le_refl _) _⟩
  case round =>
    obtain ⟨k, a1, c1, hk, rfl, rfl, rfl, hown, hb⟩ := hrel
    have hsz := hb.size
    by_cases hlt : k < xs.length
    · obtain ⟨b, off, rfl, hbl, hc⟩ := (hx.below hb).spot hlt
      have hsk := hx.2.2.1 xs[k] (List.getElem_mem hlt)
      have hlen := (putSt_len xs s k hk).1
      cases hd : (putSt xs s k).2 with
      | true =>
        have HS : Hid (putSt xs s (k + 1) = ((putSt xs s k).1 ++ [xs[k]], true)) := by
          unfold Hid; rw [putSt_succ xs s k hlt]; unfold putStep; rw [hd]; rfl
        have Hd := Lib.hid hd
        clear hd
        go_wp2_with (at_builtin; refine wpAppendStrs rfl (.tmp 36) (.tmp 41) rfl i0 hi0 hz0 hz1 hz2 w.heap.size a1 c1 _ (some ⟨_, 0, none⟩) 1 [xs[k]] rfl (hown.alloc _) rfl (strsOne _ _ hsk) (by simp only [List.length_cons, List.length_nil]; omega) (by simp; omega) ?_; intro a2 c2 w2 hown2 hg2)
        have hb2 := appended hb (Nat.le_refl _) hown hg2
        go_roundw
        case rel => exact ⟨k + 1, a2, c2, by omega, by go_num, by rw [HS.out], by rw [HS.out, List.length_append]; rfl, by rw [HS.out]; exact hown2, hb2⟩
        case measure => simp [intOf]; omega
      | false =>
        have hlen' := (putSt_len xs s k hk).2 hd
        cases hle : lessB xs[k] s with
        | true =>
          have HS : Hid (putSt xs s (k + 1) = ((putSt xs s k).1 ++ [xs[k]], false)) := by
            unfold Hid; rw [putSt_succ xs s k hlt]; unfold putStep; rw [hd, hle]; rfl
          have Hd := Lib.hid hd
          have Hle := Lib.hid hle
          clear hd hle
          go_wp2_with (first
            | (go_at_call 76; refine (specBeforeIs _ _ _ hsk hs true Hle.out).mono ?_; rintro e w1 ⟨rfl, n1, rfl⟩)
            | (at_builtin; refine wpAppendStrs rfl (.tmp 36) (.tmp 41) rfl i0 hi0 hz0 hz1 hz2 w.heap.size a1 c1 _ (some ⟨_, 0, none⟩) 1 [xs[k]] rfl ((hown.drewN n1).alloc _) rfl (strsOne _ _ hsk) (by simp only [List.length_cons, List.length_nil]; omega) (by simp; omega) ?_; intro a2 c2 w2 hown2 hg2))
          have hb2 := appended (below_drewN hb n1) (Nat.le_refl _) (hown.drewN n1) hg2
          go_roundw
          case rel => exact ⟨k + 1, a2, c2, by omega, by go_num, by rw [HS.out], by rw [HS.out, List.length_append]; rfl, by rw [HS.out]; exact hown2, hb2⟩
          case measure => simp [intOf]; omega
        | false =>
          cases he : (xs[k].toList == s.toList) with
          | true =>
            have HS : Hid (putSt xs s (k + 1) = ((putSt xs s k).1 ++ [s], true)) := by
              unfold Hid; rw [putSt_succ xs s k hlt]; unfold putStep; rw [hd, hle, he]; rfl
            have Hd := Lib.hid hd
            have Hle := Lib.hid hle
            clear hd hle
            go_wp2_with (first
              | (go_at_call 76; refine (specBeforeIs _ _ _ hsk hs false Hle.out).mono ?_; rintro e w1 ⟨rfl, n1, rfl⟩)
              | ((at_builtin; refine wpAppendStrs rfl (.tmp 26) (.tmp 28) rfl i0 hi0 hz0 hz1 hz2 w.heap.size a1 c1 _ (some ⟨_, 0, none⟩) 1 [s] rfl ((hown.drewN n1).alloc _) rfl (strsOne _ _ hs) (by simp only [List.length_cons, List.length_nil]; omega) (by simp; omega) ?_; intro a2 c2 w2 hown2 hg2); (have hb2 := appended (below_drewN hb n1) (Nat.le_refl _) (hown.drewN n1) hg2); (have hc2 := (hx.below hb2).spot hlt); (have hc2' : w2.cell? ⟨b, off + k, none⟩ = some (.string xs[k]) := by obtain ⟨b', off', he', _, h⟩ := hc2; cases he'; exact h); clear hc2))
            go_roundw
            case rel => exact ⟨k + 1, a2, c2, by omega, by go_num, by rw [HS.out], by rw [HS.out, List.length_append]; rfl, by rw [HS.out]; exact hown2, hb2⟩
            case measure => simp [intOf]; omega
          | false =>
            have HS : Hid (putSt xs s (k + 1) = ((putSt xs s k).1 ++ [s] ++ [xs[k]], true)) := by
              unfold Hid; rw [putSt_succ xs s k hlt]; unfold putStep; rw [hd, hle, he]; rfl
            have Hd := Lib.hid hd
            have Hle := Lib.hid hle
            clear hd hle
            go_wp2_with (first
              | (go_at_call 76; refine (specBeforeIs _ _ _ hsk hs false Hle.out).mono ?_; rintro e w1 ⟨rfl, n1, rfl⟩)
              | ((at_builtin; refine wpAppendStrs rfl (.tmp 26) (.tmp 28) rfl i0 hi0 hz0 hz1 hz2 w.heap.size a1 c1 _ (some ⟨_, 0, none⟩) 1 [s] rfl ((hown.drewN n1).alloc _) rfl (strsOne _ _ hs) (by simp only [List.length_cons, List.length_nil]; omega) (by simp; omega) ?_; intro a2 c2 w2 hown2 hg2); (have hb2 := appended (below_drewN hb n1) (Nat.le_refl _) (hown.drewN n1) hg2); (have hc2 := (hx.below hb2).spot hlt); (have hc2' : w2.cell? ⟨b, off + k, none⟩ = some (.string xs[k]) := by obtain ⟨b', off', he', _, h⟩ := hc2; cases he'; exact h); clear hc2; (have hsz2 := hb2.size))
              | (at_builtin; refine wpAppendStrs rfl (.tmp 36) (.tmp 41) rfl i0 hi0 hz0 hz1 hz2 w.heap.size a2 c2 ((putSt xs s k).1 ++ [s]) (some ⟨_, 0, none⟩) 1 [xs[k]] (by simp [go_sem]) (hown2.alloc _) rfl (strsOne _ _ hsk) (by simp only [List.length_cons, List.length_nil, List.length_append]; omega) (by simp; omega) ?_; intro a3 c3 w3 hown3 hg3))
            have hb3 := appended hb2 (Nat.le_refl _) hown2 hg3
            go_roundw
            case rel => exact ⟨k + 1, a3, c3, by omega, by go_num, by rw [HS.out], by rw [HS.out, List.length_append, List.length_append]; rfl, by rw [HS.out]; exact hown3, hb3⟩
            case measure => simp [intOf]; omega
    · obtain rfl : k = xs.length := by omega
      have hlen := (putSt_len xs s xs.length hk).1
      have hend := putSt_end xs s
      cases hd : (putSt xs s xs.length).2 with
      | true =>
        have HE : Hid (putL xs s = (putSt xs s xs.length).1) := by unfold Hid; rw [← hend, hd]; rfl
        have Hd := Lib.hid hd
        clear hd hend
        go_wp2_with fail
        go_ret
        exact ⟨a1, c1, by rw [HE.out]; rfl, by rw [HE.out]; exact hown, hb⟩
      | false =>
        have HE : Hid (putL xs s = (putSt xs s xs.length).1 ++ [s]) := by unfold Hid; rw [← hend, hd]; rfl
        have Hd := Lib.hid hd
        clear hd hend
        go_wp2_with (at_builtin; refine wpAppendStrs rfl (.tmp 45) (.tmp 47) rfl i0 hi0 hz0 hz1 hz2 w.heap.size a1 c1 _ (some ⟨_, 0, none⟩) 1 [s] rfl (hown.alloc _) rfl (strsOne _ _ hs) (by simp only [List.length_cons, List.length_nil]; omega) (by simp; omega) ?_; intro a2 c2 w2 hown2 hg2)
        have hb2 := appended hb (Nat.le_refl _) hown hg2
        go_ret
        exact ⟨a2, c2, by rw [HE.out, List.length_append]; rfl, by rw [HE.out]; exact hown2, hb2⟩

end Go.Proofs.YthebkfanpnbanaaDoor

namespace Go.Proofs.YthebkfanpnbanaaDoor
open Go.RowKit

theorem own1_yes {e : Ex} (h : e.kind = 0) : own1 e = [e.text] := by unfold own1; rw [if_pos h]
theorem own1_no {e : Ex} (h : e.kind ≠ 0) : own1 e = [] := by unfold own1; rw [if_neg h]

theorem wt_get {l : List Ex} {k : Nat} (h : k < l.length) : l[k].wt ≤ wtL l := by
  have h1 := wtL_take l k h
  have h2 := wtL_mono l (k + 1)
  omega

def ColsP (d : Nat) : Prop := ∀ (e : Ex) (a : Option Addr) (c : Nat) (w : World), e.fit → e.wt ≤ 1048576 → KidsAt w d a c e.kids →
  Calls Tryd.prog 35 #[.agg #[.int .i64 e.kind, .string e.text, .int .i64 e.num, .slice a e.kids.length c]] w (NewStrs w e.ucols)

set_option maxRecDepth 100000 in
set_option maxHeartbeats 2000000 in
theorem specCols : ∀ d, ColsP d
  | 0 => fun _ _ _ _ _ _ h => h.elim
  | d + 1 => by
    intro e a c w hfit hwt hk
    have ih := specCols d
    have hue := Lib.hid (Ex.ucols_eq e)
    have hl := hk.len
    have hts := hfit.1
    obtain ⟨i0, hi0, hz0, hz1, hz2⟩ := info_parts Tryd.infoString
    have HK := Lib.hid (fun w' hb => hk.below (w' := w') hb)
    have HW := Lib.hid (Ex.wt_eq e)
    have HN := Lib.hid (nodes_wt e)
    have HON := Lib.hid (ucolsL_on e)
    clear hk
    by_cases h0 : e.kind = 0
    · have hk0 : (e.kind == 0) = true := by simp [h0]
      have HO := Lib.hid (own1_yes h0)
      clear h0
      generalize hks : e.kids = xs at *
      go_enter Tryd.func35, Tryd.ntmps35
      have hb0 : Below w.heap.size w ((w.alloc (.cells #[.int .i64 e.kind, .string e.text, .int .i64 e.num, .slice a xs.length c] 26)).alloc (.cells #[] 9)) := ((Below.refl _ _).alloc (Nat.le_refl _) _).alloc (by simp) _
      have hc30 : ((w.alloc (.cells #[.int .i64 e.kind, .string e.text, .int .i64 e.num, .slice a xs.length c] 26)).alloc (.cells #[] 9)).cell? ⟨w.heap.size, 3, none⟩ = some (.slice a xs.length c) := by simp [go_sem]
      have hown0 := (ownEmpty (w.alloc (.cells #[.int .i64 e.kind, .string e.text, .int .i64 e.num, .slice a xs.length c] 26))).lower (B' := w.heap.size) (by simp)
      have HX := Lib.hid (And.intro hb0 (And.intro hc30 hown0))
      clear hb0 hc30 hown0
      go_wp2_with (at_builtin; refine wpAppendStrs rfl (.tmp 11) (.tmp 14) rfl i0 hi0 hz0 hz1 hz2 w.heap.size (some ⟨w.heap.size + 1, 0, none⟩) 0 [] (some ⟨w.heap.size + 1 + 1, 0, none⟩) 1 [e.text] rfl (by have := HX.out.2.2.alloc (.cells #[.string e.text] 9); simpa using this) rfl (by have := strsOne ((w.alloc (.cells #[.int .i64 e.kind, .string e.text, .int .i64 e.num, .slice a xs.length c] 26)).alloc (.cells #[] 9)) e.text hts; simpa using this) (by simp only [List.length_cons, List.length_nil]; omega) (by simp; omega) ?_; intro a2 c2 w2 hown2 hg2)
      have HS : Hid (Own w2 w.heap.size a2 c2 (ucolsL (own1 e) (xs.take 0)) ∧ w2.cell? ⟨w.heap.size, 3, none⟩ = some (.slice a xs.length c) ∧ w.heap.size < w2.heap.size ∧ Below w.heap.size w w2) := by
        have hb1 := HX.out.1.alloc HX.out.1.size (.cells #[.string e.text] 9)
        have hnb : ∀ q, (Value.slice (some ⟨w.heap.size + 1, 0, none⟩) ([] : List ByteArray).length 0).ownBlock = some q → q = w.heap.size + 1 := fun q hq => (Option.some.inj hq).symm
        refine ⟨by rw [HO.out]; simpa [ucolsL] using hown2, ?_, ?_, hb1.grown hg2 hb1.size (fun q hq => by have := hnb q hq; omega)⟩
        · refine (hg2.cell_far ⟨w.heap.size, 3, none⟩ (by simp; omega) (fun e => by have := hnb _ e.symm; simp at this)).trans ?_
          simp [go_sem]
        · have := hg2.size; simp at this; omega
      have HL1 : Hid (([] ++ [e.text] : List ByteArray).length = (ucolsL (own1 e) (xs.take 0)).length) := by unfold Hid; rw [HO.out]; simp [ucolsL]
      clear hown2 hg2 HX
      go_loopw [3, 4] (fun v i wr => ∃ (k : Nat) (a1 : Option Addr) (c1 : Nat), k ≤ xs.length ∧ i = .int .i64 k ∧ v = .slice a1 (ucolsL (own1 e) (xs.take k)).length c1 ∧ Own wr w.heap.size a1 c1 (ucolsL (own1 e) (xs.take k)) ∧ wr.cell? ⟨w.heap.size, 3, none⟩ = some (.slice a xs.length c) ∧ w.heap.size < wr.heap.size ∧ Below w.heap.size w wr) (fun _ i _ => xs.length - (intOf i).toNat)
      case atStart => exact ⟨0, _, _, Nat.zero_le _, rfl, by first | (rw [← HL1.out]; rfl) | (rw [← HL1.out]), HS.out⟩
      case round =>
        obtain ⟨k, a1, c1, hk, rfl, rfl, hown, h3, hlw, hb⟩ := hrel
        by_cases hlt : k < xs.length
        · obtain ⟨b, off, rfl, hbl, hc0, hc1, hc2, hfitk, a', c', hc3, hkid⟩ := (HK.out _ hb).spot hlt
          have HT := Lib.hid (ucolsL_take (own1 e) xs k hlt)
          have HX := Lib.hid hkid
          have HWk : Hid (xs[k].wt ≤ 1048576) := by have h1 := HW.out; have h2 := wt_get hlt; unfold Hid; omega
          have HU := Lib.hid (ucols_wt xs[k])
          have HUL := Lib.hid ((ucols_facts xs[k]).2.2)
          have HUN := Lib.hid (nodes_wt xs[k])
          clear hkid
          have HOWN := Lib.hid hown
          clear hown
          go_wp2_with fail
          refine (ih xs[k] a' c' _ hfitk HWk.out HX.out).mono ?_
          rintro x w2 ⟨am, cm, rfl, hom, hb2⟩
          have HO2 := Lib.hid (HOWN.out.below hb2)
          have h3' := (hb2.cell (p := ⟨w.heap.size, 3, none⟩) hlw).trans h3
          have HB2 := Lib.hid (hb.trans (hb2.mono hb.size))
          have hlw' := Nat.lt_of_lt_of_le hlw hb2.size
          have HST := Lib.hid (hom.strs fun s hs => by have h1 := HU.out s hs; have h2 := HWk.out; unfold maxLen; omega)
          have hml : xs[k].ucols.length ≤ 9223372036854775807 := by have h1 := HUL.out; have h2 := HUN.out; have h3 := HWk.out; omega
          clear h3 hb hb2 hc0 hc1 hc2 hc3 hlw hom
          go_wp2_with fail
          go_loopw [3, 6] (fun v i w3 => ∃ (j : Nat) (a3 : Option Addr) (c3 : Nat), j ≤ xs[k].ucols.length ∧ i = .int .i64 j ∧ v = .slice a3 (putAll (ucolsL (own1 e) (xs.take k)) (xs[k].ucols.take j)).length c3 ∧ Own w3 w.heap.size a3 c3 (putAll (ucolsL (own1 e) (xs.take k)) (xs[k].ucols.take j)) ∧ Below w2.heap.size w2 w3) (fun _ i _ => xs[k].ucols.length - (intOf i).toNat)
          case atStart => exact ⟨0, a1, c1, Nat.zero_le _, rfl, rfl, HO2.out, Below.refl _ _⟩
          case round =>
            obtain ⟨j, a3, c3, hj, rfl, rfl, hown3, hb3⟩ := hrel
            by_cases hjl : j < xs[k].ucols.length
            · obtain ⟨bm, om, rfl, hbm, hcm⟩ := (HST.out.below hb3).spot hjl
              have HPT := Lib.hid (putAll_take (ucolsL (own1 e) (xs.take k)) xs[k].ucols j hjl)
              have HPO := Lib.hid (putAll_on (ucolsL (own1 e) (xs.take k)) xs[k].ucols j 1048576 (fun t ht => Nat.le_trans ((HON.out k).1 t ht) hwt) (fun t ht => Nat.le_trans (HU.out t ht) HWk.out))
              have HST3 := Lib.hid (hown3.strs fun s hs => by have h1 := HPO.out.1 s hs; unfold maxLen; omega)
              have hsz : Hid (xs[k].ucols[j].size ≤ maxLen) := by have h1 := HU.out _ (List.getElem_mem hjl); have h2 := HWk.out; unfold Hid maxLen; omega
              have hlen : Hid ((putAll (ucolsL (own1 e) (xs.take k)) (xs[k].ucols.take j)).length ≤ 4194304) := by have h1 := HPO.out.2; have h2 := (HON.out k).2; have h3 := HN.out; have h4 := HUL.out; have h5 := HUN.out; have h6 := HWk.out; unfold Hid; omega
              have HB3 := Lib.hid hb3
              clear hown3 hb3
              go_wp2_with fail
              refine (specPut _ _ _ _ _ HST3.out hsz.out hlen.out).mono ?_
              rintro x w4 ⟨a4, c4, rfl, hown4, hb4⟩
              go_wp2_with fail
              go_roundw
              case rel => exact ⟨j + 1, a4, c4, by omega, by go_num, by rw [HPT.out], by rw [HPT.out]; exact hown4.lower (by have h1 := HB2.out.size; have h2 := HB3.out.size; omega), HB3.out.trans (hb4.mono HB3.out.size)⟩
              case measure => simp [intOf]; omega
            · obtain rfl : j = xs[k].ucols.length := by omega
              rw [List.take_length] at hown3 ⊢
              have HO3 := Lib.hid hown3
              have HB3 := Lib.hid hb3
              clear hown3 hb3
              go_wp2_with fail
              go_roundw
              case rel => exact ⟨k + 1, a3, c3, by omega, by go_num, by rw [HT.out], by rw [HT.out]; exact HO3.out, (HB3.out.cell (p := ⟨w.heap.size, 3, none⟩) hlw').trans h3', Nat.lt_of_lt_of_le hlw' HB3.out.size, HB2.out.trans (HB3.out.mono HB2.out.size)⟩
              case measure => simp [intOf]; omega
        · obtain rfl : k = xs.length := by omega
          have HUE : Hid (e.ucols = ucolsL (own1 e) (xs.take xs.length)) := by unfold Hid; rw [List.take_length]; exact hue.out
          have HOWN := Lib.hid hown
          clear hown
          go_wp2_with fail
          go_ret
          exact ⟨a1, c1, by rw [HUE.out]; rfl, by rw [HUE.out]; exact HOWN.out, hb⟩
    · have hk0 : (e.kind == 0) = false := by simp [h0]
      have HO := Lib.hid (own1_no h0)
      clear h0
      generalize hks : e.kids = xs at *
      go_enter Tryd.func35, Tryd.ntmps35
      have HS : Hid (Own ((w.alloc (.cells #[.int .i64 e.kind, .string e.text, .int .i64 e.num, .slice a xs.length c] 26)).alloc (.cells #[] 9)) w.heap.size (some ⟨w.heap.size + 1, 0, none⟩) 0 (ucolsL (own1 e) (xs.take 0)) ∧ ((w.alloc (.cells #[.int .i64 e.kind, .string e.text, .int .i64 e.num, .slice a xs.length c] 26)).alloc (.cells #[] 9)).cell? ⟨w.heap.size, 3, none⟩ = some (.slice a xs.length c) ∧ w.heap.size < ((w.alloc (.cells #[.int .i64 e.kind, .string e.text, .int .i64 e.num, .slice a xs.length c] 26)).alloc (.cells #[] 9)).heap.size ∧ Below w.heap.size w ((w.alloc (.cells #[.int .i64 e.kind, .string e.text, .int .i64 e.num, .slice a xs.length c] 26)).alloc (.cells #[] 9))) := by
        have hown0 := (ownEmpty (w.alloc (.cells #[.int .i64 e.kind, .string e.text, .int .i64 e.num, .slice a xs.length c] 26))).lower (B' := w.heap.size) (by simp)
        refine ⟨by rw [HO.out]; simpa [ucolsL] using hown0, by simp [go_sem], by simp; omega, ((Below.refl _ _).alloc (Nat.le_refl _) _).alloc (by simp) _⟩
      have HL1 : Hid ((0 : Nat) = (ucolsL (own1 e) (xs.take 0)).length) := by unfold Hid; rw [HO.out]; simp [ucolsL]
      go_wp2_with fail
      go_loopw [3, 4] (fun v i wr => ∃ (k : Nat) (a1 : Option Addr) (c1 : Nat), k ≤ xs.length ∧ i = .int .i64 k ∧ v = .slice a1 (ucolsL (own1 e) (xs.take k)).length c1 ∧ Own wr w.heap.size a1 c1 (ucolsL (own1 e) (xs.take k)) ∧ wr.cell? ⟨w.heap.size, 3, none⟩ = some (.slice a xs.length c) ∧ w.heap.size < wr.heap.size ∧ Below w.heap.size w wr) (fun _ i _ => xs.length - (intOf i).toNat)
      case atStart => exact ⟨0, _, _, Nat.zero_le _, rfl, by first | (rw [← HL1.out]; rfl) | (rw [← HL1.out]), HS.out⟩
      case round =>
        obtain ⟨k, a1, c1, hk, rfl, rfl, hown, h3, hlw, hb⟩ := hrel
        by_cases hlt : k < xs.length
        · obtain ⟨b, off, rfl, hbl, hc0, hc1, hc2, hfitk, a', c', hc3, hkid⟩ := (HK.out _ hb).spot hlt
          have HT := Lib.hid (ucolsL_take (own1 e) xs k hlt)
          have HX := Lib.hid hkid
          have HWk : Hid (xs[k].wt ≤ 1048576) := by have h1 := HW.out; have h2 := wt_get hlt; unfold Hid; omega
          have HU := Lib.hid (ucols_wt xs[k])
          have HUL := Lib.hid ((ucols_facts xs[k]).2.2)
          have HUN := Lib.hid (nodes_wt xs[k])
          clear hkid
          have HOWN := Lib.hid hown
          clear hown
          go_wp2_with fail
          refine (ih xs[k] a' c' _ hfitk HWk.out HX.out).mono ?_
          rintro x w2 ⟨am, cm, rfl, hom, hb2⟩
          have HO2 := Lib.hid (HOWN.out.below hb2)
          have h3' := (hb2.cell (p := ⟨w.heap.size, 3, none⟩) hlw).trans h3
          have HB2 := Lib.hid (hb.trans (hb2.mono hb.size))
          have hlw' := Nat.lt_of_lt_of_le hlw hb2.size
          have HST := Lib.hid (hom.strs fun s hs => by have h1 := HU.out s hs; have h2 := HWk.out; unfold maxLen; omega)
          have hml : xs[k].ucols.length ≤ 9223372036854775807 := by have h1 := HUL.out; have h2 := HUN.out; have h3 := HWk.out; omega
          clear h3 hb hb2 hc0 hc1 hc2 hc3 hlw hom
          go_wp2_with fail
          go_loopw [3, 6] (fun v i w3 => ∃ (j : Nat) (a3 : Option Addr) (c3 : Nat), j ≤ xs[k].ucols.length ∧ i = .int .i64 j ∧ v = .slice a3 (putAll (ucolsL (own1 e) (xs.take k)) (xs[k].ucols.take j)).length c3 ∧ Own w3 w.heap.size a3 c3 (putAll (ucolsL (own1 e) (xs.take k)) (xs[k].ucols.take j)) ∧ Below w2.heap.size w2 w3) (fun _ i _ => xs[k].ucols.length - (intOf i).toNat)
          case atStart => exact ⟨0, a1, c1, Nat.zero_le _, rfl, rfl, HO2.out, Below.refl _ _⟩
          case round =>
            obtain ⟨j, a3, c3, hj, rfl, rfl, hown3, hb3⟩ := hrel
            by_cases hjl : j < xs[k].ucols.length
            · obtain ⟨bm, om, rfl, hbm, hcm⟩ := (HST.out.below hb3).spot hjl
              have HPT := Lib.hid (putAll_take (ucolsL (own1 e) (xs.take k)) xs[k].ucols j hjl)
              have HPO := Lib.hid (putAll_on (ucolsL (own1 e) (xs.take k)) xs[k].ucols j 1048576 (fun t ht => Nat.le_trans ((HON.out k).1 t ht) hwt) (fun t ht => Nat.le_trans (HU.out t ht) HWk.out))
              have HST3 := Lib.hid (hown3.strs fun s hs => by have h1 := HPO.out.1 s hs; unfold maxLen; omega)
              have hsz : Hid (xs[k].ucols[j].size ≤ maxLen) := by have h1 := HU.out _ (List.getElem_mem hjl); have h2 := HWk.out; unfold Hid maxLen; omega
              have hlen : Hid ((putAll (ucolsL (own1 e) (xs.take k)) (xs[k].ucols.take j)).length ≤ 4194304) := by have h1 := HPO.out.2; have h2 := (HON.out k).2; have h3 := HN.out; have h4 := HUL.out; have h5 := HUN.out; have h6 := HWk.out; unfold Hid; omega
              have HB3 := Lib.hid hb3
              clear hown3 hb3
              go_wp2_with fail
              refine (specPut _ _ _ _ _ HST3.out hsz.out hlen.out).mono ?_
              rintro x w4 ⟨a4, c4, rfl, hown4, hb4⟩
              go_wp2_with fail
              go_roundw
              case rel => exact ⟨j + 1, a4, c4, by omega, by go_num, by rw [HPT.out], by rw [HPT.out]; exact hown4.lower (by have h1 := HB2.out.size; have h2 := HB3.out.size; omega), HB3.out.trans (hb4.mono HB3.out.size)⟩
              case measure => simp [intOf]; omega
            · obtain rfl : j = xs[k].ucols.length := by omega
              rw [List.take_length] at hown3 ⊢
              have HO3 := Lib.hid hown3
              have HB3 := Lib.hid hb3
              clear hown3 hb3
              go_wp2_with fail
              go_roundw
              case rel => exact ⟨k + 1, a3, c3, by omega, by go_num, by rw [HT.out], by rw [HT.out]; exact HO3.out, (HB3.out.cell (p := ⟨w.heap.size, 3, none⟩) hlw').trans h3', Nat.lt_of_lt_of_le hlw' HB3.out.size, HB2.out.trans (HB3.out.mono HB2.out.size)⟩
              case measure => simp [intOf]; omega
        · obtain rfl : k = xs.length := by omega
          have HUE : Hid (e.ucols = ucolsL (own1 e) (xs.take xs.length)) := by unfold Hid; rw [List.take_length]; exact hue.out
          have HOWN := Lib.hid hown
          clear hown
          go_wp2_with fail
          go_ret
          exact ⟨a1, c1, by rw [HUE.out]; rfl, by rw [HUE.out]; exact HOWN.out, hb⟩

end Go.Proofs.YthebkfanpnbanaaDoor

namespace Go.Proofs.YthebkfanpnbanaaDoor

/-- The number that l spells, or -1. -/
def readD (l : List UInt8) : Int :=
  if 9 < l.length then -1 else match Go.Lib.decNat l with
    | none => -1
    | some m => if Go.Lib.itoa (m : Int) = l then (m : Int) else -1

def letterB (b : UInt8) : Bool := (decide (65 ≤ b.toNat) && decide (b.toNat ≤ 90)) || (decide (97 ≤ b.toNat) && decide (b.toNat ≤ 122)) || b.toNat == 95
def digitB (b : UInt8) : Bool := decide (48 ≤ b.toNat) && decide (b.toNat ≤ 57)
def moreB (b : UInt8) : Bool := letterB b || digitB b
def blankB (b : UInt8) : Bool := b.toNat == 32 || b.toNat == 9 || b.toNat == 10 || b.toNat == 13
def lowB (b : UInt8) : UInt8 := if decide (65 ≤ b.toNat) && decide (b.toNat ≤ 90) then b + 32 else b
def signB (b : UInt8) : Bool := [40, 41, 44, 59, 61, 60, 62, 43, 45, 42, 46].contains b.toNat

/-- How many bytes are passed over at the head (true: inside a note). -/
def gap : Bool → List UInt8 → Nat
  | _, [] => 0
  | true, b :: r => 1 + gap (b.toNat != 10) r
  | false, b :: r => if blankB b then 1 + gap false r else if b.toNat == 45 && (r.head?.map (·.toNat)) == some 45 then 1 + gap true r else 0

/-- A word: its kind, its text, its place. -/
structure Tok where
  kind : Nat
  text : List UInt8
  at_ : Nat
deriving DecidableEq

def runL (l : List UInt8) : List UInt8 := l.takeWhile moreB
def runN (l : List UInt8) : Nat := (runL l).length

/-- What stands between quotes (behind the first one), and how many bytes it has there with the last one. -/
def quoted (q : UInt8) : List UInt8 → Option (List UInt8 × Nat)
  | [] => none
  | [b] => if b = q then some ([], 1) else none
  | b :: c :: r =>
    if b = q then
      if c = q then (quoted q r).map fun x => (b :: x.1, 2 + x.2) else some ([], 1)
    else (quoted q (c :: r)).map fun x => (b :: x.1, 1 + x.2)

def twoB (b c : UInt8) : Bool := (b.toNat == 60 && c.toNat == 61) || (b.toNat == 62 && c.toNat == 61) || (b.toNat == 60 && c.toNat == 62)

def signN : List UInt8 → Nat
  | [] => 0
  | [b] => if signB b then 1 else 0
  | b :: c :: _ => if twoB b c then 2 else if signB b then 1 else 0

def nameB (t : List UInt8) : Bool := decide (1 ≤ t.length) && decide (t.length ≤ 40) && !t.contains 0

/-- The word at the head: kind, text, how many bytes. -/
def one : List UInt8 → Option (Nat × List UInt8 × Nat)
  | [] => none
  | b :: r =>
    if letterB b then some (0, (runL (b :: r)).map lowB, runN (b :: r))
    else if digitB b then if 0 ≤ readD (runL (b :: r)) then some (2, runL (b :: r), runN (b :: r)) else none
    else if b.toNat = 34 then (quoted 34 r).bind fun x => if nameB x.1 then some (1, x.1, 1 + x.2) else none
    else if b.toNat = 39 then (quoted 39 r).bind fun x => if x.1.length ≤ 100 then some (3, x.1, 1 + x.2) else none
    else if signN (b :: r) = 0 then none else some (4, (b :: r).take (signN (b :: r)), signN (b :: r))

theorem runN_pos {b : UInt8} {r : List UInt8} (h : moreB b = true) : 0 < runN (b :: r) := by
  simp [runN, runL, h]

theorem one_pos {l : List UInt8} {k : Nat} {t : List UInt8} {n : Nat} (h : one l = some (k, t, n)) : 0 < n := by
  cases l with
  | nil => simp [one] at h
  | cons b r =>
    rw [one] at h
    split at h
    · rename_i hb
      simp only [Option.some.injEq, Prod.mk.injEq] at h
      rw [← h.2.2]; exact runN_pos (by simp [moreB, hb])
    · split at h
      · rename_i hb
        split at h
        · simp only [Option.some.injEq, Prod.mk.injEq] at h
          rw [← h.2.2]; exact runN_pos (by simp [moreB, hb])
        · cases h
      · split at h
        · cases hq : quoted 34 r with
          | none => rw [hq] at h; cases h
          | some x =>
            rw [hq, Option.bind_some] at h
            split at h
            · simp only [Option.some.injEq, Prod.mk.injEq] at h; omega
            · cases h
        · split at h
          · cases hq : quoted 39 r with
            | none => rw [hq] at h; cases h
            | some x =>
              rw [hq, Option.bind_some] at h
              split at h
              · simp only [Option.some.injEq, Prod.mk.injEq] at h; omega
              · cases h
          · split at h
            · cases h
            · simp only [Option.some.injEq, Prod.mk.injEq] at h; omega

theorem one_len {l : List UInt8} {k : Nat} {t : List UInt8} {n : Nat} (h : one l = some (k, t, n)) : l ≠ [] := by
  rintro rfl; simp [one] at h

/-- The words from a place on, at which no gap stands; or the place of what is none. -/
def lexAt (at_ : Nat) (l : List UInt8) : Except Nat (List Tok) :=
  if l = [] then .ok [] else
  match h : one l with
  | none => .error at_
  | some (k, t, n) =>
    match lexAt (at_ + n + gap false (l.drop n)) ((l.drop n).drop (gap false (l.drop n))) with
    | .ok ts => .ok (⟨k, t, at_⟩ :: ts)
    | .error e => .error e
termination_by l.length
decreasing_by
  have h1 := one_pos h
  have h2 := one_len h
  cases l with
  | nil => exact absurd rfl h2
  | cons b r => simp only [List.length_drop, List.length_cons]; omega

def lexB (l : List UInt8) : Except Nat (List Tok) :=
  if 20000 < l.length then .error 20000 else lexAt (gap false l) (l.drop (gap false l))

def cat (ts : List Tok) : Except Nat (List Tok) → Except Nat (List Tok)
  | .ok us => .ok (ts ++ us)
  | .error e => .error e

theorem lexAt_nil (p : Nat) : lexAt p [] = .ok [] := by rw [lexAt]; simp
theorem lexAt_bad {p : Nat} {l : List UInt8} (h : l ≠ []) (h1 : one l = none) : lexAt p l = .error p := by
  rw [lexAt, if_neg h]; split
  · rfl
  · rename_i h2; rw [h1] at h2; cases h2
theorem lexAt_one {p : Nat} {l : List UInt8} {k : Nat} {t : List UInt8} {n : Nat} (h : one l = some (k, t, n)) :
    lexAt p l = cat [⟨k, t, p⟩] (lexAt (p + n + gap false (l.drop n)) ((l.drop n).drop (gap false (l.drop n)))) := by
  rw [lexAt, if_neg (one_len h)]
  split
  · rename_i h2; rw [h] at h2; cases h2
  · rename_i k' t' n' h2
    rw [h] at h2
    cases h2
    cases lexAt (p + n + gap false (l.drop n)) ((l.drop n).drop (gap false (l.drop n))) <;> rfl
theorem cat_cat (a b : List Tok) (r : Except Nat (List Tok)) : cat a (cat b r) = cat (a ++ b) r := by
  cases r <;> simp [cat]
theorem cat_nil (r : Except Nat (List Tok)) : cat [] r = r := by cases r <;> rfl

/-- How a call answers words. -/
def wordsOf : Except Nat (List Tok) → List Tok
  | .ok ts => ts
  | .error _ => []
def placeOf : Except Nat (List Tok) → Int
  | .ok _ => -1
  | .error p => (p : Int)

def quoteL (q : UInt8) (t : List UInt8) : List UInt8 := q :: (t.flatMap fun b => if b = q then [q, b] else [b]) ++ [q]

def spell1 (x : Int) (t : List UInt8) : Option (List UInt8) :=
  if x = 0 ∨ x = 2 ∨ x = 4 then some t else if x = 1 then some (quoteL 34 t) else if x = 3 then some (quoteL 39 t) else none

end Go.Proofs.YthebkfanpnbanaaDoor

namespace Go.Proofs.YthebkfanpnbanaaDoor
open Go.RowKit

/-- The reserved words, byte by byte. -/
def keptW : List (List UInt8) := [[97, 100, 100], [97, 108, 108], [97, 108, 116, 101, 114], [97, 110, 100], [97, 115], [98, 111, 111, 108], [99, 104, 97, 114], [99, 104, 101, 99, 107], [99, 111, 108, 117, 109, 110], [99, 111, 110, 115, 116, 114, 97, 105, 110, 116], [99, 114, 101, 97, 116, 101], [100, 101, 102, 97, 117, 108, 116], [100, 114, 111, 112], [101, 110, 117, 109], [102, 97, 108, 115, 101], [102, 111, 114, 101, 105, 103, 110], [102, 114, 111, 109], [105, 110, 100, 101, 120], [105, 110, 116], [105, 115], [107, 101, 121], [110, 111, 116], [110, 117, 108, 108], [111, 110], [111, 114], [112, 114, 105, 109, 97, 114, 121], [114, 101, 102, 101, 114, 101, 110, 99, 101, 115], [115, 101, 108, 101, 99, 116], [115, 101, 113, 117, 101, 110, 99, 101], [115, 101, 116], [115, 116, 97, 114, 116], [116, 97, 98, 108, 101], [116, 101, 120, 116], [116, 111], [116, 114, 117, 101], [116, 121, 112, 101], [117, 110, 105, 113, 117, 101], [118, 105, 101, 119], [119, 104, 101, 114, 101]]
def keptB (l : List UInt8) : Bool := keptW.any fun x => l == x

theorem kept_hit {l x : List UInt8} (hx : x ∈ keptW) (h : (l == x) = true) : keptB l = true := List.any_eq_true.2 ⟨x, hx, h⟩

end Go.Proofs.YthebkfanpnbanaaDoor

namespace Go.Proofs.YthebkfanpnbanaaDoor

/-- A word: its kind and its text. -/
abbrev W := Int × List UInt8

def bindsK (k : Int) : Nat :=
  if k = 9 then 1 else if k = 8 then 2 else if k = 6 then 3
  else if k = 7 ∨ k = 10 ∨ k = 11 ∨ k = 12 ∨ k = 13 ∨ k = 14 ∨ k = 15 then 4
  else if k = 16 ∨ k = 17 then 5 else if k = 18 then 6 else 7

def wAnd : List UInt8 := [97, 110, 100]
def wOr : List UInt8 := [111, 114]
def wNot : List UInt8 := [110, 111, 116]
def wIs : List UInt8 := [105, 115]
def wNull : List UInt8 := [110, 117, 108, 108]
def wTrue : List UInt8 := [116, 114, 117, 101]
def wFalse : List UInt8 := [102, 97, 108, 115, 101]

/-- What stands between two kids. -/
def signK (k : Int) : List UInt8 :=
  if k = 8 then wAnd else if k = 9 then wOr else if k = 10 then [61] else if k = 11 then [60, 62] else if k = 12 then [60] else if k = 13 then [60, 61]
  else if k = 14 then [62] else if k = 15 then [62, 61] else if k = 16 then [43] else if k = 17 then [45] else if k = 18 then [42] else []

def isW (x : W) (t : List UInt8) : Bool := (x.1 == 0 || x.1 == 4) && x.2 == t

/-- The first word is t. -/
def hdW : List W → List UInt8 → Bool
  | x :: _, t => isW x t
  | [], _ => false

/-- The kind of two kids that binds b whose sign is x. -/
def nextK (x : W) (b : Nat) : Option Int := ([8, 9, 10, 11, 12, 13, 14, 15, 16, 17, 18] : List Int).find? fun k => bindsK k == b && isW x (signK k)

def txt (l : List UInt8) : ByteArray := ⟨l.toArray⟩
def leaf (k : Int) (t : List UInt8) (n : Int) : Ex := .mk k (txt t) n []
def node (k : Int) (l : List Ex) : Ex := .mk k (txt []) 0 l

mutual
def atomP : Nat → List W → Option (Ex × List W)
  | 0, _ => none
  | _ + 1, [] => none
  | f + 1, x :: r =>
    if x.1 = 2 then some (leaf 1 [] (readD x.2), r)
    else if x.1 = 3 then some (leaf 2 x.2 0, r)
    else if x.1 = 1 ∨ (x.1 = 0 ∧ keptB x.2 = false) then some (leaf 0 x.2 0, r)
    else if isW x wTrue then some (leaf 3 [] 0, r)
    else if isW x wFalse then some (leaf 4 [] 0, r)
    else if isW x wNull then some (leaf 5 [] 0, r)
    else if isW x [40] then
      match anyP f 1 r with
      | some (e, y :: r') => if isW y [41] then some (e, r') else none
      | _ => none
    else none
def anyP : Nat → Nat → List W → Option (Ex × List W)
  | 0, _, _ => none
  | f + 1, L, ts =>
    if L = 7 then atomP f ts
    else if L = 3 ∧ hdW ts wNot = true then
      match anyP f 3 ts.tail with
      | some (k, r) => some (node 6 [k], r)
      | none => none
    else match anyP f (L + 1) ts with
      | some (e, r) => some (loopP f L e r)
      | none => none
def loopP : Nat → Nat → Ex → List W → Ex × List W
  | 0, _, e, r => (e, r)
  | f + 1, L, e, r =>
    match r with
    | [] => (e, r)
    | x :: r' =>
      if L = 4 ∧ isW x wIs = true ∧ hdW r' wNull = true then (node 7 [e], r'.tail)
      else match nextK x L with
        | none => (e, r)
        | some k => match anyP f (L + 1) r' with
          | none => (e, r)
          | some (s, r'') => if L = 4 then (node k [e, s], r'') else loopP f L (node k [e, s]) r''
end

/-! ### the fuel is enough -/
def enough (f L : Nat) (ts : List W) : Prop := 10 * ts.length + 10 ≤ f + L
def enoughL (f L : Nat) (r : List W) : Prop := 10 * (r.length + 1) + 9 ≤ f + L

/-- What is read takes a word at least. -/
theorem reads_len : ∀ f : Nat, (∀ ts e r, atomP f ts = some (e, r) → r.length < ts.length) ∧ (∀ L ts e r, anyP f L ts = some (e, r) → r.length < ts.length) ∧ (∀ L e r, (loopP f L e r).2.length ≤ r.length) := by
  intro f
  induction f with
  | zero =>
    refine ⟨fun ts e r h => ?_, fun L ts e r h => ?_, fun L e r => ?_⟩
    · cases ts <;> simp [atomP] at h
    · simp [anyP] at h
    · simp [loopP]
  | succ f ih =>
    obtain ⟨ihA, ihN, ihL⟩ := ih
    refine ⟨fun ts e r h => ?_, fun L ts e r h => ?_, fun L e r => ?_⟩
    · cases ts with
      | nil => simp [atomP] at h
      | cons x q =>
        rw [atomP] at h
        split at h
        · cases h; simp
        split at h
        · cases h; simp
        split at h
        · cases h; simp
        split at h
        · cases h; simp
        split at h
        · cases h; simp
        split at h
        · cases h; simp
        split at h
        · split at h
          · rename_i e' y r' he
            have := ihN _ _ _ _ he
            split at h
            · cases h; simp at this ⊢; omega
            · cases h
          · cases h
        · cases h
    · rw [anyP] at h
      split at h
      · exact ihA _ _ _ h
      split at h
      · rename_i hn
        split at h
        · rename_i k r' he
          cases h
          have := ihN _ _ _ _ he
          have h2 : ts.tail.length ≤ ts.length := by simp
          omega
        · cases h
      · split at h
        · rename_i e' r' he
          have h1 := ihN _ _ _ _ he
          have h2 := ihL L e' r'
          rw [Option.some.inj h] at h2
          have h3 : r.length ≤ r'.length := h2
          omega
        · cases h
    · cases r with
      | nil => simp [loopP]
      | cons x r' =>
        rw [loopP]
        split
        · simp; omega
        · split
          · simp
          · split
            · simp
            · rename_i s r'' he
              have h1 := ihN _ _ _ _ he
              split
              · simp only [List.length_cons]; omega
              · simp only [List.length_cons]
                exact Nat.le_trans (ihL L _ r'') (by omega)

end Go.Proofs.YthebkfanpnbanaaDoor

namespace Go.Proofs.YthebkfanpnbanaaDoor
open Go.RowKit

def dbl (q : UInt8) (t : List UInt8) : List UInt8 := t.flatMap fun b => if b = q then [q, b] else [b]
def quoteT (s : ByteArray) (q : UInt8) : ByteArray := ⟨(quoteL q s.data.toList).toArray⟩

theorem dbl_eq (q : UInt8) (s : ByteArray) (k : Nat) (h : k < s.size) (he : s[k] = q) : dbl q (s.data.toList.take (k + 1)) = dbl q (s.data.toList.take k) ++ [q] ++ [s[k]] := by
  unfold dbl
  rw [take_snoc s k h, List.flatMap_append]
  simp [he]
theorem dbl_ne (q : UInt8) (s : ByteArray) (k : Nat) (h : k < s.size) (he : s[k] ≠ q) : dbl q (s.data.toList.take (k + 1)) = dbl q (s.data.toList.take k) ++ [s[k]] := by
  unfold dbl
  rw [take_snoc s k h, List.flatMap_append]
  simp [he]
theorem dbl_len (q : UInt8) (t : List UInt8) : (dbl q t).length ≤ 2 * t.length := by
  unfold dbl
  induction t with
  | nil => simp
  | cons b r ih =>
    rw [List.flatMap_cons, List.length_append, List.length_cons]
    split
    · simp only [List.length_cons, List.length_nil]; omega
    · simp only [List.length_cons, List.length_nil]; omega

end Go.Proofs.YthebkfanpnbanaaDoor
