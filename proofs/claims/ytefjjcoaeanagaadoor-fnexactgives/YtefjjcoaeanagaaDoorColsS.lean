/- spec.Columns answers the rising list of the columns. -/
import Derived.Test.YtefjjcoaeanagaaDoorMLess
import Derived.Test.YtefjjcoaeanagaaDoorMEx
import Derived.Test.YtefjjcoaeanagaaDoorMAppend
namespace Go.Proofs.YtefjjcoaeanagaaDoor
open Go.RowKit

theorem own1_yes {e : Ex} (h : e.kind = 0) : own1 e = [e.text] := by unfold own1; rw [if_pos h]
theorem own1_no {e : Ex} (h : e.kind ≠ 0) : own1 e = [] := by unfold own1; rw [if_neg h]

theorem wt_get {l : List Ex} {k : Nat} (h : k < l.length) : l[k].wt ≤ wtL l := by
  have h1 := wtL_take l k h
  have h2 := wtL_mono l (k + 1)
  omega

def ColsP (d : Nat) : Prop := ∀ (e : Ex) (a : Option Addr) (c : Nat) (w : World), e.fit → e.wt ≤ 1048576 → KidsAt w d a c e.kids →
  Calls Tryd.prog 34 #[.agg #[.int .i64 e.kind, .string e.text, .int .i64 e.num, .slice a e.kids.length c]] w (NewStrs w e.ucols)

set_option maxRecDepth 100000 in
set_option maxHeartbeats 2000000 in
theorem specCols : ∀ d, ColsP d
  | 0 => fun _ _ _ _ _ _ h => h.elim
  | d + 1 => by
    intro e a c w hfit hwt hk
    have ih := specCols d
    have hue := Lib.hid (Ex.ucols_eq e)
    have hl := hk.len
    have hts := hfit.1
    obtain ⟨i0, hi0, hz0, hz1, hz2⟩ := info_parts Tryd.infoString
    have HK := Lib.hid (fun w' hb => hk.below (w' := w') hb)
    have HW := Lib.hid (Ex.wt_eq e)
    have HN := Lib.hid (nodes_wt e)
    have HON := Lib.hid (ucolsL_on e)
    clear hk
    by_cases h0 : e.kind = 0
    · have hk0 : (e.kind == 0) = true := by simp [h0]
      have HO := Lib.hid (own1_yes h0)
      clear h0
      generalize hks : e.kids = xs at *
      go_enter Tryd.func34, Tryd.ntmps34
      have hb0 : Below w.heap.size w ((w.alloc (.cells #[.int .i64 e.kind, .string e.text, .int .i64 e.num, .slice a xs.length c] 26)).alloc (.cells #[] 9)) := ((Below.refl _ _).alloc (Nat.le_refl _) _).alloc (by simp) _
      have hc30 : ((w.alloc (.cells #[.int .i64 e.kind, .string e.text, .int .i64 e.num, .slice a xs.length c] 26)).alloc (.cells #[] 9)).cell? ⟨w.heap.size, 3, none⟩ = some (.slice a xs.length c) := by simp [go_sem]
      have hown0 := (ownEmpty (w.alloc (.cells #[.int .i64 e.kind, .string e.text, .int .i64 e.num, .slice a xs.length c] 26))).lower (B' := w.heap.size) (by simp)
      have HX := Lib.hid (And.intro hb0 (And.intro hc30 hown0))
      clear hb0 hc30 hown0
      go_wp2_with (at_builtin; refine wpAppendStrs rfl (.tmp 11) (.tmp 14) rfl i0 hi0 hz0 hz1 hz2 w.heap.size (some ⟨w.heap.size + 1, 0, none⟩) 0 [] (some ⟨w.heap.size + 1 + 1, 0, none⟩) 1 [e.text] rfl (by have := HX.out.2.2.alloc (.cells #[.string e.text] 9); simpa using this) rfl (by have := strsOne ((w.alloc (.cells #[.int .i64 e.kind, .string e.text, .int .i64 e.num, .slice a xs.length c] 26)).alloc (.cells #[] 9)) e.text hts; simpa using this) (by simp only [List.length_cons, List.length_nil]; omega) (by simp; omega) ?_; intro a2 c2 w2 hown2 hg2)
      have HS : Hid (Own w2 w.heap.size a2 c2 (ucolsL (own1 e) (xs.take 0)) ∧ w2.cell? ⟨w.heap.size, 3, none⟩ = some (.slice a xs.length c) ∧ w.heap.size < w2.heap.size ∧ Below w.heap.size w w2) := by
        have hb1 := HX.out.1.alloc HX.out.1.size (.cells #[.string e.text] 9)
        have hnb : ∀ q, (Value.slice (some ⟨w.heap.size + 1, 0, none⟩) ([] : List ByteArray).length 0).ownBlock = some q → q = w.heap.size + 1 := fun q hq => (Option.some.inj hq).symm
        refine ⟨by rw [HO.out]; simpa [ucolsL] using hown2, ?_, ?_, hb1.grown hg2 hb1.size (fun q hq => by have := hnb q hq; omega)⟩
        · refine (hg2.cell_far ⟨w.heap.size, 3, none⟩ (by simp; omega) (fun e => by have := hnb _ e.symm; simp at this)).trans ?_
          simp [go_sem]
        · have := hg2.size; simp at this; omega
      have HL1 : Hid (([] ++ [e.text] : List ByteArray).length = (ucolsL (own1 e) (xs.take 0)).length) := by unfold Hid; rw [HO.out]; simp [ucolsL]
      clear hown2 hg2 HX
      go_loopw [3, 4] (fun v i wr => ∃ (k : Nat) (a1 : Option Addr) (c1 : Nat), k ≤ xs.length ∧ i = .int .i64 k ∧ v = .slice a1 (ucolsL (own1 e) (xs.take k)).length c1 ∧ Own wr w.heap.size a1 c1 (ucolsL (own1 e) (xs.take k)) ∧ wr.cell? ⟨w.heap.size, 3, none⟩ = some (.slice a xs.length c) ∧ w.heap.size < wr.heap.size ∧ Below w.heap.size w wr) (fun _ i _ => xs.length - (intOf i).toNat)
      case atStart => exact ⟨0, _, _, Nat.zero_le _, rfl, by first | (rw [← HL1.out]; rfl) | (rw [← HL1.out]), HS.out⟩
      case round =>
        obtain ⟨k, a1, c1, hk, rfl, rfl, hown, h3, hlw, hb⟩ := hrel
        by_cases hlt : k < xs.length
        · obtain ⟨b, off, rfl, hbl, hc0, hc1, hc2, hfitk, a', c', hc3, hkid⟩ := (HK.out _ hb).spot hlt
          have HT := Lib.hid (ucolsL_take (own1 e) xs k hlt)
          have HX := Lib.hid hkid
          have HWk : Hid (xs[k].wt ≤ 1048576) := by have h1 := HW.out; have h2 := wt_get hlt; unfold Hid; omega
          have HU := Lib.hid (ucols_wt xs[k])
          have HUL := Lib.hid ((ucols_facts xs[k]).2.2)
          have HUN := Lib.hid (nodes_wt xs[k])
          clear hkid
          have HOWN := Lib.hid hown
          clear hown
          go_wp2_with fail
          refine (ih xs[k] a' c' _ hfitk HWk.out HX.out).mono ?_
          rintro x w2 ⟨am, cm, rfl, hom, hb2⟩
          have HO2 := Lib.hid (HOWN.out.below hb2)
          have h3' := (hb2.cell (p := ⟨w.heap.size, 3, none⟩) hlw).trans h3
          have HB2 := Lib.hid (hb.trans (hb2.mono hb.size))
          have hlw' := Nat.lt_of_lt_of_le hlw hb2.size
          have HST := Lib.hid (hom.strs fun s hs => by have h1 := HU.out s hs; have h2 := HWk.out; unfold maxLen; omega)
          have hml : xs[k].ucols.length ≤ 9223372036854775807 := by have h1 := HUL.out; have h2 := HUN.out; have h3 := HWk.out; omega
          clear h3 hb hb2 hc0 hc1 hc2 hc3 hlw hom
          go_wp2_with fail
          go_loopw [3, 6] (fun v i w3 => ∃ (j : Nat) (a3 : Option Addr) (c3 : Nat), j ≤ xs[k].ucols.length ∧ i = .int .i64 j ∧ v = .slice a3 (putAll (ucolsL (own1 e) (xs.take k)) (xs[k].ucols.take j)).length c3 ∧ Own w3 w.heap.size a3 c3 (putAll (ucolsL (own1 e) (xs.take k)) (xs[k].ucols.take j)) ∧ Below w2.heap.size w2 w3) (fun _ i _ => xs[k].ucols.length - (intOf i).toNat)
          case atStart => exact ⟨0, a1, c1, Nat.zero_le _, rfl, rfl, HO2.out, Below.refl _ _⟩
          case round =>
            obtain ⟨j, a3, c3, hj, rfl, rfl, hown3, hb3⟩ := hrel
            by_cases hjl : j < xs[k].ucols.length
            · obtain ⟨bm, om, rfl, hbm, hcm⟩ := (HST.out.below hb3).spot hjl
              have HPT := Lib.hid (putAll_take (ucolsL (own1 e) (xs.take k)) xs[k].ucols j hjl)
              have HPO := Lib.hid (putAll_on (ucolsL (own1 e) (xs.take k)) xs[k].ucols j 1048576 (fun t ht => Nat.le_trans ((HON.out k).1 t ht) hwt) (fun t ht => Nat.le_trans (HU.out t ht) HWk.out))
              have HST3 := Lib.hid (hown3.strs fun s hs => by have h1 := HPO.out.1 s hs; unfold maxLen; omega)
              have hsz : Hid (xs[k].ucols[j].size ≤ maxLen) := by have h1 := HU.out _ (List.getElem_mem hjl); have h2 := HWk.out; unfold Hid maxLen; omega
              have hlen : Hid ((putAll (ucolsL (own1 e) (xs.take k)) (xs[k].ucols.take j)).length ≤ 4194304) := by have h1 := HPO.out.2; have h2 := (HON.out k).2; have h3 := HN.out; have h4 := HUL.out; have h5 := HUN.out; have h6 := HWk.out; unfold Hid; omega
              have HB3 := Lib.hid hb3
              clear hown3 hb3
              go_wp2_with fail
              refine (specPut _ _ _ _ _ HST3.out hsz.out hlen.out).mono ?_
              rintro x w4 ⟨a4, c4, rfl, hown4, hb4⟩
              go_wp2_with fail
              go_roundw
              case rel => exact ⟨j + 1, a4, c4, by omega, by go_num, by rw [HPT.out], by rw [HPT.out]; exact hown4.lower (by have h1 := HB2.out.size; have h2 := HB3.out.size; omega), HB3.out.trans (hb4.mono HB3.out.size)⟩
              case measure => simp [intOf]; omega
            · obtain rfl : j = xs[k].ucols.length := by omega
              rw [List.take_length] at hown3 ⊢
              have HO3 := Lib.hid hown3
              have HB3 := Lib.hid hb3
              clear hown3 hb3
              go_wp2_with fail
              go_roundw
              case rel => exact ⟨k + 1, a3, c3, by omega, by go_num, by rw [HT.out], by rw [HT.out]; exact HO3.out, (HB3.out.cell (p := ⟨w.heap.size, 3, none⟩) hlw').trans h3', Nat.lt_of_lt_of_le hlw' HB3.out.size, HB2.out.trans (HB3.out.mono HB2.out.size)⟩
              case measure => simp [intOf]; omega
        · obtain rfl : k = xs.length := by omega
          have HUE : Hid (e.ucols = ucolsL (own1 e) (xs.take xs.length)) := by unfold Hid; rw [List.take_length]; exact hue.out
          have HOWN := Lib.hid hown
          clear hown
          go_wp2_with fail
          go_ret
          exact ⟨a1, c1, by rw [HUE.out]; rfl, by rw [HUE.out]; exact HOWN.out, hb⟩
    · have hk0 : (e.kind == 0) = false := by simp [h0]
      have HO := Lib.hid (own1_no h0)
      clear h0
      generalize hks : e.kids = xs at *
      go_enter Tryd.func34, Tryd.ntmps34
      have HS : Hid (Own ((w.alloc (.cells #[.int .i64 e.kind, .string e.text, .int .i64 e.num, .slice a xs.length c] 26)).alloc (.cells #[] 9)) w.heap.size (some ⟨w.heap.size + 1, 0, none⟩) 0 (ucolsL (own1 e) (xs.take 0)) ∧ ((w.alloc (.cells #[.int .i64 e.kind, .string e.text, .int .i64 e.num, .slice a xs.length c] 26)).alloc (.cells #[] 9)).cell? ⟨w.heap.size, 3, none⟩ = some (.slice a xs.length c) ∧ w.heap.size < ((w.alloc (.cells #[.int .i64 e.kind, .string e.text, .int .i64 e.num, .slice a xs.length c] 26)).alloc (.cells #[] 9)).heap.size ∧ Below w.heap.size w ((w.alloc (.cells #[.int .i64 e.kind, .string e.text, .int .i64 e.num, .slice a xs.length c] 26)).alloc (.cells #[] 9))) := by
        have hown0 := (ownEmpty (w.alloc (.cells #[.int .i64 e.kind, .string e.text, .int .i64 e.num, .slice a xs.length c] 26))).lower (B' := w.heap.size) (by simp)
        refine ⟨by rw [HO.out]; simpa [ucolsL] using hown0, by simp [go_sem], by simp; omega, ((Below.refl _ _).alloc (Nat.le_refl _) _).alloc (by simp) _⟩
      have HL1 : Hid ((0 : Nat) = (ucolsL (own1 e) (xs.take 0)).length) := by unfold Hid; rw [HO.out]; simp [ucolsL]
      go_wp2_with fail
      go_loopw [3, 4] (fun v i wr => ∃ (k : Nat) (a1 : Option Addr) (c1 : Nat), k ≤ xs.length ∧ i = .int .i64 k ∧ v = .slice a1 (ucolsL (own1 e) (xs.take k)).length c1 ∧ Own wr w.heap.size a1 c1 (ucolsL (own1 e) (xs.take k)) ∧ wr.cell? ⟨w.heap.size, 3, none⟩ = some (.slice a xs.length c) ∧ w.heap.size < wr.heap.size ∧ Below w.heap.size w wr) (fun _ i _ => xs.length - (intOf i).toNat)
      case atStart => exact ⟨0, _, _, Nat.zero_le _, rfl, by first | (rw [← HL1.out]; rfl) | (rw [← HL1.out]), HS.out⟩
      case round =>
        obtain ⟨k, a1, c1, hk, rfl, rfl, hown, h3, hlw, hb⟩ := hrel
        by_cases hlt : k < xs.length
        · obtain ⟨b, off, rfl, hbl, hc0, hc1, hc2, hfitk, a', c', hc3, hkid⟩ := (HK.out _ hb).spot hlt
          have HT := Lib.hid (ucolsL_take (own1 e) xs k hlt)
          have HX := Lib.hid hkid
          have HWk : Hid (xs[k].wt ≤ 1048576) := by have h1 := HW.out; have h2 := wt_get hlt; unfold Hid; omega
          have HU := Lib.hid (ucols_wt xs[k])
          have HUL := Lib.hid ((ucols_facts xs[k]).2.2)
          have HUN := Lib.hid (nodes_wt xs[k])
          clear hkid
          have HOWN := Lib.hid hown
          clear hown
          go_wp2_with fail
          refine (ih xs[k] a' c' _ hfitk HWk.out HX.out).mono ?_
          rintro x w2 ⟨am, cm, rfl, hom, hb2⟩
          have HO2 := Lib.hid (HOWN.out.below hb2)
          have h3' := (hb2.cell (p := ⟨w.heap.size, 3, none⟩) hlw).trans h3
          have HB2 := Lib.hid (hb.trans (hb2.mono hb.size))
          have hlw' := Nat.lt_of_lt_of_le hlw hb2.size
          have HST := Lib.hid (hom.strs fun s hs => by have h1 := HU.out s hs; have h2 := HWk.out; unfold maxLen; omega)
          have hml : xs[k].ucols.length ≤ 9223372036854775807 := by have h1 := HUL.out; have h2 := HUN.out; have h3 := HWk.out; omega
          clear h3 hb hb2 hc0 hc1 hc2 hc3 hlw hom
          go_wp2_with fail
          go_loopw [3, 6] (fun v i w3 => ∃ (j : Nat) (a3 : Option Addr) (c3 : Nat), j ≤ xs[k].ucols.length ∧ i = .int .i64 j ∧ v = .slice a3 (putAll (ucolsL (own1 e) (xs.take k)) (xs[k].ucols.take j)).length c3 ∧ Own w3 w.heap.size a3 c3 (putAll (ucolsL (own1 e) (xs.take k)) (xs[k].ucols.take j)) ∧ Below w2.heap.size w2 w3) (fun _ i _ => xs[k].ucols.length - (intOf i).toNat)
          case atStart => exact ⟨0, a1, c1, Nat.zero_le _, rfl, rfl, HO2.out, Below.refl _ _⟩
          case round =>
            obtain ⟨j, a3, c3, hj, rfl, rfl, hown3, hb3⟩ := hrel
            by_cases hjl : j < xs[k].ucols.length
            · obtain ⟨bm, om, rfl, hbm, hcm⟩ := (HST.out.below hb3).spot hjl
              have HPT := Lib.hid (putAll_take (ucolsL (own1 e) (xs.take k)) xs[k].ucols j hjl)
              have HPO := Lib.hid (putAll_on (ucolsL (own1 e) (xs.take k)) xs[k].ucols j 1048576 (fun t ht => Nat.le_trans ((HON.out k).1 t ht) hwt) (fun t ht => Nat.le_trans (HU.out t ht) HWk.out))
              have HST3 := Lib.hid (hown3.strs fun s hs => by have h1 := HPO.out.1 s hs; unfold maxLen; omega)
              have hsz : Hid (xs[k].ucols[j].size ≤ maxLen) := by have h1 := HU.out _ (List.getElem_mem hjl); have h2 := HWk.out; unfold Hid maxLen; omega
              have hlen : Hid ((putAll (ucolsL (own1 e) (xs.take k)) (xs[k].ucols.take j)).length ≤ 4194304) := by have h1 := HPO.out.2; have h2 := (HON.out k).2; have h3 := HN.out; have h4 := HUL.out; have h5 := HUN.out; have h6 := HWk.out; unfold Hid; omega
              have HB3 := Lib.hid hb3
              clear hown3 hb3
              go_wp2_with fail
              refine (specPut _ _ _ _ _ HST3.out hsz.out hlen.out).mono ?_
              rintro x w4 ⟨a4, c4, rfl, hown4, hb4⟩
              go_wp2_with fail
              go_roundw
              case rel => exact ⟨j + 1, a4, c4, by omega, by go_num, by rw [HPT.out], by rw [HPT.out]; exact hown4.lower (by have h1 := HB2.out.size; have h2 := HB3.out.size; omega), HB3.out.trans (hb4.mono HB3.out.size)⟩
              case measure => simp [intOf]; omega
            · obtain rfl : j = xs[k].ucols.length := by omega
              rw [List.take_length] at hown3 ⊢
              have HO3 := Lib.hid hown3
              have HB3 := Lib.hid hb3
              clear hown3 hb3
              go_wp2_with fail
              go_roundw
              case rel => exact ⟨k + 1, a3, c3, by omega, by go_num, by rw [HT.out], by rw [HT.out]; exact HO3.out, (HB3.out.cell (p := ⟨w.heap.size, 3, none⟩) hlw').trans h3', Nat.lt_of_lt_of_le hlw' HB3.out.size, HB2.out.trans (HB3.out.mono HB2.out.size)⟩
              case measure => simp [intOf]; omega
        · obtain rfl : k = xs.length := by omega
          have HUE : Hid (e.ucols = ucolsL (own1 e) (xs.take xs.length)) := by unfold Hid; rw [List.take_length]; exact hue.out
          have HOWN := Lib.hid hown
          clear hown
          go_wp2_with fail
          go_ret
          exact ⟨a1, c1, by rw [HUE.out]; rfl, by rw [HUE.out]; exact HOWN.out, hb⟩

end Go.Proofs.YtefjjcoaeanagaaDoor
