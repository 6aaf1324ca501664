/- The walk of FnColumns. -/
import Derived.Test.YtdggcgipchijjaaColsI
import Derived.Test.YtdggcgipchijjaaColsS
import Derived.Test.YtdggcgipchijjaaDrawCols
import Derived.Test.YtdggcgipchijjaaRising3
import Derived.Test.YtdggcgipchijjaaSame
import Derived.Test.YtdggcgipchijjaaOpenBytes
import Derived.Test.YtdggcgipchijjaaExBoxes
import Derived.Test.YtdggcgipchijjaaLawBase
namespace Go.Proofs.Ytdggcgipchijjaa
open Go.ChangeShapes Go.WideShapes Go.ChangeAt Go.RowKit

theorem ris_risingB (xs : List ByteArray) (h : ris xs) : risingB xs = true := by
  unfold risingB prs
  rw [List.all_eq_true]
  intro x hx
  obtain ⟨j, hj, rfl⟩ := List.mem_map.1 hx
  have hj' := List.mem_range.1 hj
  rw [pairAt_eq xs j (by omega)]
  exact List.pairwise_iff_getElem.1 h j (j + 1) (by omega) (by omega) (by omega)

/-- What lies while the law walks: the drawn expression, and its columns. -/
structure CL (w : World) (X : Nat) (e : Ex) (a' : Option Addr) (c' d : Nat) (a2 : Option Addr) (c2 : Nat) (W : World) : Prop where
  x : Box4 W X e a' c'
  k : KidsAt W d a' c' e.kids
  s : Strs W a2 c2 e.ucols
  bel : Below w.heap.size w W

theorem CL.below {w W W' : World} {X : Nat} {e : Ex} {a' : Option Addr} {c' d : Nat} {a2 : Option Addr} {c2 : Nat} (h : CL w X e a' c' d a2 c2 W) (hb : Below W.heap.size W W') : CL w X e a' c' d a2 c2 W' :=
  ⟨h.x.below hb, h.k.below hb, h.s.below hb, h.bel.trans (hb.mono h.bel.size)⟩

theorem below_drewN0 (w : World) (n : Nat) : Below w.heap.size w (w.drewN n) := below_drewN (Below.refl _ _) n

set_option maxRecDepth 100000 in
set_option maxHeartbeats 4000000 in
theorem walkFnColumns (a : Option Addr) (c : Nat) (l : List UInt8) (w : World) (hb : Bytes w a c l) :
    Calls Try.prog 3 #[.slice a l.length c] w fun x w' => x = .returned (.bool true) ∧ Below w.heap.size w w' := by
  by_cases hbig : 1048576 < l.length
  · have hd : decide (1048576 < l.length) = true := decide_eq_true hbig
    go_enter Try.func3, Try.ntmps3
    go_wp2_with fail
    refine (lawsBig a c l.length w).mono ?_
    rintro e w1 ⟨rfl, rfl⟩
    rw [hd]
    go_wp2_with fail
    go_ret
    exact ⟨rfl, Below.refl _ _⟩
  · have hd : decide (1048576 < l.length) = false := decide_eq_false hbig
    have HBY := Lib.hid hb
    clear hb
    go_enter Try.func3, Try.ntmps3
    go_wp2_with fail
    refine (lawsBig a c l.length w).mono ?_
    rintro e w1 ⟨rfl, rfl⟩
    rw [hd]
    go_wp2_with fail
    refine (specDrawColumns a c l w HBY.out (by omega)).mono ?_
    rintro x w1 ⟨e, a', c', d, rfl, hsm, hk, ha, hbel⟩
    have HB1 := Lib.hid ((Below.refl w1.heap.size w1).alloc (Nat.le_refl _) (.cells #[.int .i64 e.kind, .string e.text, .int .i64 e.num, .slice a' e.kids.length c'] 26))
    have HBX := Lib.hid (box4_new w1 26 e a' c')
    have HK1 := Lib.hid (hk.below HB1.out)
    have HBEL := Lib.hid (hbel.trans (HB1.out.mono hbel.size))
    have hfit := hsm.1
    have hwt : e.wt ≤ 1048576 := by have h1 := hsm.2.1; have h2 := hsm.2.2; omega
    have hl := hk.len
    clear hk hbel hsm ha
    go_wp2_with fail
    obtain ⟨X, hX⟩ : ∃ X, X = w1.heap.size := ⟨_, rfl⟩
    rw [← hX] at HBX ⊢
    generalize w1.alloc (.cells #[.int .i64 e.kind, .string e.text, .int .i64 e.num, .slice a' e.kids.length c'] 26) = W1 at HB1 HBX HK1 HBEL ⊢
    clear HB1 hX
    refine (implCols e a' c' d W1 hfit HK1.out hwt).mono ?_
    rintro x w2 ⟨a2, c2, rfl, hown2, hb2⟩
    have hszs : Hid (∀ s ∈ e.ucols, s.size ≤ maxLen) := fun s hs => by have := ucols_wt e s hs; unfold maxLen; omega
    have HCL2 : Hid (CL w X e a' c' d a2 c2 w2) := ⟨HBX.out.below hb2, HK1.out.below hb2, hown2.strs hszs.out, HBEL.out.trans (hb2.mono HBEL.out.size)⟩
    clear hown2 hb2 HBX HK1 HBEL
    obtain ⟨_, x0, x1, x2, x3⟩ := HCL2.out.x
    go_wp2_with fail
    refine (specCols d e a' c' w2 hfit hwt HCL2.out.k).mono ?_
    rintro x w3 ⟨a3, c3, rfl, hown3, hb3⟩
    have HCL3 := Lib.hid (HCL2.out.below hb3)
    have HS3 := Lib.hid (hown3.strs hszs.out)
    clear hown3 hb3 x0 x1 x2 x3 HCL2
    go_wp2_with fail
    refine (sameStrs a2 a3 c2 c3 e.ucols e.ucols w3 HCL3.out.s HS3.out rfl).mono ?_
    rintro x w4 ⟨rfl, n4, rfl⟩
    have HCL4 := Lib.hid (HCL3.out.below (below_drewN0 w3 n4))
    clear HCL3 HS3
    generalize w3.drewN n4 = w4 at HCL4 ⊢
    go_wp2_with fail
    refine (Quiet.val (specRising a2 c2 e.ucols w4 HCL4.out.s) (congrArg Value.bool (ris_risingB _ (ucols_facts e).1))).mono ?_
    rintro x w5 ⟨rfl, n5, rfl⟩
    have HCL5 := Lib.hid (HCL4.out.below (below_drewN0 w4 n5))
    clear HCL4
    generalize w4.drewN n5 = w5 at HCL5 ⊢
    obtain ⟨i0, hi0, hz0, hz1, hz2⟩ := info_parts Try.infoString
    have hts := hfit.1
    have hue := Lib.hid (Ex.ucols_eq e)
    have HW := Lib.hid (Ex.wt_eq e)
    have HN := Lib.hid (nodes_wt e)
    have HON := Lib.hid (ucolsL_on e)
    obtain ⟨hXl, x0, x1, x2, x3⟩ := HCL5.out.x
    have hb6 : Below w5.heap.size w5 (w5.alloc (.cells #[] 9)) := (Below.refl _ _).alloc (Nat.le_refl _) _
    have HCL6 := Lib.hid (HCL5.out.below hb6)
    have HO6 := Lib.hid (ownEmpty w5)
    by_cases h0 : e.kind = 0
    · have hk0 : (e.kind == 0) = true := by simp [h0]
      have HO := Lib.hid (own1_yes h0)
      clear h0 hb6
      generalize hks : e.kids = xs at *
      go_wp2_with (at_builtin; refine wpAppendStrs rfl (.tmp 29) (.tmp 32) rfl i0 hi0 hz0 hz1 hz2 w5.heap.size (some ⟨w5.heap.size, 0, none⟩) 0 [] (some ⟨w5.heap.size + 1, 0, none⟩) 1 [e.text] rfl (by have := HO6.out.alloc (.cells #[.string e.text] 9); simpa using this) rfl (by have := strsOne (w5.alloc (.cells #[] 9)) e.text hts; simpa using this) (by simp only [List.length_cons, List.length_nil]; omega) (by simp; omega) ?_; intro a7 c7 w7 hown7 hg7)
      have HS : Hid (Own w7 w5.heap.size a7 c7 (ucolsL (own1 e) (xs.take 0)) ∧ CL w X e a' c' d a2 c2 w7 ∧ w5.heap.size ≤ w7.heap.size) := by
        have hbb : Below w5.heap.size w5 w7 := by
          have h1 := ((Below.refl w5.heap.size w5).alloc (Nat.le_refl _) (.cells #[] 9)).alloc (by simp) (.cells #[.string e.text] 9)
          exact h1.grown hg7 h1.size (fun q hq => by cases hq; exact Nat.le_refl _)
        exact ⟨by rw [HO.out]; simpa [ucolsL] using hown7, HCL5.out.below hbb, hbb.size⟩
      have HL1 : Hid (([] ++ [e.text] : List ByteArray).length = (ucolsL (own1 e) (xs.take 0)).length) := by unfold Hid; rw [HO.out]; simp [ucolsL]
      clear hown7 hg7 x0 x1 x2 x3
      go_loopw [5, 6] (fun v i wr => ∃ (k : Nat) (a1 : Option Addr) (c1 : Nat), k ≤ xs.length ∧ i = .int .i64 k ∧ v = .slice a1 (ucolsL (own1 e) (xs.take k)).length c1 ∧ Hid (Own wr w5.heap.size a1 c1 (ucolsL (own1 e) (xs.take k)) ∧ CL w X e a' c' d a2 c2 wr ∧ w5.heap.size ≤ wr.heap.size)) (fun _ i _ => xs.length - (intOf i).toNat)
      case atStart => exact ⟨0, _, _, Nat.zero_le _, rfl, by first | (rw [← HL1.out]; rfl) | (rw [← HL1.out]), HS.out⟩
      case round =>
        obtain ⟨k, a1, c1, hk, rfl, rfl, HR⟩ := hrel
        obtain ⟨hXr, x0, x1, x2, x3⟩ := HR.out.2.1.x
        rw [hks] at x3
        by_cases hlt : k < xs.length
        · obtain ⟨d', rfl⟩ : ∃ q, d = q + 1 := ⟨d - 1, by cases d with | zero => exact HR.out.2.1.k.elim | succ n => omega⟩
          have hkk := HR.out.2.1.k
          rw [hks] at hkk
          obtain ⟨b, off, rfl, hbl, hc0, hc1, hc2, hfitk, ax, cx, hc3, hkid⟩ := hkk.spot hlt
          have HT := Lib.hid (ucolsL_take (own1 e) xs k hlt)
          have HX := Lib.hid hkid
          have HWk : Hid (xs[k].wt ≤ 1048576) := by have h1 := HW.out; have h2 := wt_get hlt; unfold Hid; omega
          have HU := Lib.hid (ucols_wt xs[k])
          have HUL := Lib.hid ((ucols_facts xs[k]).2.2)
          have HUN := Lib.hid (nodes_wt xs[k])
          clear hkid hkk
          go_wp2_with fail
          refine (implCols xs[k] ax cx d' _ hfitk HX.out HWk.out).mono ?_
          rintro x w8 ⟨am, cm, rfl, hom, hb8⟩
          have HR8 : Hid (Own w8 w5.heap.size a1 c1 (ucolsL (own1 e) (xs.take k)) ∧ CL w X e _ c' (d' + 1) a2 c2 w8 ∧ w5.heap.size ≤ w8.heap.size) := ⟨HR.out.1.below hb8, HR.out.2.1.below hb8, Nat.le_trans HR.out.2.2 hb8.size⟩
          have HST := Lib.hid (hom.strs fun s hs => by have h1 := HU.out s hs; have h2 := HWk.out; unfold maxLen; omega)
          have hml : xs[k].ucols.length ≤ 9223372036854775807 := by have h1 := HUL.out; have h2 := HUN.out; have h3 := HWk.out; omega
          clear hb8 hc0 hc1 hc2 hc3 hom x0 x1 x2 x3 HR
          go_wp2_with fail
          go_loopw [5, 8] (fun v i w9 => ∃ (j : Nat) (a9 : Option Addr) (c9 : Nat), j ≤ xs[k].ucols.length ∧ i = .int .i64 j ∧ v = .slice a9 (putAll (ucolsL (own1 e) (xs.take k)) (xs[k].ucols.take j)).length c9 ∧ Hid (Own w9 w5.heap.size a9 c9 (putAll (ucolsL (own1 e) (xs.take k)) (xs[k].ucols.take j)) ∧ Below w8.heap.size w8 w9)) (fun _ i _ => xs[k].ucols.length - (intOf i).toNat)
          case atStart => exact ⟨0, a1, c1, Nat.zero_le _, rfl, rfl, HR8.out.1, Below.refl _ _⟩
          case round =>
            obtain ⟨j, a9, c9, hj, rfl, rfl, H9⟩ := hrel
            by_cases hjl : j < xs[k].ucols.length
            · obtain ⟨bm, om, rfl, hbm, hcm⟩ := (HST.out.below H9.out.2).spot hjl
              have HPT := Lib.hid (putAll_take (ucolsL (own1 e) (xs.take k)) xs[k].ucols j hjl)
              have HPO := Lib.hid (putAll_on (ucolsL (own1 e) (xs.take k)) xs[k].ucols j 1048576 (fun t ht => Nat.le_trans ((HON.out k).1 t ht) hwt) (fun t ht => Nat.le_trans (HU.out t ht) HWk.out))
              have HST3 := Lib.hid (H9.out.1.strs fun s hs => by have h1 := HPO.out.1 s hs; unfold maxLen; omega)
              have hsz : Hid (xs[k].ucols[j].size ≤ maxLen) := by have h1 := HU.out _ (List.getElem_mem hjl); have h2 := HWk.out; unfold Hid maxLen; omega
              have hlen : Hid ((putAll (ucolsL (own1 e) (xs.take k)) (xs[k].ucols.take j)).length ≤ 4194304) := by have h1 := HPO.out.2; have h2 := (HON.out k).2; have h3 := HN.out; have h4 := HUL.out; have h5 := HUN.out; have h6 := HWk.out; unfold Hid; omega
              go_wp2_with fail
              refine (specPut _ _ _ _ _ HST3.out hsz.out hlen.out).mono ?_
              rintro x w10 ⟨a10, c10, rfl, hown10, hb10⟩
              go_wp2_with fail
              go_roundw
              case rel => exact ⟨j + 1, a10, c10, by omega, by go_num, by rw [HPT.out], by rw [HPT.out]; exact hown10.lower (by have h1 := HR8.out.2.2; have h2 := H9.out.2.size; omega), H9.out.2.trans (hb10.mono H9.out.2.size)⟩
              case measure => simp [intOf]; omega
            · obtain rfl : j = xs[k].ucols.length := by omega
              go_wp2_with fail
              go_roundw
              case rel =>
                have h9 := H9.out
                rw [List.take_length] at h9 ⊢
                exact ⟨k + 1, a9, c9, by omega, by go_num, by rw [HT.out], by rw [HT.out]; exact h9.1, HR8.out.2.1.below h9.2, Nat.le_trans HR8.out.2.2 h9.2.size⟩
              case measure => simp [intOf]; omega
        · obtain rfl : k = xs.length := by omega
          have HUE : Hid (ucolsL (own1 e) (xs.take xs.length) = e.ucols) := by unfold Hid; rw [List.take_length, ← hks, hue.out, hks]
          have hln : (ucolsL (own1 e) (xs.take xs.length)).length = e.ucols.length := by rw [HUE.out]
          have HS1 : Hid (Strs wr a1 c1 e.ucols) := by
            have h1 := HR.out.1
            rw [HUE.out] at h1
            exact h1.strs hszs.out
          rw [hln]
          clear hln
          go_wp2_with fail
          refine (sameStrs a2 a1 c2 c1 e.ucols e.ucols wr HR.out.2.1.s HS1.out rfl).mono ?_
          rintro x w11 ⟨rfl, n11, rfl⟩
          go_wp2_with fail
          go_ret
          exact ⟨rfl, below_drewN HR.out.2.1.bel n11⟩
    · have hk0 : (e.kind == 0) = false := by simp [h0]
      have HO := Lib.hid (own1_no h0)
      have HS : Hid (Own (w5.alloc (.cells #[] 9)) w5.heap.size (some ⟨w5.heap.size, 0, none⟩) 0 (ucolsL (own1 e) (e.kids.take 0)) ∧ CL w X e a' c' d a2 c2 (w5.alloc (.cells #[] 9)) ∧ w5.heap.size ≤ (w5.alloc (.cells #[] 9)).heap.size) :=
        ⟨by rw [HO.out]; simpa [ucolsL] using HO6.out, HCL6.out, hb6.size⟩
      clear h0 hb6
      generalize hks : e.kids = xs at *
      have HL1 : Hid ((0 : Nat) = (ucolsL (own1 e) (xs.take 0)).length) := by unfold Hid; rw [HO.out]; simp [ucolsL]
      go_wp2_with fail
      clear x0 x1 x2 x3
      go_loopw [5, 6] (fun v i wr => ∃ (k : Nat) (a1 : Option Addr) (c1 : Nat), k ≤ xs.length ∧ i = .int .i64 k ∧ v = .slice a1 (ucolsL (own1 e) (xs.take k)).length c1 ∧ Hid (Own wr w5.heap.size a1 c1 (ucolsL (own1 e) (xs.take k)) ∧ CL w X e a' c' d a2 c2 wr ∧ w5.heap.size ≤ wr.heap.size)) (fun _ i _ => xs.length - (intOf i).toNat)
      case atStart => exact ⟨0, _, _, Nat.zero_le _, rfl, by first | (rw [← HL1.out]; rfl) | (rw [← HL1.out]), HS.out⟩
      case round =>
        obtain ⟨k, a1, c1, hk, rfl, rfl, HR⟩ := hrel
        obtain ⟨hXr, x0, x1, x2, x3⟩ := HR.out.2.1.x
        rw [hks] at x3
        by_cases hlt : k < xs.length
        · obtain ⟨d', rfl⟩ : ∃ q, d = q + 1 := ⟨d - 1, by cases d with | zero => exact HR.out.2.1.k.elim | succ n => omega⟩
          have hkk := HR.out.2.1.k
          rw [hks] at hkk
          obtain ⟨b, off, rfl, hbl, hc0, hc1, hc2, hfitk, ax, cx, hc3, hkid⟩ := hkk.spot hlt
          have HT := Lib.hid (ucolsL_take (own1 e) xs k hlt)
          have HX := Lib.hid hkid
          have HWk : Hid (xs[k].wt ≤ 1048576) := by have h1 := HW.out; have h2 := wt_get hlt; unfold Hid; omega
          have HU := Lib.hid (ucols_wt xs[k])
          have HUL := Lib.hid ((ucols_facts xs[k]).2.2)
          have HUN := Lib.hid (nodes_wt xs[k])
          clear hkid hkk
          go_wp2_with fail
          refine (implCols xs[k] ax cx d' _ hfitk HX.out HWk.out).mono ?_
          rintro x w8 ⟨am, cm, rfl, hom, hb8⟩
          have HR8 : Hid (Own w8 w5.heap.size a1 c1 (ucolsL (own1 e) (xs.take k)) ∧ CL w X e _ c' (d' + 1) a2 c2 w8 ∧ w5.heap.size ≤ w8.heap.size) := ⟨HR.out.1.below hb8, HR.out.2.1.below hb8, Nat.le_trans HR.out.2.2 hb8.size⟩
          have HST := Lib.hid (hom.strs fun s hs => by have h1 := HU.out s hs; have h2 := HWk.out; unfold maxLen; omega)
          have hml : xs[k].ucols.length ≤ 9223372036854775807 := by have h1 := HUL.out; have h2 := HUN.out; have h3 := HWk.out; omega
          clear hb8 hc0 hc1 hc2 hc3 hom x0 x1 x2 x3 HR
          go_wp2_with fail
          go_loopw [5, 8] (fun v i w9 => ∃ (j : Nat) (a9 : Option Addr) (c9 : Nat), j ≤ xs[k].ucols.length ∧ i = .int .i64 j ∧ v = .slice a9 (putAll (ucolsL (own1 e) (xs.take k)) (xs[k].ucols.take j)).length c9 ∧ Hid (Own w9 w5.heap.size a9 c9 (putAll (ucolsL (own1 e) (xs.take k)) (xs[k].ucols.take j)) ∧ Below w8.heap.size w8 w9)) (fun _ i _ => xs[k].ucols.length - (intOf i).toNat)
          case atStart => exact ⟨0, a1, c1, Nat.zero_le _, rfl, rfl, HR8.out.1, Below.refl _ _⟩
          case round =>
            obtain ⟨j, a9, c9, hj, rfl, rfl, H9⟩ := hrel
            by_cases hjl : j < xs[k].ucols.length
            · obtain ⟨bm, om, rfl, hbm, hcm⟩ := (HST.out.below H9.out.2).spot hjl
              have HPT := Lib.hid (putAll_take (ucolsL (own1 e) (xs.take k)) xs[k].ucols j hjl)
              have HPO := Lib.hid (putAll_on (ucolsL (own1 e) (xs.take k)) xs[k].ucols j 1048576 (fun t ht => Nat.le_trans ((HON.out k).1 t ht) hwt) (fun t ht => Nat.le_trans (HU.out t ht) HWk.out))
              have HST3 := Lib.hid (H9.out.1.strs fun s hs => by have h1 := HPO.out.1 s hs; unfold maxLen; omega)
              have hsz : Hid (xs[k].ucols[j].size ≤ maxLen) := by have h1 := HU.out _ (List.getElem_mem hjl); have h2 := HWk.out; unfold Hid maxLen; omega
              have hlen : Hid ((putAll (ucolsL (own1 e) (xs.take k)) (xs[k].ucols.take j)).length ≤ 4194304) := by have h1 := HPO.out.2; have h2 := (HON.out k).2; have h3 := HN.out; have h4 := HUL.out; have h5 := HUN.out; have h6 := HWk.out; unfold Hid; omega
              go_wp2_with fail
              refine (specPut _ _ _ _ _ HST3.out hsz.out hlen.out).mono ?_
              rintro x w10 ⟨a10, c10, rfl, hown10, hb10⟩
              go_wp2_with fail
              go_roundw
              case rel => exact ⟨j + 1, a10, c10, by omega, by go_num, by rw [HPT.out], by rw [HPT.out]; exact hown10.lower (by have h1 := HR8.out.2.2; have h2 := H9.out.2.size; omega), H9.out.2.trans (hb10.mono H9.out.2.size)⟩
              case measure => simp [intOf]; omega
            · obtain rfl : j = xs[k].ucols.length := by omega
              go_wp2_with fail
              go_roundw
              case rel =>
                have h9 := H9.out
                rw [List.take_length] at h9 ⊢
                exact ⟨k + 1, a9, c9, by omega, by go_num, by rw [HT.out], by rw [HT.out]; exact h9.1, HR8.out.2.1.below h9.2, Nat.le_trans HR8.out.2.2 h9.2.size⟩
              case measure => simp [intOf]; omega
        · obtain rfl : k = xs.length := by omega
          have HUE : Hid (ucolsL (own1 e) (xs.take xs.length) = e.ucols) := by unfold Hid; rw [List.take_length, ← hks, hue.out, hks]
          have hln : (ucolsL (own1 e) (xs.take xs.length)).length = e.ucols.length := by rw [HUE.out]
          have HS1 : Hid (Strs wr a1 c1 e.ucols) := by
            have h1 := HR.out.1
            rw [HUE.out] at h1
            exact h1.strs hszs.out
          rw [hln]
          clear hln
          go_wp2_with fail
          refine (sameStrs a2 a1 c2 c1 e.ucols e.ucols wr HR.out.2.1.s HS1.out rfl).mono ?_
          rintro x w11 ⟨rfl, n11, rfl⟩
          go_wp2_with fail
          go_ret
          exact ⟨rfl, below_drewN HR.out.2.1.bel n11⟩

end Go.Proofs.Ytdggcgipchijjaa
