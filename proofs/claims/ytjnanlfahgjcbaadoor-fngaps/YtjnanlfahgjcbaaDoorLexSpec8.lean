/- The model's one word at a place: the walk. -/
import Derived.Test.YtjnanlfahgjcbaaDoorLexSpec7
namespace Go.Proofs.YtjnanlfahgjcbaaDoor
open Go.RowKit

set_option maxHeartbeats 4000000 in
theorem specOneName (s : ByteArray) (i : Nat) (w : World) (hi : i < s.size) (hs : s.size ≤ 1048576) (hq : s[i].toNat = 34) :
    Calls Tryd.prog 29 #[.string s, .int .i64 (i : Int)] w (OneAns s i w) := by
  have hb : letterB s[i] = false := by simp [letterB, hq]
  have hd : digitB s[i] = false := by simp [digitB, hq]
  have hone := one_name s i hi hq
  have T34 := beqT (b := s[i]) (n := 34) (by omega)
  have HONE := Lib.hid hone
  clear hone hq
  have hby := byte_le s[i]
  have HB := Lib.hid hb
  have HD := Lib.hid hd
  clear hb hd
  go_enter Tryd.func29, Tryd.ntmps29
  go_wp2_with fail
  refine (specLetterIs s[i] _ false HB.out).mono ?_
  rintro e w1 ⟨rfl, rfl⟩
  go_wp2_with fail
  refine (specDigitB s[i] _ false HD.out).mono ?_
  rintro e w1 ⟨rfl, rfl⟩
  go_wp2_with fail
  refine (specQuoted s i _ hi hs).mono ?_
  rintro e w2 ⟨rfl, hb2⟩
  have hcell := tokCells hb2
  have d0 : w2.cell? ⟨w.heap.size, 0, none⟩ = some (.int .i64 0) := by rw [cell_of_row _ _ _ _ _ _ hcell]; rfl
  have d1 : w2.cell? ⟨w.heap.size, 1, none⟩ = some (.string ⟨#[]⟩) := by rw [cell_of_row _ _ _ _ _ _ hcell]; rfl
  have d2 : w2.cell? ⟨w.heap.size, 2, none⟩ = some (.int .i64 0) := by rw [cell_of_row _ _ _ _ _ _ hcell]; rfl
  have f0 : ∀ j, w2.frozen? ⟨w.heap.size, j, none⟩ = false := fun j => frozen_of_row _ _ _ _ _ hcell
  have f00 := f0 0
  have f01 := f0 1
  have f02 := f0 2
  have HB2 := Lib.hid (Below.tok hb2)
  clear hcell hb2 f0
  cases hqd : quoted s[i] (s.data.toList.drop (i + 1)) with
  | none =>
    have HO : Hid (one (s.data.toList.drop i) = none) := by unfold Hid; rw [HONE.out, hqd]; rfl
    clear hqd
    have hn : nameB (qText none).data.toList = false := by decide
    have HNM := Lib.hid hn
    clear hn
    simp only [qLen, qText] at HNM ⊢
    go_wp2_with fail
    refine (specName ⟨#[]⟩ _ (by decide)).mono ?_
    rw [HNM.out]
    rintro e w3 ⟨rfl, rfl⟩
    go_wp2_with fail
    refine bodyPost_ret (v := .tuple #[.agg #[.int .i64 0, .string ⟨#[]⟩, .int .i64 0], .int .i64 0]) (by simp [results, Tryd.results29, go_sem, d0, d1, d2]) rfl ?_
    exact oneAns_none HO.out _ _ _ (setThree HB2.out (Nat.le_refl _) _ _ _)
  | some x =>
    have hxl := quoted_len2 _ _ x (Nat.le_refl _) hqd
    have hsx : (⟨x.1.toArray⟩ : ByteArray).size = x.1.length := by simp [ByteArray.size]
    have hxs : x.1.length ≤ 1048576 := by
      have : (s.data.toList.drop (i + 1)).length ≤ s.size := by simp
      omega
    by_cases hc : nameB x.1 = true
    · have HO : Hid (one (s.data.toList.drop i) = some (1, x.1, 1 + x.2)) := by unfold Hid; rw [HONE.out, hqd, Option.bind_some, if_pos hc]
      have HNM := Lib.hid hc
      have HSX := Lib.hid hsx
      clear hqd hc hsx
      simp only [qLen, qText]
      go_wp2_with fail
      refine (specName ⟨x.1.toArray⟩ _ (by rw [HSX.out]; exact hxs)).mono ?_
      rw [show nameB (⟨x.1.toArray⟩ : ByteArray).data.toList = true from HNM.out]
      rintro e w3 ⟨rfl, rfl⟩
      go_wp2_with fail
      refine bodyPost_ret (v := .tuple #[.agg #[.int .i64 1, .string ⟨x.1.toArray⟩, .int .i64 (i : Int)], .int .i64 ((1 + x.2 : Nat) : Int)]) (by simp [results, Tryd.results29, go_sem, d0, d1, d2]) rfl ?_
      exact oneAns_some (x := (1, x.1, 1 + x.2)) HO.out rfl (setThree HB2.out (Nat.le_refl _) _ _ _)
    · have HO : Hid (one (s.data.toList.drop i) = none) := by unfold Hid; rw [HONE.out, hqd, Option.bind_some, if_neg hc]
      have hc' : nameB x.1 = false := by simpa using hc
      have HNM := Lib.hid hc'
      have HSX := Lib.hid hsx
      clear hqd hc hc' hsx
      simp only [qLen, qText]
      go_wp2_with fail
      refine (specName ⟨x.1.toArray⟩ _ (by rw [HSX.out]; exact hxs)).mono ?_
      rw [show nameB (⟨x.1.toArray⟩ : ByteArray).data.toList = false from HNM.out]
      rintro e w3 ⟨rfl, rfl⟩
      go_wp2_with fail
      refine bodyPost_ret (v := .tuple #[.agg #[.int .i64 0, .string ⟨#[]⟩, .int .i64 0], .int .i64 0]) (by simp [results, Tryd.results29, go_sem, d0, d1, d2]) rfl ?_
      exact oneAns_none HO.out _ _ _ (setThree HB2.out (Nat.le_refl _) _ _ _)

set_option maxHeartbeats 4000000 in
theorem specOneText (s : ByteArray) (i : Nat) (w : World) (hi : i < s.size) (hs : s.size ≤ 1048576) (hq : s[i].toNat = 39) :
    Calls Tryd.prog 29 #[.string s, .int .i64 (i : Int)] w (OneAns s i w) := by
  have hb : letterB s[i] = false := by simp [letterB, hq]
  have hd : digitB s[i] = false := by simp [digitB, hq]
  have hone := one_text s i hi hq
  have T34 := beqF (b := s[i]) (n := 34) (by omega)
  have T39 := beqT (b := s[i]) (n := 39) (by omega)
  have HONE := Lib.hid hone
  clear hone hq
  have hby := byte_le s[i]
  have HB := Lib.hid hb
  have HD := Lib.hid hd
  clear hb hd
  go_enter Tryd.func29, Tryd.ntmps29
  go_wp2_with fail
  refine (specLetterIs s[i] _ false HB.out).mono ?_
  rintro e w1 ⟨rfl, rfl⟩
  go_wp2_with fail
  refine (specDigitB s[i] _ false HD.out).mono ?_
  rintro e w1 ⟨rfl, rfl⟩
  go_wp2_with fail
  refine (specQuoted s i _ hi hs).mono ?_
  rintro e w2 ⟨rfl, hb2⟩
  have hcell := tokCells hb2
  have d0 : w2.cell? ⟨w.heap.size, 0, none⟩ = some (.int .i64 0) := by rw [cell_of_row _ _ _ _ _ _ hcell]; rfl
  have d1 : w2.cell? ⟨w.heap.size, 1, none⟩ = some (.string ⟨#[]⟩) := by rw [cell_of_row _ _ _ _ _ _ hcell]; rfl
  have d2 : w2.cell? ⟨w.heap.size, 2, none⟩ = some (.int .i64 0) := by rw [cell_of_row _ _ _ _ _ _ hcell]; rfl
  have f0 : ∀ j, w2.frozen? ⟨w.heap.size, j, none⟩ = false := fun j => frozen_of_row _ _ _ _ _ hcell
  have f00 := f0 0
  have f01 := f0 1
  have f02 := f0 2
  have HB2 := Lib.hid (Below.tok hb2)
  clear hcell hb2 f0
  cases hqd : quoted s[i] (s.data.toList.drop (i + 1)) with
  | none =>
    have HO : Hid (one (s.data.toList.drop i) = none) := by unfold Hid; rw [HONE.out, hqd]; rfl
    clear hqd
    simp only [qLen, qText]
    go_wp2_with fail
    refine bodyPost_ret (v := .tuple #[.agg #[.int .i64 3, .string ⟨#[]⟩, .int .i64 (i : Int)], .int .i64 0]) (by simp [results, Tryd.results29, go_sem, d0, d1, d2]) rfl ?_
    exact oneAns_none HO.out _ _ _ (setThree HB2.out (Nat.le_refl _) _ _ _)
  | some x =>
    have hxl := quoted_len2 _ _ x (Nat.le_refl _) hqd
    have hsx : (⟨x.1.toArray⟩ : ByteArray).size = x.1.length := by simp [ByteArray.size]
    have hxs : x.1.length ≤ 1048576 := by
      have : (s.data.toList.drop (i + 1)).length ≤ s.size := by simp
      omega
    by_cases hc : x.1.length ≤ 100
    · have HO : Hid (one (s.data.toList.drop i) = some (3, x.1, 1 + x.2)) := by unfold Hid; rw [HONE.out, hqd, Option.bind_some, if_pos hc]
      have hsz : ¬ ((100 : Int) < ((⟨x.1.toArray⟩ : ByteArray).size : Int)) := by rw [hsx]; omega
      clear hqd hc hsx
      simp only [qLen, qText]
      generalize hX : (⟨x.1.toArray⟩ : ByteArray) = X at hsz ⊢
      have HX := Lib.hid hX
      clear hX
      go_wp2_with fail
      refine bodyPost_ret (v := .tuple #[.agg #[.int .i64 3, .string X, .int .i64 (i : Int)], .int .i64 ((1 + x.2 : Nat) : Int)]) (by simp [results, Tryd.results29, go_sem, d0, d1, d2]) rfl ?_
      exact oneAns_some (x := (3, x.1, 1 + x.2)) HO.out HX.out.symm (setThree HB2.out (Nat.le_refl _) _ _ _)
    · have HO : Hid (one (s.data.toList.drop i) = none) := by unfold Hid; rw [HONE.out, hqd, Option.bind_some, if_neg hc]
      have hsz : (100 : Int) < ((⟨x.1.toArray⟩ : ByteArray).size : Int) := by rw [hsx]; omega
      clear hqd hc hsx
      simp only [qLen, qText]
      generalize hX : (⟨x.1.toArray⟩ : ByteArray) = X at hsz ⊢
      have HX := Lib.hid hX
      clear hX
      go_wp2_with fail
      refine bodyPost_ret (v := .tuple #[.agg #[.int .i64 0, .string ⟨#[]⟩, .int .i64 0], .int .i64 0]) (by simp [results, Tryd.results29, go_sem, d0, d1, d2]) rfl ?_
      exact oneAns_none HO.out _ _ _ (setThree HB2.out (Nat.le_refl _) _ _ _)

set_option maxHeartbeats 4000000 in
theorem specOneSign (s : ByteArray) (i : Nat) (w : World) (hi : i < s.size) (hs : s.size ≤ 1048576) (hb : letterB s[i] = false) (hd : digitB s[i] = false) (h34 : s[i].toNat ≠ 34) (h39 : s[i].toNat ≠ 39) :
    Calls Tryd.prog 29 #[.string s, .int .i64 (i : Int)] w (OneAns s i w) := by
  have hone := one_sign_at s i hi hb hd h34 h39
  have T34 := beqF (b := s[i]) (n := 34) (by omega)
  have T39 := beqF (b := s[i]) (n := 39) (by omega)
  have HONE := Lib.hid hone
  have hsn : signN (s.data.toList.drop i) ≤ (s.data.toList.drop i).length := signN_len _
  have hsn' : i + signN (s.data.toList.drop i) ≤ s.size := by
    rw [List.length_drop] at hsn
    have : s.data.toList.length = s.size := by simp
    omega
  clear hone h34 h39 hsn
  have hby := byte_le s[i]
  have HB := Lib.hid hb
  have HD := Lib.hid hd
  clear hb hd
  go_enter Tryd.func29, Tryd.ntmps29
  go_wp2_with fail
  refine (specLetterIs s[i] _ false HB.out).mono ?_
  rintro e w1 ⟨rfl, rfl⟩
  go_wp2_with fail
  refine (specDigitB s[i] _ false HD.out).mono ?_
  rintro e w1 ⟨rfl, rfl⟩
  go_wp2_with fail
  refine (specSign s i _ hi hs).mono ?_
  generalize hsg : signN (s.data.toList.drop i) = n at hsn' HONE
  have HSG := Lib.hid hsg
  clear hsg
  rintro e w2 ⟨rfl, rfl⟩
  go_wp2_with fail
  refine bodyPost_ret (v := .tuple #[.agg #[.int .i64 4, .string (s.extract i (i + n)), .int .i64 (i : Int)], .int .i64 (n : Int)]) (by simp [results, Tryd.results29, go_sem]) rfl ?_
  by_cases h0 : n = 0
  · subst h0
    exact oneAns_none (HONE.out.trans (if_pos rfl)) _ _ _ ((Below.refl _ _).alloc (Nat.le_refl _) _)
  · exact oneAns_some (x := (4, _, n)) (HONE.out.trans (if_neg h0)) (extract_arr s i n) ((Below.refl _ _).alloc (Nat.le_refl _) _)

theorem specOne (s : ByteArray) (i : Nat) (w : World) (hi : i < s.size) (hs : s.size ≤ 1048576) :
    Calls Tryd.prog 29 #[.string s, .int .i64 (i : Int)] w (OneAns s i w) := by
  cases h1 : letterB s[i] with
  | true => exact specOneWord s i w hi hs h1
  | false =>
    cases h2 : digitB s[i] with
    | true => exact specOneNum s i w hi hs h1 h2
    | false =>
      by_cases h3 : s[i].toNat = 34
      · exact specOneName s i w hi hs h3
      · by_cases h4 : s[i].toNat = 39
        · exact specOneText s i w hi hs h4
        · exact specOneSign s i w hi hs h1 h2 h3 h4

end Go.Proofs.YtjnanlfahgjcbaaDoor
