/- The model's one word at a place: the walk. -/
import Derived.Test.YtjnanlfahgjcbaaDoorLexSpec6
namespace Go.Proofs.YtjnanlfahgjcbaaDoor
open Go.RowKit

theorem setThree {w0 w : World} {B g : Nat} (h : Below B w0 w) (hg : B ≤ g) (u v x : Value) : Below B w0 (((w.setCell ⟨g, 0, none⟩ u).setCell ⟨g, 1, none⟩ v).setCell ⟨g, 2, none⟩ x) :=
  ((h.setCell (p := ⟨g, 0, none⟩) hg u).setCell (p := ⟨g, 1, none⟩) hg v).setCell (p := ⟨g, 2, none⟩) hg x

set_option maxHeartbeats 4000000 in
theorem specOneWord (s : ByteArray) (i : Nat) (w : World) (hi : i < s.size) (hs : s.size ≤ 1048576) (hb : letterB s[i] = true) :
    Calls Tryd.prog 29 #[.string s, .int .i64 (i : Int)] w (OneAns s i w) := by
  have hby := byte_le s[i]
  have HB := Lib.hid hb
  clear hb
  go_enter Tryd.func29, Tryd.ntmps29
  go_wp2_with fail
  refine (specLetterIs s[i] _ true HB.out).mono ?_
  rintro e w1 ⟨rfl, rfl⟩
  go_wp2_with fail
  go_loop [7] (fun v => ∃ m : Nat, v = .int .i64 m ∧ i + m ≤ s.size ∧ Hid (runN (s.data.toList.drop i) = m + runN (s.data.toList.drop (i + m)))) (fun v => s.size - (intOf v).toNat)
  case atStart => exact ⟨0, rfl, by omega, by unfold Hid; simp⟩
  case round =>
    obtain ⟨m, rfl, hm, hg⟩ := hrel
    have fin : ∀ (hn : runN (s.data.toList.drop (i + m)) = 0), Hid (runN (s.data.toList.drop i) = m) := fun hn => by unfold Hid; rw [hg.out, hn]; rfl
    by_cases hlt : i + m < s.size
    · have hbym := byte_le s[i + m]
      cases hmo : moreB s[i + m] with
      | true =>
        have HI := Lib.hid (run_in_at s (i + m) hlt hmo)
        have HM := Lib.hid hmo
        clear hmo fin
        go_wp2_with fail
        refine (specMore s[i + m] _ true HM.out).mono ?_
        rintro e w1 ⟨rfl, rfl⟩
        go_wp2_with fail
        exact ⟨⟨m + 1, by go_num, by omega, step_gap hg.out HI.out⟩, by simp [intOf]; omega⟩
      | false =>
        have HN := fin (run_out_at s (i + m) hlt hmo)
        have HM := Lib.hid hmo
        clear hmo fin
        go_wp2_with fail
        refine (specMore s[i + m] _ false HM.out).mono ?_
        rintro e w1 ⟨rfl, rfl⟩
        go_wp2_with fail
        refine (specLower (s.extract i (i + m)) _ (by simp; omega)).mono ?_
        rintro e w2 ⟨rfl, hb2⟩
        have hcell := tokCells hb2
        have d0 : w2.cell? ⟨w.heap.size, 0, none⟩ = some (.int .i64 0) := by rw [cell_of_row _ _ _ _ _ _ hcell]; rfl
        have d1 : w2.cell? ⟨w.heap.size, 1, none⟩ = some (.string ⟨#[]⟩) := by rw [cell_of_row _ _ _ _ _ _ hcell]; rfl
        have d2 : w2.cell? ⟨w.heap.size, 2, none⟩ = some (.int .i64 0) := by rw [cell_of_row _ _ _ _ _ _ hcell]; rfl
        have f0 : ∀ j, w2.frozen? ⟨w.heap.size, j, none⟩ = false := fun j => frozen_of_row _ _ _ _ _ hcell
        have f00 := f0 0
        have f01 := f0 1
        have f02 := f0 2
        have HB2 := Lib.hid (Below.tok hb2)
        clear hcell hb2 f0
        go_wp2_with fail
        refine bodyPost_ret (v := .tuple #[.agg #[.int .i64 0, .string ⟨((s.extract i (i + m)).data.toList.map lowB).toArray⟩, .int .i64 (i : Int)], .int .i64 (m : Int)]) (by simp [results, Tryd.results29, go_sem, d0, d1, d2]) rfl ?_
        exact oneAns_some (x := (0, _, m)) (one_word s i hi HB.out HN.out) (by rw [run_extract s i m HN.out]) (setThree HB2.out (Nat.le_refl _) _ _ _)
    · have hme : i + m = s.size := by omega
      have HN := fin (by rw [hme]; exact run_end_at s)
      clear hme fin
      go_wp2_with fail
      refine (specLower (s.extract i (i + m)) _ (by simp; omega)).mono ?_
      rintro e w2 ⟨rfl, hb2⟩
      have hcell := tokCells hb2
      have d0 : w2.cell? ⟨w.heap.size, 0, none⟩ = some (.int .i64 0) := by rw [cell_of_row _ _ _ _ _ _ hcell]; rfl
      have d1 : w2.cell? ⟨w.heap.size, 1, none⟩ = some (.string ⟨#[]⟩) := by rw [cell_of_row _ _ _ _ _ _ hcell]; rfl
      have d2 : w2.cell? ⟨w.heap.size, 2, none⟩ = some (.int .i64 0) := by rw [cell_of_row _ _ _ _ _ _ hcell]; rfl
      have f0 : ∀ j, w2.frozen? ⟨w.heap.size, j, none⟩ = false := fun j => frozen_of_row _ _ _ _ _ hcell
      have f00 := f0 0
      have f01 := f0 1
      have f02 := f0 2
      have HB2 := Lib.hid (Below.tok hb2)
      clear hcell hb2 f0
      go_wp2_with fail
      refine bodyPost_ret (v := .tuple #[.agg #[.int .i64 0, .string ⟨((s.extract i (i + m)).data.toList.map lowB).toArray⟩, .int .i64 (i : Int)], .int .i64 (m : Int)]) (by simp [results, Tryd.results29, go_sem, d0, d1, d2]) rfl ?_
      exact oneAns_some (x := (0, _, m)) (one_word s i hi HB.out HN.out) (by rw [run_extract s i m HN.out]) (setThree HB2.out (Nat.le_refl _) _ _ _)

set_option maxHeartbeats 4000000 in
theorem specOneNum (s : ByteArray) (i : Nat) (w : World) (hi : i < s.size) (hs : s.size ≤ 1048576) (hb : letterB s[i] = false) (hd : digitB s[i] = true) :
    Calls Tryd.prog 29 #[.string s, .int .i64 (i : Int)] w (OneAns s i w) := by
  have hby := byte_le s[i]
  have HB := Lib.hid hb
  have HD := Lib.hid hd
  clear hb hd
  go_enter Tryd.func29, Tryd.ntmps29
  go_wp2_with fail
  refine (specLetterIs s[i] _ false HB.out).mono ?_
  rintro e w1 ⟨rfl, rfl⟩
  go_wp2_with fail
  refine (specDigitB s[i] _ true HD.out).mono ?_
  rintro e w1 ⟨rfl, rfl⟩
  go_wp2_with fail
  go_loop [7] (fun v => ∃ m : Nat, v = .int .i64 m ∧ i + m ≤ s.size ∧ Hid (runN (s.data.toList.drop i) = m + runN (s.data.toList.drop (i + m)))) (fun v => s.size - (intOf v).toNat)
  case atStart => exact ⟨0, rfl, by omega, by unfold Hid; simp⟩
  case round =>
    obtain ⟨m, rfl, hm, hg⟩ := hrel
    have fin : ∀ (hn : runN (s.data.toList.drop (i + m)) = 0), Hid (runN (s.data.toList.drop i) = m) := fun hn => by unfold Hid; rw [hg.out, hn]; rfl
    by_cases hlt : i + m < s.size
    · have hbym := byte_le s[i + m]
      cases hmo : moreB s[i + m] with
      | true =>
        have HI := Lib.hid (run_in_at s (i + m) hlt hmo)
        have HM := Lib.hid hmo
        clear hmo fin
        go_wp2_with fail
        refine (specMore s[i + m] _ true HM.out).mono ?_
        rintro e w1 ⟨rfl, rfl⟩
        go_wp2_with fail
        exact ⟨⟨m + 1, by go_num, by omega, step_gap hg.out HI.out⟩, by simp [intOf]; omega⟩
      | false =>
        have HN := fin (run_out_at s (i + m) hlt hmo)
        have HM := Lib.hid hmo
        clear hmo fin
        go_wp2_with fail
        refine (specMore s[i + m] _ false HM.out).mono ?_
        rintro e w1 ⟨rfl, rfl⟩
        go_wp2_with fail
        have hrx := run_extract s i m HN.out
        have hone := one_num s i hi HB.out HD.out HN.out
        by_cases hr : 0 ≤ readD (runL (s.data.toList.drop i))
        · have HO := Lib.hid (hone.trans (if_pos hr))
          have HX := Lib.hid hrx
          have hr' : 0 ≤ readD (s.extract i (i + m)).data.toList := by rw [hrx]; exact hr
          clear hone hrx hr
          refine (specReadDec (s.extract i (i + m)) _ (by simp; omega)).mono ?_
          generalize readD (s.extract i (i + m)).data.toList = rd at hr'
          rintro e w2 ⟨rfl, rfl⟩
          go_wp2_with fail
          refine bodyPost_ret (v := .tuple #[.agg #[.int .i64 2, .string (s.extract i (i + m)), .int .i64 (i : Int)], .int .i64 (m : Int)]) (by simp [results, Tryd.results29, go_sem]) rfl ?_
          exact oneAns_some (x := (2, _, m)) HO.out (by rw [extract_arr, runL_takeN, HN.out]) ((Below.refl _ _).alloc (Nat.le_refl _) _)
        · have HO := Lib.hid (hone.trans (if_neg hr))
          have hr' : readD (s.extract i (i + m)).data.toList < 0 := by rw [hrx]; omega
          clear hone hrx hr
          refine (specReadDec (s.extract i (i + m)) _ (by simp; omega)).mono ?_
          generalize readD (s.extract i (i + m)).data.toList = rd at hr'
          rintro e w2 ⟨rfl, rfl⟩
          go_wp2_with fail
          refine bodyPost_ret (v := .tuple #[.agg #[.int .i64 0, .string ⟨#[]⟩, .int .i64 0], .int .i64 0]) (by simp [results, Tryd.results29, go_sem]) rfl ?_
          exact oneAns_none HO.out _ _ _ ((Below.refl _ _).alloc (Nat.le_refl _) _)
    · have hme : i + m = s.size := by omega
      have HN := fin (by rw [hme]; exact run_end_at s)
      clear hme fin
      go_wp2_with fail
      have hrx := run_extract s i m HN.out
      have hone := one_num s i hi HB.out HD.out HN.out
      by_cases hr : 0 ≤ readD (runL (s.data.toList.drop i))
      · have HO := Lib.hid (hone.trans (if_pos hr))
        have HX := Lib.hid hrx
        have hr' : 0 ≤ readD (s.extract i (i + m)).data.toList := by rw [hrx]; exact hr
        clear hone hrx hr
        refine (specReadDec (s.extract i (i + m)) _ (by simp; omega)).mono ?_
        generalize readD (s.extract i (i + m)).data.toList = rd at hr'
        rintro e w2 ⟨rfl, rfl⟩
        go_wp2_with fail
        refine bodyPost_ret (v := .tuple #[.agg #[.int .i64 2, .string (s.extract i (i + m)), .int .i64 (i : Int)], .int .i64 (m : Int)]) (by simp [results, Tryd.results29, go_sem]) rfl ?_
        exact oneAns_some (x := (2, _, m)) HO.out (by rw [extract_arr, runL_takeN, HN.out]) ((Below.refl _ _).alloc (Nat.le_refl _) _)
      · have HO := Lib.hid (hone.trans (if_neg hr))
        have hr' : readD (s.extract i (i + m)).data.toList < 0 := by rw [hrx]; omega
        clear hone hrx hr
        refine (specReadDec (s.extract i (i + m)) _ (by simp; omega)).mono ?_
        generalize readD (s.extract i (i + m)).data.toList = rd at hr'
        rintro e w2 ⟨rfl, rfl⟩
        go_wp2_with fail
        refine bodyPost_ret (v := .tuple #[.agg #[.int .i64 0, .string ⟨#[]⟩, .int .i64 0], .int .i64 0]) (by simp [results, Tryd.results29, go_sem]) rfl ?_
        exact oneAns_none HO.out _ _ _ ((Below.refl _ _).alloc (Nat.le_refl _) _)

end Go.Proofs.YtjnanlfahgjcbaaDoor
