/- spec.PutName. -/
import Derived.Test.YtnepfnbmmdcgpaaDoorPutNameP
import Derived.Test.YtnepfnbmmdcgpaaDoorLexSpec1
namespace Go.Proofs.YtnepfnbmmdcgpaaDoor
open Go.RowKit

def keptL : List ByteArray := keptW.map fun l => ⟨l.toArray⟩

theorem has_kept (s : ByteArray) : hasB keptL s = keptB s.data.toList := by
  unfold hasB keptL keptB
  rw [List.any_map]
  congr 1
  funext x
  simp only [Function.comp]
  rw [beq_flip, Lib.toList_data, Lib.toList_data]

/-- A new row of texts that is laid in one go. -/
theorem rowLit (w : World) (xs : List ByteArray) (hs : ∀ s ∈ xs, s.size ≤ maxLen) (hn : xs.length ≤ 1000000) :
    Strs (w.alloc (.cells (xs.map Value.string).toArray 9)) (some ⟨w.heap.size, 0, none⟩) xs.length xs := by
  refine ⟨Nat.le_refl _, by unfold maxLen; omega, hs, (fun h => by cases h), fun _ => ⟨w.heap.size, 0, rfl, by simp, fun i hi => ?_⟩⟩
  rw [cell_of_row _ _ _ _ _ _ (heap_alloc_new w _)]
  simp [hi]

theorem keptL_small : ∀ s ∈ keptL, s.size ≤ 10 := by unfold keptL keptW; decide

set_option maxRecDepth 100000 in
set_option maxHeartbeats 1000000 in
theorem specKept (w : World) : Calls Tryd.prog 79 #[] w fun e w' => e = .returned (.slice (some ⟨w.heap.size, 0, none⟩) 39 39) ∧ Strs w' (some ⟨w.heap.size, 0, none⟩) 39 keptL ∧ Below w.heap.size w w' := by
  have hst := Lib.hid (rowLit w keptL (fun s hs => by have := keptL_small s hs; unfold maxLen; omega) (by decide))
  go_enter Tryd.func79, Tryd.ntmps79
  go_wp2_with fail
  go_ret
  exact ⟨rfl, hst.out, (Below.refl _ _).alloc (Nat.le_refl _) _⟩

theorem specHasKept (w : World) (a : Option Addr) (s : ByteArray) (h : Strs w a 39 keptL) (v : Bool) (hv : keptB s.data.toList = v) :
    Calls Tryd.prog 78 #[.slice a 39 39, .string s] w fun e w' => e = .returned (.bool v) ∧ Below w.heap.size w w' := by
  have := specHas a 39 keptL s w h
  rw [has_kept, hv] at this
  refine this.mono ?_
  rintro e w' ⟨he, n, rfl⟩
  exact ⟨he, below_drewN (Below.refl _ _) n⟩

theorem okB_eq (b : UInt8) : okB b = (moreB b && !inI (b.toNat : Int) 65 90) := by
  rw [Bool.eq_iff_iff]
  simp only [okB, smallB, moreB, letterB, digitB, inI, Bool.or_eq_true, Bool.and_eq_true, decide_eq_true_eq, Bool.not_eq_true', Bool.and_eq_false_iff, decide_eq_false_iff_not, beq_iff_eq]
  constructor
  · intro h; omega
  · intro h; omega

theorem all_step (s : ByteArray) (k : Nat) (h : k < s.size) : (s.data.toList.take (k + 1)).all okB = ((s.data.toList.take k).all okB && okB s[k]) := by
  have hl : k < s.data.toList.length := by simpa using h
  rw [List.take_succ_eq_append_getElem hl, List.all_append]
  simp only [List.all_cons, List.all_nil, Bool.and_true]
  rfl

set_option maxHeartbeats 4000000 in
theorem specPutName (s : ByteArray) (w : World) (hs : s.size ≤ 1048576) (r : ByteArray) (hr : nameT s = r) :
    Calls Tryd.prog 56 #[.string s] w fun e w' => e = .returned (.string r) ∧ Below w.heap.size w w' := by
  by_cases h0 : s.size = 0
  · have HR : Hid (quoteT s 34 = r) := by unfold Hid; rw [← hr, nameT, plain_empty s h0]; rfl
    have hse : s.toList = [] := by rw [Lib.toList_data]; exact List.length_eq_zero_iff.1 (by simpa using h0)
    have hn : (!(s.toList == [])) = false := by rw [hse]; rfl
    have hn2 : s.toList.isEmpty = true := by rw [hse]; rfl
    clear hr hse h0
    go_enter Tryd.func56, Tryd.ntmps56
    go_wp2_with fail
    go_loop [3, 4] (fun p i => p = .bool false ∧ ∃ k : Nat, k ≤ s.size ∧ i = .int .i64 k) (fun _ i => s.size - (intOf i).toNat)
    case atStart => exact ⟨rfl, 0, Nat.zero_le _, rfl⟩
    case round =>
      obtain ⟨rfl, k, hk, rfl⟩ := hrel
      by_cases hlt : k < s.size
      · go_wp2_with fail
        exact ⟨⟨rfl, k + 1, by omega, by go_num⟩, by simp [intOf]; omega⟩
      · go_wp2_with fail
        refine (specQuote s 34 _ hs).mono ?_
        rintro e w9 ⟨rfl, b9⟩
        go_wp2_with fail
        go_ret
        exact ⟨by rw [← HR.out]; rfl, b9⟩
  · have hpos : 0 < s.size := by omega
    have hne : s.toList ≠ [] := by
      intro e
      rw [Lib.toList_data] at e
      have h2 : s.data.toList.length = 0 := by rw [e]; rfl
      have h3 : s.data.toList.length = s.size := by simp
      omega
    have hn : (!(s.toList == [])) = true := by simpa using hne
    have hn2 : s.toList.isEmpty = false := List.isEmpty_eq_false_iff.2 hne
    have hby := byte_le s[0]
    have hsz : (0 : Int) < (s.size : Int) := by omega
    cases hd : digitB s[0] with
    | true =>
      have HR : Hid (quoteT s 34 = r) := by unfold Hid; rw [← hr, nameT, plain_no s 0 hpos (.inr ⟨rfl, hd⟩)]; rfl
      have HD := Lib.hid hd
      clear hr hne h0 hd
      go_enter Tryd.func56, Tryd.ntmps56
      go_wp2_with fail
      refine (specDigitB s[0] _ true HD.out).mono ?_
      rintro e w1 ⟨rfl, rfl⟩
      go_wp2_with fail
      go_loop [3, 4] (fun p i => p = .bool false ∧ ∃ k : Nat, k ≤ s.size ∧ i = .int .i64 k) (fun _ i => s.size - (intOf i).toNat)
      case atStart => exact ⟨rfl, 0, Nat.zero_le _, rfl⟩
      case round =>
        obtain ⟨rfl, k, hk, rfl⟩ := hrel
        by_cases hlt : k < s.size
        · go_wp2_with fail
          exact ⟨⟨rfl, k + 1, by omega, by go_num⟩, by simp [intOf]; omega⟩
        · go_wp2_with fail
          refine (specQuote s 34 _ hs).mono ?_
          rintro e w9 ⟨rfl, b9⟩
          go_wp2_with fail
          go_ret
          exact ⟨by rw [← HR.out]; rfl, b9⟩
    | false =>
      have HD := Lib.hid hd
      cases hq : keptB s.data.toList with
      | true =>
        have HR : Hid (quoteT s 34 = r) := by unfold Hid; rw [← hr, nameT, hq]; simp
        have HQ := Lib.hid hq
        clear hr hne h0 hd hq
        go_enter Tryd.func56, Tryd.ntmps56
        go_wp2_with fail
        refine (specDigitB s[0] _ false HD.out).mono ?_
        rintro e w1 ⟨rfl, rfl⟩
        go_wp2_with fail
        refine (specKept _).mono ?_
        rintro e w2 ⟨rfl, st2, b2⟩
        have HS := Lib.hid st2
        clear st2
        go_wp2_with fail
        refine (specHasKept _ _ s HS.out true HQ.out).mono ?_
        rintro e w3 ⟨rfl, b3⟩
        have B3 := b2.trans (b3.mono b2.size)
        clear HS b2 b3
        go_wp2_with fail
        go_loop [3, 4] (fun p i => p = .bool false ∧ ∃ k : Nat, k ≤ s.size ∧ i = .int .i64 k) (fun _ i => s.size - (intOf i).toNat)
        case atStart => exact ⟨rfl, 0, Nat.zero_le _, rfl⟩
        case round =>
          obtain ⟨rfl, k, hk, rfl⟩ := hrel
          by_cases hlt : k < s.size
          · go_wp2_with fail
            exact ⟨⟨rfl, k + 1, by omega, by go_num⟩, by simp [intOf]; omega⟩
          · go_wp2_with fail
            refine (specQuote s 34 _ hs).mono ?_
            rintro e w9 ⟨rfl, b9⟩
            go_wp2_with fail
            go_ret
            exact ⟨by rw [← HR.out]; rfl, B3.trans (b9.mono B3.size)⟩
      | false =>
        have HR : Hid ((if s.data.toList.all okB then s else quoteT s 34) = r) := by
          unfold Hid
          have he : s.data.toList.isEmpty = false := by rw [← Lib.toList_data]; exact hn2
          rw [← hr, nameT, hq, plainB, he, head_get s hpos, hd]
          simp
        have HQ := Lib.hid hq
        clear hr hne h0 hd hq
        go_enter Tryd.func56, Tryd.ntmps56
        go_wp2_with fail
        refine (specDigitB s[0] _ false HD.out).mono ?_
        rintro e w1 ⟨rfl, rfl⟩
        go_wp2_with fail
        refine (specKept _).mono ?_
        rintro e w2 ⟨rfl, st2, b2⟩
        have HS := Lib.hid st2
        clear st2
        go_wp2_with fail
        refine (specHasKept _ _ s HS.out false HQ.out).mono ?_
        rintro e w3 ⟨rfl, b3⟩
        have B3 := b2.trans (b3.mono b2.size)
        clear HS b2 b3
        go_wp2_with fail
        go_loop [3, 4] (fun p i => ∃ (c : Bool) (k : Nat), p = .bool c ∧ Hid (c = (s.data.toList.take k).all okB) ∧ k ≤ s.size ∧ i = .int .i64 k) (fun _ i => s.size - (intOf i).toNat)
        case atStart => exact ⟨true, 0, rfl, rfl, Nat.zero_le _, rfl⟩
        case round =>
          obtain ⟨c, k, rfl, hc, hk, rfl⟩ := hrel
          by_cases hlt : k < s.size
          · have hbk := byte_le s[k]
            cases c with
            | false =>
              have HN : Hid (false = (s.data.toList.take (k + 1)).all okB) := by unfold Hid; rw [all_step s k hlt, ← hc.out]; rfl
              go_wp2_with fail
              exact ⟨⟨false, k + 1, rfl, HN, by omega, by go_num⟩, by simp [intOf]; omega⟩
            | true =>
              cases hm : moreB s[k] with
              | false =>
                have HN : Hid (false = (s.data.toList.take (k + 1)).all okB) := by unfold Hid; rw [all_step s k hlt, ← hc.out, okB_eq, hm]; rfl
                have HM := Lib.hid hm
                clear hm
                go_wp2_with fail
                refine (specMore s[k] _ false HM.out).mono ?_
                rintro e w4 ⟨rfl, rfl⟩
                go_wp2_with fail
                exact ⟨⟨false, k + 1, rfl, HN, by omega, by go_num⟩, by simp [intOf]; omega⟩
              | true =>
                have HN : Hid ((!inI (s[k].toNat : Int) 65 90) = (s.data.toList.take (k + 1)).all okB) := by unfold Hid; rw [all_step s k hlt, ← hc.out, okB_eq, hm]; simp
                have HM := Lib.hid hm
                clear hm
                go_wp2_with fail
                refine (specMore s[k] _ true HM.out).mono ?_
                rintro e w4 ⟨rfl, rfl⟩
                go_wp2_with fail
                refine (specIn _ 65 90 _).mono ?_
                rintro e w4 ⟨rfl, rfl⟩
                go_wp2_with fail
                exact ⟨⟨_, k + 1, rfl, HN, by omega, by go_num⟩, by simp [intOf]; omega⟩
          · have hke : k = s.size := by omega
            have hall : c = s.data.toList.all okB := by
              rw [hc.out, hke, List.take_of_length_le (by simp)]
            cases c with
            | true =>
              have HR2 : Hid (s = r) := by unfold Hid; rw [← HR.out, ← hall]; rfl
              clear hall hke
              go_wp2_with fail
              go_ret
              exact ⟨by rw [← HR2.out]; rfl, B3⟩
            | false =>
              have HR2 : Hid (quoteT s 34 = r) := by unfold Hid; rw [← HR.out, ← hall]; rfl
              clear hall hke
              go_wp2_with fail
              refine (specQuote s 34 _ hs).mono ?_
              rintro e w9 ⟨rfl, b9⟩
              go_wp2_with fail
              go_ret
              exact ⟨by rw [← HR2.out]; rfl, B3.trans (b9.mono B3.size)⟩

end Go.Proofs.YtnepfnbmmdcgpaaDoor
