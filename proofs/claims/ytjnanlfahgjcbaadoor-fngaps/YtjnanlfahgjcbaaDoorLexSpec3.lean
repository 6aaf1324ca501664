/- The model's texts in small letters, quoted texts, names, signs. -/
import Derived.Test.YtjnanlfahgjcbaaDoorLexSpec2
namespace Go.Proofs.YtjnanlfahgjcbaaDoor
open Go.RowKit

/-- Block R holds the bytes l ahead of what is frozen. -/
def RowB (w : World) (R : Nat) (l : List UInt8) : Prop :=
  ∃ cs fz, w.heap[R]? = some (.cells cs 5 fz) ∧ l.length ≤ fz.1 ∧ ∀ (j : Nat) (h : j < l.length), cs[j]? = some (.int .u8 (l[j].toNat : Int))

theorem RowB.lt {w : World} {R : Nat} {l : List UInt8} (h : RowB w R l) : R < w.heap.size := by
  obtain ⟨cs, fz, hg, _⟩ := h
  rcases Nat.lt_or_ge R w.heap.size with hlt | hge
  · exact hlt
  · rw [Array.getElem?_eq_none hge] at hg; cases hg

theorem RowB.cell {w : World} {R : Nat} {l : List UInt8} (h : RowB w R l) {j : Nat} (hj : j < l.length) : w.cell? ⟨R, j, none⟩ = some (.int .u8 (l[j].toNat : Int)) := by
  obtain ⟨cs, fz, hg, _, hc⟩ := h
  rw [cell_of_row _ _ _ _ _ _ hg]
  exact hc j hj

theorem RowB.frozen {w : World} {R : Nat} {l : List UInt8} (h : RowB w R l) {j : Nat} (hj : j < l.length) : w.frozen? ⟨R, j, none⟩ = false := by
  obtain ⟨cs, fz, hg, hf, _⟩ := h
  simp [World.frozen?, hg]
  omega

theorem RowB.set {w : World} {R : Nat} {l : List UInt8} (h : RowB w R l) {j : Nat} (hj : j < l.length) (y : UInt8) : RowB (w.setCell ⟨R, j, none⟩ (.int .u8 (y.toNat : Int))) R (l.set j y) := by
  obtain ⟨cs, fz, hg, hf, hc⟩ := h
  have hjc : j < cs.size := by
    have := hc j hj
    rcases Nat.lt_or_ge j cs.size with hlt | hge
    · exact hlt
    · rw [Array.getElem?_eq_none hge] at this; cases this
  refine ⟨cs.setIfInBounds j (.int .u8 (y.toNat : Int)), fz, ?_, by simpa using hf, fun i hi => ?_⟩
  · simp [World.setCell, Array.getElem?_modify, hg]
  · simp at hi
    by_cases e : i = j
    · subst e
      rw [Array.getElem?_setIfInBounds_self, if_pos hjc]
      simp
    · rw [Array.getElem?_setIfInBounds_ne (by omega), hc i hi, List.getElem_set_ne (by omega)]

theorem RowB.below {w w' : World} {R : Nat} {l : List UInt8} (h : RowB w R l) (hb : Below w.heap.size w w') : RowB w' R l := by
  have hlt := h.lt
  obtain ⟨cs, fz, hg, r⟩ := h
  exact ⟨cs, fz, (hb.block R hlt).trans hg, r⟩

theorem convRow {W : World} {R : Nat} {l : List UInt8} {c : Nat} (h : RowB W R l) :
    (convert 22 9 (.slice (some ⟨R, 0, none⟩) l.length c)).run Tryd.prog W = .ok (.string ⟨l.toArray⟩) W := by
  rw [run_convert_bytes_string W _ _ _ _ _ _ Tryd.underlying22 Tryd.underlying5 Tryd.underlying9]
  rw [run_bytesToString W ⟨R, 0, none⟩ l.length c (l.map fun b => (b.toNat : Int))]
  · rw [foldl_push]; rfl
  · have hl : l.length = (bcells l).length := by simp [bcells]
    rw [hl, run_loadCells_list (P := Tryd.prog) W ⟨R, 0, none⟩ (bcells l) ?_]
    · simp [bcells]
    · intro j u hu
      have hj : j < l.length := by
        rcases Nat.lt_or_ge j l.length with h1 | h1
        · exact h1
        · rw [List.getElem?_eq_none (by simpa [bcells] using h1)] at hu; cases hu
      have hadd : (⟨R, 0, none⟩ : Addr).add j = ⟨R, j, none⟩ := by unfold Addr.add; by_cases h0 : j = 0 <;> simp [h0]
      rw [hadd, h.cell hj]
      unfold bcells at hu
      rw [List.getElem?_map, List.getElem?_eq_getElem hj] at hu
      exact hu

theorem convTextRow (w : World) (s : ByteArray) : ∃ W cap, (convert 9 22 (.string s)).run Tryd.prog w = .ok (.slice (some ⟨w.heap.size, 0, none⟩) s.size cap) W ∧ Below w.heap.size w W ∧ RowB W w.heap.size s.data.toList ∧ s.size ≤ cap := by
  refine ⟨_, _, convText w s, belowBytesW w s, ⟨_, _, Lib.bytesWorld_at_new w 5 s, ?_, fun j hj => ?_⟩, grownCap_ge _ _ _ _⟩
  · simp [Lib.bytesCells]
  · have hj' : j < s.size := by simpa using hj
    have h2 := Lib.bytesWorld_cell w 5 s j hj'
    rw [cell_of_row _ _ _ _ _ _ (Lib.bytesWorld_at_new w 5 s)] at h2
    rw [h2, List.getD_eq_getElem?_getD, List.getElem?_eq_getElem hj]
    rfl

def lowL (l : List UInt8) (k : Nat) : List UInt8 := (l.take k).map lowB ++ l.drop k

theorem lowL_len (l : List UInt8) (k : Nat) : (lowL l k).length = l.length := by
  unfold lowL
  rw [List.length_append, List.length_map, List.length_take, List.length_drop]
  omega

theorem lowL_at (l : List UInt8) (k : Nat) (h : k < l.length) : (lowL l k)[k]'(by rw [lowL_len]; exact h) = l[k] := by
  unfold lowL
  have hl : ((l.take k).map lowB).length = k := by simp; omega
  rw [List.getElem_append_right (by omega), List.getElem_drop]
  congr 1
  omega

theorem lowL_set (l : List UInt8) (k : Nat) (h : k < l.length) : (lowL l k).set k (lowB l[k]) = lowL l (k + 1) := by
  unfold lowL
  have hl : ((l.take k).map lowB).length = k := by simp; omega
  rw [List.set_append_right _ _ (by omega), hl, Nat.sub_self, List.drop_eq_getElem_cons h, List.set_cons_zero, List.take_succ_eq_append_getElem h, List.map_append, List.append_assoc]
  rfl

theorem lowL_skip (l : List UInt8) (k : Nat) (h : k < l.length) (hb : lowB l[k] = l[k]) : lowL l k = lowL l (k + 1) := by
  unfold lowL
  rw [List.drop_eq_getElem_cons h, List.take_succ_eq_append_getElem h, List.map_append, List.append_assoc, List.map_cons, hb]
  rfl

theorem lowL_all (l : List UInt8) : lowL l l.length = l.map lowB := by simp [lowL]

theorem low_in {b : UInt8} (h : inI (b.toNat : Int) 65 90 = true) : ((lowB b).toNat : Int) = (b.toNat : Int) + 32 ∧ (b.toNat : Int) ≤ 90 := by
  simp only [inI, Bool.and_eq_true, decide_eq_true_eq] at h
  unfold lowB
  rw [if_pos (by simp; omega), UInt8.toNat_add]
  have : (32 : UInt8).toNat = 32 := rfl
  omega

theorem low_out {b : UInt8} (h : inI (b.toNat : Int) 65 90 = false) : lowB b = b := by
  simp only [inI, Bool.and_eq_false_iff, decide_eq_false_iff_not] at h
  unfold lowB
  rw [if_neg (by simp; omega)]

set_option maxHeartbeats 1000000 in
theorem specLower (s : ByteArray) (w : World) (hs : s.size ≤ 1048576) :
    Calls Tryd.prog 49 #[.string s] w fun e w' => e = .returned (.string ⟨(s.data.toList.map lowB).toArray⟩) ∧ Below w.heap.size w w' := by
  obtain ⟨W, cap, hcv, hbW, hrow, hcap⟩ := convTextRow w s
  have hll : s.data.toList.length = s.size := by simp
  have H0 : Hid (lowL s.data.toList 0 = s.data.toList) := by unfold Hid; simp [lowL]
  have HROW := Lib.hid hrow
  have HLL := Lib.hid hll
  clear hrow hll
  generalize hR : w.heap.size = R at *
  have HR := Lib.hid hR
  clear hR
  go_enter Tryd.func49, Tryd.ntmps49
  go_wp2_with fail
  go_loopw [4] (fun i wr => ∃ (k : Nat) (l : List UInt8), k ≤ s.size ∧ i = .int .i64 k ∧ Hid (l = lowL s.data.toList k) ∧ RowB wr R l ∧ Below R w wr) (fun i _ => s.size - (intOf i).toNat)
  case atStart => exact ⟨0, _, Nat.zero_le _, rfl, rfl, by rw [H0.out]; exact HROW.out, hbW⟩
  case round =>
    obtain ⟨k, l, hk, rfl, hl, hrow, hb⟩ := hrel
    have hlen : l.length = s.size := by rw [hl.out, lowL_len]; exact HLL.out
    by_cases hlt : k < s.size
    · have hkl : k < l.length := by omega
      have hkL : k < s.data.toList.length := by rw [HLL.out]; exact hlt
      have hval : l[k] = s.data.toList[k] := by
        have := lowL_at s.data.toList k hkL
        rw [← this]
        simp only [hl.out]
      have hc := hrow.cell hkl
      have hf := hrow.frozen hkl
      have hby := byte_le l[k]
      have HV := Lib.hid hval
      have HLEN := Lib.hid hlen
      have HROW2 := Lib.hid hrow
      cases h1 : inI (l[k].toNat : Int) 65 90 with
      | true =>
        obtain ⟨e1, e2⟩ := low_in h1
        have H1 := Lib.hid h1
        have HE := Lib.hid e1
        have R1 := hrow.set hkl (lowB l[k])
        rw [e1] at R1
        have HR1 := Lib.hid R1
        clear h1 e1 R1 hval hlen hrow
        go_wp2_with fail
        refine (specInIs _ 65 90 _ true H1.out).mono ?_
        rintro e w' ⟨rfl, rfl⟩
        go_wp2_with fail
        go_roundw
        case rel => exact ⟨k + 1, l.set k (lowB l[k]), by omega, by go_num, by unfold Hid; rw [HV.out, hl.out, lowL_set _ _ hkL], HR1.out, hb.setCell (p := ⟨R, k, none⟩) (Nat.le_refl _) _⟩
        case measure => simp [intOf]; omega
      | false =>
        have H1 := Lib.hid h1
        have HE := Lib.hid (low_out h1)
        clear h1 hval hlen hrow
        go_wp2_with fail
        refine (specInIs _ 65 90 _ false H1.out).mono ?_
        rintro e w' ⟨rfl, rfl⟩
        go_wp2_with fail
        go_roundw
        case rel => exact ⟨k + 1, l, by omega, by go_num, by unfold Hid; rw [hl.out]; exact lowL_skip _ _ hkL (by rw [← HV.out]; exact HE.out), HROW2.out, hb⟩
        case measure => simp [intOf]; omega
    · obtain rfl : k = s.size := by omega
      have hcv2 := convRow (c := cap) hrow
      rw [hlen] at hcv2
      have HLEN := Lib.hid hlen
      clear hlen
      go_wp2_with fail
      go_ret
      exact ⟨by rw [hl.out, ← HLL.out, lowL_all]; rfl, hb⟩

end Go.Proofs.YtjnanlfahgjcbaaDoor
