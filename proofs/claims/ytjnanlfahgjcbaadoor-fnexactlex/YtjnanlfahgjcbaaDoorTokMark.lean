/- The laws' marks in slices of words. -/
import Derived.Test.YtjnanlfahgjcbaaDoorToks
import Derived.Test.YtjnanlfahgjcbaaDoorMarkText
import Derived.IntWalk
namespace Go.Proofs.YtjnanlfahgjcbaaDoor
open Go.RowKit

def markTk (k : Nat) : Tk := ⟨(k : Int), markT (k + 1), ((k + 2 : Nat) : Int)⟩
/-- n marked words from k on. -/
def markTks (k n : Nat) : List Tk := (List.range n).map fun i => markTk (k + 3 * i)
@[simp] theorem markTks_length (k n : Nat) : (markTks k n).length = n := by simp [markTks]
theorem markTks_at (k n i : Nat) (h : i < n) : (markTks k n)[i]'(by simpa using h) = markTk (k + 3 * i) := by simp [markTks]
theorem markTks_succ (k n : Nat) : markTks k (n + 1) = markTks k n ++ [markTk (k + 3 * n)] := by simp [markTks, List.range_succ]
theorem markTks_fit (k n : Nat) (h : k + 3 * n ≤ 16777216) : FitsT (markTks k n) := by
  intro x hx
  obtain ⟨i, hi, rfl⟩ := List.mem_map.1 hx
  have := List.mem_range.1 hi
  have hm := markT_size (k + 3 * i + 1)
  unfold markTk isI64 maxLen
  exact ⟨⟨by simp only []; omega, by simp only []; omega⟩, by simp only []; omega, by simp only []; omega, by simp only []; omega⟩

def markedT (xs : List Tk) (k i : Nat) : List Tk := markTks k i ++ xs.drop i
theorem markedT_length (xs : List Tk) (k i : Nat) (h : i ≤ xs.length) : (markedT xs k i).length = xs.length := by simp [markedT]; omega
theorem markedT_set (xs : List Tk) (k i : Nat) (h : i < xs.length) : (markedT xs k i).set i (markTk (k + 3 * i)) = markedT xs k (i + 1) := by
  unfold markedT
  rw [List.set_append_right _ _ (by simp), markTks_succ, List.drop_eq_getElem_cons h]
  simp only [markTks_length, Nat.sub_self, List.set_cons_zero, List.append_assoc, List.singleton_append]
theorem markedT_all (xs : List Tk) (k : Nat) : markedT xs k xs.length = markTks k xs.length := by simp [markedT]

theorem OwnT.form {w : World} {B : Nat} {a : Option Addr} {c : Nat} {xs : List Tk} (h : OwnT w B a c xs) : (a = none ∧ c = 0 ∧ xs = []) ∨ ∃ g, a = some ⟨g, 0, none⟩ ∧ B ≤ g ∧ g < w.heap.size := by
  have hl := h
  unfold OwnT at h
  rcases h.2 with ⟨hv, hn⟩ | ⟨g, cap, cur, hv, hb, hg, _⟩
  · simp only [Value.slice.injEq] at hv
    exact .inl ⟨hv.1, hv.2.2, List.eq_nil_of_length_eq_zero hn⟩
  · simp only [Value.slice.injEq] at hv
    obtain ⟨rfl, _, rfl⟩ := hv
    exact .inr ⟨g, rfl, hl.lt rfl⟩

theorem grown_two {w wr w1 w2 : World} {g : Nat} (h : w.grownBy wr (some g)) (h1 : wr.grownBy w1 (some g)) (hb : Below w1.heap.size w1 w2) : w.grownBy w2 (some g) :=
  ⟨hb.os.trans (h1.os.trans h.os), hb.tape.trans (h1.tape.trans h.tape), hb.output.trans (h1.output.trans h.output), Nat.le_trans h.size (Nat.le_trans h1.size hb.size),
   fun k hk hne => by rw [hb.block k (Nat.lt_of_lt_of_le hk (Nat.le_trans h.size h1.size)), h1.block k (Nat.lt_of_lt_of_le hk h.size) hne, h.block k hk hne]⟩
theorem grown_set2 {w w2 : World} {g : Nat} (h : w.grownBy w2 (some g)) (i : Nat) (u : Value) : w.grownBy (w2.setCell ⟨g, i, none⟩ u) (some g) :=
  ⟨h.os, h.tape, h.output, by simpa [World.setCell] using h.size, fun k hk hne => (Below.heap_setCell _ _ _ _ (fun e => hne (by rw [e]))).trans (h.block k hk hne)⟩

def MarkedT (w : World) (B : Nat) (a : Option Addr) (c k n : Nat) (e : Ending) (w' : World) : Prop :=
  e = .returned (.int .i64 ((k + 3 * n : Nat) : Int)) ∧ OwnT w' B a c (markTks k n) ∧ w.grownBy w' (Value.slice a n c).ownBlock

set_option maxHeartbeats 1000000 in
theorem markToks (a : Option Addr) (c : Nat) (xs : List Tk) (k B : Nat) (w : World) (hx : OwnT w B a c xs) (hk1 : 1 ≤ k) (hk2 : k ≤ 16) (hn : xs.length ≤ 2097152) :
    Calls Tryd.prog 17 #[.slice a xs.length c, .int .i64 (k : Int)] w (MarkedT w B a c k xs.length) := by
  go_enter Tryd.func17, Tryd.ntmps17
  go_wp2_with fail
  go_loopw [1, 5] (fun q i wr => ∃ j : Nat, j ≤ xs.length ∧ i = .int .i64 j ∧ q = .int .i64 ((k + 3 * j : Nat) : Int) ∧ wr.ownsRow B 29 3 (.slice a xs.length c) xs.length (tcells (markedT xs k j)) ∧ w.grownBy wr (Value.slice a xs.length c).ownBlock) (fun _ i _ => xs.length - (intOf i).toNat)
  case atStart => exact ⟨0, Nat.zero_le _, rfl, rfl, by have h := hx; unfold OwnT at h; unfold markedT markTks; simpa using h, World.grownBy.refl _ _⟩
  case round =>
    obtain ⟨j, hj, rfl, rfl, hown, hg⟩ := hrel
    by_cases hlt : j < xs.length
    · rcases hx.form with ⟨_, _, h0⟩ | ⟨g, rfl, hBg, hgl⟩
      · subst h0; simp at hlt
      have hml := markedT_length xs k j (by omega)
      obtain ⟨t0, t1, t2⟩ := tcells_at (markedT xs k j) j (by omega)
      have c0 := (hown.cellAt (j * 3) (by omega)).trans t0
      have c1 := (hown.cellAt (j * 3 + 1) (by omega)).trans t1
      have c2 := (hown.cellAt (j * 3 + 2) (by omega)).trans t2
      have f0 : wr.frozen? ⟨g, j * 3, none⟩ = false := hown.frozenAt _
      have f1 : wr.frozen? ⟨g, j * 3 + 1, none⟩ = false := hown.frozenAt _
      have f2 : wr.frozen? ⟨g, j * 3 + 2, none⟩ = false := hown.frozenAt _
      have hglr : g < wr.heap.size := Nat.lt_of_lt_of_le hgl hg.size
      have R0 := hown.stored (j * 3) (.int .i64 ((k + 3 * j : Nat) : Int))
      have HR0 := Lib.hid R0
      have HX := Lib.hid hx
      have HG := Lib.hid hg
      clear t0 t1 t2 hx R0 hown hg
      generalize (markedT xs k j)[j].kind = y0 at c0
      generalize (markedT xs k j)[j].text = y1 at c1
      generalize (markedT xs k j)[j].at_ = y2 at c2
      go_wp2_with fail
      have hmt := markText (k + 3 * j + 1) (wr.setCell ⟨g, j * 3, none⟩ (.int .i64 ((k + 3 * j : Nat) : Int))) (by omega) (by omega)
      rw [show ((k + 3 * j + 1 : Nat) : Int) = ((k + 3 * j : Nat) : Int) + 1 by omega] at hmt
      refine hmt.mono ?_
      clear hmt
      rintro e w2 ⟨rfl, hb2⟩
      have hW1 : g < (wr.setCell ⟨g, j * 3, none⟩ (.int .i64 ((k + 3 * j : Nat) : Int))).heap.size := by simpa [World.setCell] using hglr
      have d1 : w2.cell? ⟨g, j * 3 + 1, none⟩ = some (.string y1) := (hb2.cell (p := ⟨g, j * 3 + 1, none⟩) hW1).trans ((World.cell?_setCell_other _ _ _ _ (by simp)).trans c1)
      have d2 : w2.cell? ⟨g, j * 3 + 2, none⟩ = some (.int .i64 y2) := (hb2.cell (p := ⟨g, j * 3 + 2, none⟩) hW1).trans ((World.cell?_setCell_other _ _ _ _ (by simp)).trans c2)
      have R0' := World.ownsRow.kept (row := none) HR0.out.1 ⟨hb2.os, hb2.tape, hb2.output, hb2.size, fun i hi _ => hb2.block i hi⟩ (.inr (by simp [Value.ownBlock]))
      have e1 : w2.frozen? ⟨g, j * 3 + 1, none⟩ = false := R0'.frozenAt _
      have e2 : w2.frozen? ⟨g, j * 3 + 2, none⟩ = false := R0'.frozenAt _
      have R1 := R0'.stored (j * 3 + 1) (.string (markT (k + 3 * j + 1)))
      have R2 := (R1.1.stored (j * 3 + 2) (.int .i64 ((k + 3 * j + 2 : Nat) : Int))).1
      have HR2 := Lib.hid R2
      have HGR := Lib.hid (grown_set2 (grown_set2 (grown_two HG.out HR0.out.2 hb2) (j * 3 + 1) (.string (markT (k + 3 * j + 1)))) (j * 3 + 2) (.int .i64 ((k + 3 * j + 2 : Nat) : Int)))
      clear c0 c1 c2 f0 f1 f2 R0' R1 R2 hb2 hW1
      go_wp2_with fail
      go_roundw
      case rel =>
        have hset := tcells_set (markedT xs k j) j (markTk (k + 3 * j)) (by omega)
        rw [markedT_set xs k j hlt] at hset
        refine ⟨j + 1, by omega, by go_num, by go_num, ?_, ?_⟩
        · rw [← hset]
          have := HR2.out
          simpa [markTk, Int.add_assoc] using this
        · have := HGR.out
          have h2 : ((k + 3 * j + 2 : Nat) : Int) = ((k + 3 * j : Nat) : Int) + 1 + 1 := by omega
          first
            | exact this
            | (rw [h2] at this; exact this)
            | (simp only [Int.natCast_add, Int.natCast_mul, Int.cast_ofNat_Int, Int.add_assoc] at this ⊢; exact this)
      case measure => simp [intOf]; omega
    · obtain rfl : j = xs.length := by omega
      rw [markedT_all] at hown
      go_wp2_with fail
      go_ret
      exact ⟨rfl, by unfold OwnT; simpa using hown, hg⟩

set_option maxHeartbeats 1000000 in
theorem heldToks (a : Option Addr) (c k n : Nat) (w : World) (hx : Toks w a c (markTks k n)) (hk1 : 1 ≤ k) (hk2 : k ≤ 16) (hn : n ≤ 2097152) :
    Calls Tryd.prog 18 #[.slice a n c, .int .i64 (k : Int)] w fun e w' => e = .returned (.int .i64 ((k + 3 * n : Nat) : Int)) ∧ Below w.heap.size w w' := by
  go_enter Tryd.func18, Tryd.ntmps18
  go_wp2_with fail
  go_loopw [1, 5] (fun q i wr => ∃ j p : Nat, j ≤ n ∧ i = .int .i64 j ∧ q = .int .i64 (p : Int) ∧ p ≤ 16 + 3 * 2097152 ∧ Hid (p = k + 3 * j) ∧ Below w.heap.size w wr) (fun _ i _ => n - (intOf i).toNat)
  case atStart => exact ⟨0, k, Nat.zero_le _, rfl, rfl, by omega, rfl, Below.refl _ _⟩
  case round =>
    obtain ⟨j, p, hj, rfl, rfl, hpb, hp, hb⟩ := hrel
    by_cases hlt : j < n
    · obtain ⟨b, off, rfl, hbl, hc0, hc1, hc2⟩ := (hx.below hb).spot (k := j) (by simpa using hlt)
      rw [markTks_at k n j hlt, ← hp.out] at hc0 hc1 hc2
      simp only [markTk] at hc0 hc1 hc2
      have hs : (!((markT (p + 1)).toList == (markT (p + 1)).toList)) = false := by simp
      have t0 : ((p : Int) != (p : Int)) = false := by simp
      have h0j : (0 : Int) ≤ (j : Int) := by omega
      have hjn : (j : Int) < (n : Int) := by omega
      have HX := Lib.hid hx
      have hp3 : p + 3 ≤ 16 + 3 * 2097152 := by have := hp.out; omega
      have hmt : Hid (∀ W, Calls Tryd.prog 35 #[.int .i64 ((p : Int) + 1)] W fun e w' => e = .returned (.string (markT (p + 1))) ∧ Below W.heap.size W w') := fun W => by
        have := markText (p + 1) W (by omega) (by omega)
        simpa using this
      clear hx
      go_wp2_with fail
      go_region_held3 (fun w' => w'.cell? ⟨b, off + j * 3 + 1, none⟩ = some (.string (markT (p + 1)))) (first | exact hc1 | exact (hb2.cell (p := ⟨b, off + j * 3 + 1, none⟩) hbl).trans hc1)
        (first | (go_at_call 35; refine (hmt.out _).mono ?_; rintro e w2 ⟨rfl, hb2⟩))
      have hbb : Below w.heap.size w w2 := hb.drew.trans (hb2.mono hb.size)
      have d2 : w2.cell? ⟨b, off + j * 3 + 2, none⟩ = some (.int .i64 ((p + 2 : Nat) : Int)) := (hb2.cell (p := ⟨b, off + j * 3 + 2, none⟩) hbl).trans hc2
      simp only [Int.natCast_add, Int.cast_ofNat_Int] at d2
      have t2 : (((p : Int) + 2) != ((p : Int) + 1 + 1)) = false := by simp; omega
      have t3 : (((p : Int) + 2) != ((p : Int) + 2)) = false := by simp
      clear hb2
      go_wp2_with fail
      go_roundw
      case rel => exact ⟨j + 1, p + 3, by omega, by go_num, by go_num, by omega, by unfold Hid; rw [hp.out]; omega, hbb⟩
      case measure => simp [intOf]; omega
    · go_wp2_with fail
      go_ret
      obtain rfl : j = n := by omega
      exact ⟨by rw [hp.out]; rfl, hb⟩

end Go.Proofs.YtjnanlfahgjcbaaDoor
