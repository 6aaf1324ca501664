/- The program's names: impl.NameOk. -/
/- The laws' own helpers over types: the size and the copy. -/
/- The forms' fits, and the model's TypeOk. -/
/- impl.TypeOk. -/
/- spec.Has and impl.Has both answer whether a text stands in a list. -/
/- The reserved words: impl.isReserved and the model's list. -/
/- spec.Quote answers the text between quotes, each of its quotes doubled. -/
/- Which names are written plainly: by bytes. -/
/- spec.PutName. -/
import Derived.Test.YtpdcmmhhgnackaaGreatDoorMPl
import Derived.Test.YtpdcmmhhgnackaaGreatDoorMShelf
import Derived.IntWalk
import Derived.Test.YtpdcmmhhgnackaaGreatDoorMMem
import Derived.Deep.RegionHeld3
namespace Go.Proofs.YtpdcmmhhgnackaaGreatDoor
open Go.RowKit

theorem index_lt (l : List UInt8) (c : UInt8) : -1 ≤ Lib.indexByte l c ∧ (Lib.indexByte l c < 0 ↔ l.contains c = false) := by
  induction l with
  | nil => simp [Lib.indexByte]
  | cons b r ih =>
    rw [Lib.indexByte]
    by_cases h : b = c
    · subst h; simp
    · have hb : (b == c) = false := by simpa using h
      rw [hb]
      simp only [Bool.false_eq_true, if_false]
      have hc : (b :: r).contains c = r.contains c := by
        rw [List.contains_cons]
        have : (c == b) = false := by simpa using fun e => h e.symm
        rw [this]; rfl
      rw [hc]
      by_cases h1 : Lib.indexByte r c = -1
      · rw [if_pos (by simpa using h1)]
        exact ⟨by omega, by rw [← ih.2]; omega⟩
      · rw [if_neg (by simpa using h1)]
        exact ⟨by omega, by rw [← ih.2]; omega⟩

theorem name_eq (s : ByteArray) : nameB s.data.toList = (!s.toList.isEmpty && (decide ((s.size : Int) ≤ 40) && decide (Lib.indexByte s.data.toList 0 < 0))) := by
  have hl : s.data.toList.length = s.size := by simp
  have hi := (index_lt s.data.toList 0).2
  rw [Bool.eq_iff_iff]
  unfold nameB
  simp only [Bool.and_eq_true, decide_eq_true_eq, Bool.not_eq_true', Lib.toList_data]
  rw [hi, hl]
  constructor
  · rintro ⟨⟨h1, h2⟩, h3⟩
    refine ⟨?_, by omega, h3⟩
    rw [List.isEmpty_eq_false_iff]
    intro e
    rw [e] at hl
    simp at hl
    omega
  · rintro ⟨h1, h2, h3⟩
    rw [List.isEmpty_eq_false_iff] at h1
    have : 0 < s.data.toList.length := List.length_pos_iff.2 h1
    exact ⟨⟨by omega, by omega⟩, h3⟩

set_option maxHeartbeats 1000000 in
theorem implNameFits (s : ByteArray) (w : World) (v : Bool) (hv : nameB s.data.toList = v) :
    Calls Tryz.prog 112 #[.string s] w fun e w' => e = .returned (.bool v) ∧ w = w' := by
  rw [name_eq] at hv
  have HI : Hid (∀ W, Calls Tryz.prog 135 #[.string s, .int .u8 0] W fun e w' => e = .returned (.int .i64 (Lib.indexByte s.data.toList 0)) ∧ W = w') := fun W =>
    (Tryz.strings_IndexByte s 0 W).mono fun e w' ⟨he, hw⟩ => ⟨he, hw.symm⟩
  generalize Lib.indexByte s.data.toList 0 = ix at hv HI
  cases h1 : s.toList.isEmpty with
  | true =>
    have hse : s.toList = [] := List.isEmpty_iff.1 h1
    have hv' : v = false := by rw [← hv, h1]; rfl
    have HV := Lib.hid hv'
    have hn : (!(s.toList == [])) = false := by rw [hse]; rfl
    clear hv hv' hse
    go_enter Tryz.func112, Tryz.ntmps112
    go_wp2_with fail
    go_ret
    exact ⟨by rw [HV.out]; rfl, rfl⟩
  | false =>
    by_cases h2 : (s.size : Int) ≤ 40
    · have hv' : v = decide (ix < 0) := by rw [← hv, h1]; simp [h2]
      have HV := Lib.hid hv'
      have hn : (!(s.toList == [])) = true := by
        have : s.toList ≠ [] := by intro e; rw [e] at h1; cases h1
        simpa using this
      clear hv hv'
      go_enter Tryz.func112, Tryz.ntmps112
      go_wp2_with fail
      refine (HI.out _).mono ?_
      rintro e w1 ⟨rfl, rfl⟩
      go_wp2_with fail
      go_ret
      exact ⟨by rw [HV.out]; rfl, rfl⟩
    · have hv' : v = false := by rw [← hv, h1]; simp [h2]
      have HV := Lib.hid hv'
      have ht : decide ((s.size : Int) ≤ 40) = false := by simpa using h2
      have hn : (!(s.toList == [])) = true := by
        have : s.toList ≠ [] := by intro e; rw [e] at h1; cases h1
        simpa using this
      clear hv hv'
      go_enter Tryz.func112, Tryz.ntmps112
      go_wp2_with fail
      go_ret
      exact ⟨by rw [HV.out]; rfl, rfl⟩

theorem implNameOk (s : ByteArray) (w : World) (v : Bool) (hv : nameB s.data.toList = v) :
    Calls Tryz.prog 72 #[.string s] w fun e w' => e = .returned (.bool v) ∧ w = w' := by
  go_enter Tryz.func72, Tryz.ntmps72
  go_wp2_with fail
  refine (implNameFits s _ v hv).mono ?_
  rintro e w' ⟨rfl, rfl⟩
  go_wp2_with fail
  go_ret
  exact ⟨rfl, rfl⟩

end Go.Proofs.YtpdcmmhhgnackaaGreatDoor

namespace Go.Proofs.YtpdcmmhhgnackaaGreatDoor
open Go.RowKit

set_option maxHeartbeats 1000000 in
theorem szTy (k l : Int) (s : ByteArray) (n : Int) (w : World) (hs : s.size ≤ maxLen) (h0 : 0 ≤ n) (h1 : n ≤ 1048576) :
    Calls Tryz.prog 21 #[.agg #[.int .i64 k, .int .i64 l, .string s], .int .i64 n] w fun e w' => e = .returned (.int .i64 (if n - s.size < 0 then -1 else n - s.size)) ∧ Below w.heap.size w w' := by
  unfold maxLen at hs
  by_cases h : n - (s.size : Int) < 0
  · rw [if_pos h]
    go_enter Tryz.func21, Tryz.ntmps21
    go_wp2
    go_ret
    exact ⟨rfl, (Below.refl _ _).alloc (Nat.le_refl _) _⟩
  · rw [if_neg h]
    have hd : decide (n - (s.size : Int) < 0) = false := by simpa using h
    go_enter Tryz.func21, Tryz.ntmps21
    go_wp2
    go_ret
    exact ⟨rfl, (Below.refl _ _).alloc (Nat.le_refl _) _⟩

set_option maxHeartbeats 1000000 in
theorem toTy (k l : Int) (s : ByteArray) (w : World) :
    Calls Tryz.prog 27 #[.agg #[.int .i64 k, .int .i64 l, .string s]] w fun e w' => e = .returned (.agg #[.int .i64 k, .int .i64 l, .string s]) ∧ Below w.heap.size w w' := by
  go_enter Tryz.func27, Tryz.ntmps27
  go_wp2
  refine bodyPost_ret (v := .agg #[.int .i64 k, .int .i64 l, .string s]) (by simp [results, Tryz.results27, go_sem]) rfl ⟨rfl, ?_⟩
  exact (((Below.refl _ _).alloc (Nat.le_refl _) _).alloc (by simp) _).alloc (by simp; omega) _

/-- Two types lie in the blocks p and q. -/
def Lie2 (p q : Nat) (k l : Int) (s : ByteArray) (k' l' : Int) (s' : ByteArray) (w : World) : Prop :=
  w.cell? ⟨p, 0, none⟩ = some (.int .i64 k) ∧ w.cell? ⟨p, 1, none⟩ = some (.int .i64 l) ∧ w.cell? ⟨p, 2, none⟩ = some (.string s) ∧
  w.cell? ⟨q, 0, none⟩ = some (.int .i64 k') ∧ w.cell? ⟨q, 1, none⟩ = some (.int .i64 l') ∧ w.cell? ⟨q, 2, none⟩ = some (.string s')

theorem Lie2.below {p q : Nat} {k l : Int} {s : ByteArray} {k' l' : Int} {s' : ByteArray} {w w' : World} (h : Lie2 p q k l s k' l' s' w) (hp : p < w.heap.size) (hq : q < w.heap.size) (hb : Below w.heap.size w w') : Lie2 p q k l s k' l' s' w' := by
  obtain ⟨h1, h2, h3, h4, h5, h6⟩ := h
  exact ⟨(hb.cell (p := ⟨p, 0, none⟩) hp).trans h1, (hb.cell (p := ⟨p, 1, none⟩) hp).trans h2, (hb.cell (p := ⟨p, 2, none⟩) hp).trans h3,
    (hb.cell (p := ⟨q, 0, none⟩) hq).trans h4, (hb.cell (p := ⟨q, 1, none⟩) hq).trans h5, (hb.cell (p := ⟨q, 2, none⟩) hq).trans h6⟩

theorem lie2_new (w : World) (T T' : TypeId) (k l : Int) (s : ByteArray) (k' l' : Int) (s' : ByteArray) :
    Lie2 w.heap.size (w.heap.size + 1) k l s k' l' s' ((w.alloc (.cells #[.int .i64 k, .int .i64 l, .string s] T)).alloc (.cells #[.int .i64 k', .int .i64 l', .string s'] T')) := by
  have h1 : ∀ o, ((w.alloc (.cells #[.int .i64 k, .int .i64 l, .string s] T)).alloc (.cells #[.int .i64 k', .int .i64 l', .string s'] T')).cell? ⟨w.heap.size, o, none⟩ = (w.alloc (.cells #[.int .i64 k, .int .i64 l, .string s] T)).cell? ⟨w.heap.size, o, none⟩ :=
    fun o => World.cell?_alloc_lt _ _ _ (by simp)
  have h2 : (w.alloc (.cells #[.int .i64 k, .int .i64 l, .string s] T)).heap.size = w.heap.size + 1 := by simp
  unfold Lie2
  rw [h1, h1, h1, cell_of_row _ _ _ _ _ _ (heap_alloc_new w _), cell_of_row _ _ _ _ _ _ (heap_alloc_new w _), cell_of_row _ _ _ _ _ _ (heap_alloc_new w _), ← h2,
    cell_of_row _ _ _ _ _ _ (heap_alloc_new _ _), cell_of_row _ _ _ _ _ _ (heap_alloc_new _ _), cell_of_row _ _ _ _ _ _ (heap_alloc_new _ _)]
  exact ⟨rfl, rfl, rfl, rfl, rfl, rfl⟩

/-- .. behind the world w0, in blocks that are there. -/
def Lay2 (w0 : World) (p q : Nat) (k l : Int) (s : ByteArray) (k' l' : Int) (s' : ByteArray) (w : World) : Prop :=
  Lie2 p q k l s k' l' s' w ∧ p < w.heap.size ∧ q < w.heap.size ∧ Below w0.heap.size w0 w

theorem Lay2.below {w0 : World} {p q : Nat} {k l : Int} {s : ByteArray} {k' l' : Int} {s' : ByteArray} {w w' : World} (h : Lay2 w0 p q k l s k' l' s' w) (hb : Below w.heap.size w w') : Lay2 w0 p q k l s k' l' s' w' :=
  ⟨h.1.below h.2.1 h.2.2.1 hb, Nat.lt_of_lt_of_le h.2.1 hb.size, Nat.lt_of_lt_of_le h.2.2.1 hb.size, h.2.2.2.trans (hb.mono h.2.2.2.size)⟩

theorem Lay2.drew {w0 : World} {p q : Nat} {k l : Int} {s : ByteArray} {k' l' : Int} {s' : ByteArray} {w : World} (h : Lay2 w0 p q k l s k' l' s' w) : Lay2 w0 p q k l s k' l' s' w.drew :=
  h.below ⟨rfl, rfl, rfl, Nat.le_refl _, fun _ _ => rfl⟩

theorem lay2_new (w : World) (T T' : TypeId) (k l : Int) (s : ByteArray) (k' l' : Int) (s' : ByteArray) :
    Lay2 w w.heap.size (w.heap.size + 1) k l s k' l' s' ((w.alloc (.cells #[.int .i64 k, .int .i64 l, .string s] T)).alloc (.cells #[.int .i64 k', .int .i64 l', .string s'] T')) :=
  ⟨lie2_new w T T' k l s k' l' s', by simp; omega, by simp, below2 w _ _⟩

/-- A type lies in the block p, behind the world w0. -/
def Lay1 (w0 : World) (p : Nat) (k l : Int) (s : ByteArray) (w : World) : Prop :=
  (w.cell? ⟨p, 0, none⟩ = some (.int .i64 k) ∧ w.cell? ⟨p, 1, none⟩ = some (.int .i64 l) ∧ w.cell? ⟨p, 2, none⟩ = some (.string s)) ∧ p < w.heap.size ∧ Below w0.heap.size w0 w

theorem Lay1.below {w0 : World} {p : Nat} {k l : Int} {s : ByteArray} {w w' : World} (h : Lay1 w0 p k l s w) (hb : Below w.heap.size w w') : Lay1 w0 p k l s w' :=
  ⟨⟨(hb.cell (p := ⟨p, 0, none⟩) h.2.1).trans h.1.1, (hb.cell (p := ⟨p, 1, none⟩) h.2.1).trans h.1.2.1, (hb.cell (p := ⟨p, 2, none⟩) h.2.1).trans h.1.2.2⟩,
    Nat.lt_of_lt_of_le h.2.1 hb.size, h.2.2.trans (hb.mono h.2.2.size)⟩

theorem Lay1.drew {w0 : World} {p : Nat} {k l : Int} {s : ByteArray} {w : World} (h : Lay1 w0 p k l s w) : Lay1 w0 p k l s w.drew := h.below ⟨rfl, rfl, rfl, Nat.le_refl _, fun _ _ => rfl⟩

theorem Lay1.alloc {w0 : World} {p : Nat} {k l : Int} {s : ByteArray} {w : World} (h : Lay1 w0 p k l s w) (o : Obj) : Lay1 w0 p k l s (w.alloc o) := h.below ((Below.refl _ _).alloc (Nat.le_refl _) _)

theorem lay1_new (w : World) (T : TypeId) (k l : Int) (s : ByteArray) : Lay1 w w.heap.size k l s (w.alloc (.cells #[.int .i64 k, .int .i64 l, .string s] T)) := by
  refine ⟨?_, by simp, (Below.refl _ _).alloc (Nat.le_refl _) _⟩
  rw [cell_of_row _ _ _ _ _ _ (heap_alloc_new w _), cell_of_row _ _ _ _ _ _ (heap_alloc_new w _), cell_of_row _ _ _ _ _ _ (heap_alloc_new w _)]
  exact ⟨rfl, rfl, rfl⟩

end Go.Proofs.YtpdcmmhhgnackaaGreatDoor

namespace Go.Proofs.YtpdcmmhhgnackaaGreatDoor
open Go.RowKit

/-- A type fits a form. -/
def fitsB (mn mx : Int) (nm : Bool) (l : Int) (s : ByteArray) : Bool :=
  if l < mn then false else if mx < l then false else if nm then nameB s.data.toList else s.toList.isEmpty

def typeOkB (k l : Int) (s : ByteArray) : Bool :=
  if k = 0 ∨ k = 1 ∨ k = 2 then (l == 0) && s.toList.isEmpty else if k = 3 then inI l 1 100 && s.toList.isEmpty else if k = 4 then (l == 0) && nameB s.data.toList else false

set_option maxHeartbeats 1000000 in
theorem implFits (f : ByteArray) (mn mx : Int) (nm : Bool) (k l : Int) (s : ByteArray) (w : World) (v : Bool) (hv : fitsB mn mx nm l s = v) :
    Calls Tryz.prog 81 #[.agg #[.string f, .int .i64 mn, .int .i64 mx, .bool nm], .agg #[.int .i64 k, .int .i64 l, .string s]] w fun e w' => e = .returned (.bool v) ∧ Below w.heap.size w w' := by
  by_cases h1 : l < mn
  · have HV : Hid (v = false) := by unfold Hid; rw [← hv, fitsB, if_pos h1]
    have f1 : decide (l < mn) = true := decide_eq_true h1
    clear hv h1
    go_enter Tryz.func81, Tryz.ntmps81
    go_wp2_with fail
    go_ret
    exact ⟨by rw [HV.out]; rfl, below2 _ _ _⟩
  · have f1 : decide (l < mn) = false := decide_eq_false h1
    by_cases h2 : mx < l
    · have HV : Hid (v = false) := by unfold Hid; rw [← hv, fitsB, if_neg h1, if_pos h2]
      have f2 : decide (mx < l) = true := decide_eq_true h2
      clear hv h1 h2
      go_enter Tryz.func81, Tryz.ntmps81
      go_wp2_with fail
      go_ret
      exact ⟨by rw [HV.out]; rfl, below2 _ _ _⟩
    · have f2 : decide (mx < l) = false := decide_eq_false h2
      cases nm with
      | true =>
        have HV : Hid (nameB s.data.toList = v) := by unfold Hid; rw [← hv, fitsB, if_neg h1, if_neg h2]; rfl
        clear hv h1 h2
        go_enter Tryz.func81, Tryz.ntmps81
        go_wp2_with fail
        refine (implNameOk s _ v HV.out).mono ?_
        rintro e w1 ⟨rfl, rfl⟩
        go_wp2_with fail
        go_ret
        exact ⟨rfl, below2 _ _ _⟩
      | false =>
        have HV : Hid (v = s.toList.isEmpty) := by unfold Hid; rw [← hv, fitsB, if_neg h1, if_neg h2]; rfl
        clear hv h1 h2
        go_enter Tryz.func81, Tryz.ntmps81
        go_wp2_with fail
        go_ret
        exact ⟨by rw [HV.out]; rfl, below2 _ _ _⟩

theorem typeOk_eq (k l : Int) (s : ByteArray) (h : 0 ≤ k ∧ k ≤ 4) : ∃ f mn mx nm, formOf k = .agg #[.string f, .int .i64 mn, .int .i64 mx, .bool nm] ∧ fitsB mn mx nm l s = typeOkB k l s := by
  have hc : k = 0 ∨ k = 1 ∨ k = 2 ∨ k = 3 ∨ k = 4 := by omega
  have h00 : ∀ c : Bool, (if l < 0 then false else if 0 < l then false else c) = ((l == 0) && c) := fun c => by
    by_cases a : l < 0
    · rw [if_pos a, show (l == 0) = false by rw [beq_eq_false_iff_ne]; omega]; rfl
    · rw [if_neg a]
      by_cases b : 0 < l
      · rw [if_pos b, show (l == 0) = false by rw [beq_eq_false_iff_ne]; omega]; rfl
      · rw [if_neg b, show (l == 0) = true by rw [beq_iff_eq]; omega]; rfl
  have h11 : ∀ c : Bool, (if l < 1 then false else if 100 < l then false else c) = (inI l 1 100 && c) := fun c => by
    unfold inI
    by_cases a : l < 1
    · rw [if_pos a, decide_eq_false (by omega : ¬ 1 ≤ l)]; rfl
    · rw [if_neg a, decide_eq_true (by omega : 1 ≤ l)]
      by_cases b : 100 < l
      · rw [if_pos b, decide_eq_false (by omega : ¬ l ≤ 100)]; rfl
      · rw [if_neg b, decide_eq_true (by omega : l ≤ 100)]; rfl
  rcases hc with rfl | rfl | rfl | rfl | rfl
  · exact ⟨_, _, _, _, rfl, h00 _⟩
  · exact ⟨_, _, _, _, rfl, h00 _⟩
  · exact ⟨_, _, _, _, rfl, h00 _⟩
  · exact ⟨_, _, _, _, rfl, h11 _⟩
  · exact ⟨_, _, _, _, rfl, h00 _⟩

set_option maxHeartbeats 4000000 in
theorem specTypeOk (k l : Int) (s : ByteArray) (w : World) (hs : s.size ≤ 1048576) (v : Bool) (hv : typeOkB k l s = v) :
    Calls Tryz.prog 60 #[.agg #[.int .i64 k, .int .i64 l, .string s]] w fun e w' => e = .returned (.bool v) ∧ Below w.heap.size w w' := by
  have b1 : Below w.heap.size w (w.alloc (.cells #[.int .i64 k, .int .i64 l, .string s] 29)) := (Below.refl _ _).alloc (Nat.le_refl _) _
  have HB := Lib.hid b1
  clear b1
  by_cases hk : 0 ≤ k ∧ k ≤ 4
  · have hc : k = 0 ∨ k = 1 ∨ k = 2 ∨ k = 3 ∨ k = 4 := by omega
    clear hk
    rcases hc with rfl | rfl | rfl | rfl | rfl
    · cases h1 : (l == 0) with
      | false =>
        have HV : Hid (v = false) := by unfold Hid; rw [← hv]; show ((l == 0) && _) = _; rw [h1]; rfl
        clear hv
        go_enter Tryz.func60, Tryz.ntmps60
        go_wp2_with fail
        refine (specInIs _ 0 4 _ true (by decide)).mono ?_
        rintro e w1 ⟨rfl, rfl⟩
        go_wp2_with fail
        go_ret
        exact ⟨by rw [HV.out]; rfl, HB.out⟩
      | true =>
        have HV : Hid (v = s.toList.isEmpty) := by unfold Hid; rw [← hv]; show ((l == 0) && _) = _; rw [h1]; rfl
        clear hv
        go_enter Tryz.func60, Tryz.ntmps60
        go_wp2_with fail
        refine (specInIs _ 0 4 _ true (by decide)).mono ?_
        rintro e w1 ⟨rfl, rfl⟩
        go_wp2_with fail
        go_ret
        exact ⟨by rw [HV.out]; rfl, HB.out⟩
    · cases h1 : (l == 0) with
      | false =>
        have HV : Hid (v = false) := by unfold Hid; rw [← hv]; show ((l == 0) && _) = _; rw [h1]; rfl
        clear hv
        go_enter Tryz.func60, Tryz.ntmps60
        go_wp2_with fail
        refine (specInIs _ 0 4 _ true (by decide)).mono ?_
        rintro e w1 ⟨rfl, rfl⟩
        go_wp2_with fail
        go_ret
        exact ⟨by rw [HV.out]; rfl, HB.out⟩
      | true =>
        have HV : Hid (v = s.toList.isEmpty) := by unfold Hid; rw [← hv]; show ((l == 0) && _) = _; rw [h1]; rfl
        clear hv
        go_enter Tryz.func60, Tryz.ntmps60
        go_wp2_with fail
        refine (specInIs _ 0 4 _ true (by decide)).mono ?_
        rintro e w1 ⟨rfl, rfl⟩
        go_wp2_with fail
        go_ret
        exact ⟨by rw [HV.out]; rfl, HB.out⟩
    · cases h1 : (l == 0) with
      | false =>
        have HV : Hid (v = false) := by unfold Hid; rw [← hv]; show ((l == 0) && _) = _; rw [h1]; rfl
        clear hv
        go_enter Tryz.func60, Tryz.ntmps60
        go_wp2_with fail
        refine (specInIs _ 0 4 _ true (by decide)).mono ?_
        rintro e w1 ⟨rfl, rfl⟩
        go_wp2_with fail
        go_ret
        exact ⟨by rw [HV.out]; rfl, HB.out⟩
      | true =>
        have HV : Hid (v = s.toList.isEmpty) := by unfold Hid; rw [← hv]; show ((l == 0) && _) = _; rw [h1]; rfl
        clear hv
        go_enter Tryz.func60, Tryz.ntmps60
        go_wp2_with fail
        refine (specInIs _ 0 4 _ true (by decide)).mono ?_
        rintro e w1 ⟨rfl, rfl⟩
        go_wp2_with fail
        go_ret
        exact ⟨by rw [HV.out]; rfl, HB.out⟩
    · cases h1 : inI l 1 100 with
      | false =>
        have HV : Hid (v = false) := by unfold Hid; rw [← hv]; show (inI l 1 100 && _) = _; rw [h1]; rfl
        have H1 := Lib.hid h1
        clear hv h1
        go_enter Tryz.func60, Tryz.ntmps60
        go_wp2_with fail
        refine (specInIs _ 0 4 _ true (by decide)).mono ?_
        rintro e w1 ⟨rfl, rfl⟩
        go_wp2_with fail
        refine (specInIs _ 1 100 _ false H1.out).mono ?_
        rintro e w1 ⟨rfl, rfl⟩
        go_wp2_with fail
        go_ret
        exact ⟨by rw [HV.out]; rfl, HB.out⟩
      | true =>
        have HV : Hid (v = s.toList.isEmpty) := by unfold Hid; rw [← hv]; show (inI l 1 100 && _) = _; rw [h1]; rfl
        have H1 := Lib.hid h1
        clear hv h1
        go_enter Tryz.func60, Tryz.ntmps60
        go_wp2_with fail
        refine (specInIs _ 0 4 _ true (by decide)).mono ?_
        rintro e w1 ⟨rfl, rfl⟩
        go_wp2_with fail
        refine (specInIs _ 1 100 _ true H1.out).mono ?_
        rintro e w1 ⟨rfl, rfl⟩
        go_wp2_with fail
        go_ret
        exact ⟨by rw [HV.out]; rfl, HB.out⟩
    · cases h1 : (l == 0) with
      | false =>
        have HV : Hid (v = false) := by unfold Hid; rw [← hv]; show ((l == 0) && _) = _; rw [h1]; rfl
        clear hv
        go_enter Tryz.func60, Tryz.ntmps60
        go_wp2_with fail
        refine (specInIs _ 0 4 _ true (by decide)).mono ?_
        rintro e w1 ⟨rfl, rfl⟩
        go_wp2_with fail
        go_ret
        exact ⟨by rw [HV.out]; rfl, HB.out⟩
      | true =>
        cases h2 : nameB s.data.toList with
        | false =>
          have HV : Hid (v = false) := by unfold Hid; rw [← hv]; show ((l == 0) && _) = _; rw [h1, h2]; rfl
          have H2 := Lib.hid h2
          clear hv h2
          go_enter Tryz.func60, Tryz.ntmps60
          go_wp2_with fail
          refine (specInIs _ 0 4 _ true (by decide)).mono ?_
          rintro e w1 ⟨rfl, rfl⟩
          go_wp2_with fail
          refine (specNameOk s _ hs false H2.out).mono ?_
          rintro e w1 ⟨rfl, rfl⟩
          go_wp2_with fail
          go_ret
          exact ⟨by rw [HV.out]; rfl, HB.out⟩
        | true =>
          have HV : Hid (v = true) := by unfold Hid; rw [← hv]; show ((l == 0) && _) = _; rw [h1, h2]; rfl
          have H2 := Lib.hid h2
          clear hv h2
          go_enter Tryz.func60, Tryz.ntmps60
          go_wp2_with fail
          refine (specInIs _ 0 4 _ true (by decide)).mono ?_
          rintro e w1 ⟨rfl, rfl⟩
          go_wp2_with fail
          refine (specNameOk s _ hs true H2.out).mono ?_
          rintro e w1 ⟨rfl, rfl⟩
          go_wp2_with fail
          go_ret
          exact ⟨by rw [HV.out]; rfl, HB.out⟩
  · have HV : Hid (v = false) := by
      unfold Hid
      rw [← hv, typeOkB, if_neg (by omega), if_neg (by omega), if_neg (by omega)]
    have HI : Hid (inI k 0 4 = false) := by
      unfold Hid inI
      rw [Bool.and_eq_false_iff, decide_eq_false_iff_not, decide_eq_false_iff_not]
      omega
    clear hv hk
    go_enter Tryz.func60, Tryz.ntmps60
    go_wp2_with fail
    refine (specInIs _ 0 4 _ false HI.out).mono ?_
    rintro e w1 ⟨rfl, rfl⟩
    go_wp2_with fail
    go_ret
    exact ⟨by rw [HV.out]; rfl, HB.out⟩

end Go.Proofs.YtpdcmmhhgnackaaGreatDoor

namespace Go.Proofs.YtpdcmmhhgnackaaGreatDoor
open Go.RowKit

theorem drew_heap (W : World) : W.drew.heap = W.heap := rfl

theorem blockCells {W w1 : World} (hb : Below W.heap.size W w1) : (∀ b o, b < W.heap.size → w1.cell? ⟨b, o, none⟩ = W.cell? ⟨b, o, none⟩) ∧ (∀ b o, b < W.heap.size → w1.frozen? ⟨b, o, none⟩ = W.frozen? ⟨b, o, none⟩) :=
  ⟨fun b o h => hb.cell (p := ⟨b, o, none⟩) h, fun b o h => hb.frozen (p := ⟨b, o, none⟩) h⟩

theorem below_setCell {B : Nat} {w0 w : World} (h : Below B w0 w) {q j : Nat} {v : Value} (hB : B ≤ w.heap.size) (hq : B ≤ q) : Below B w0 (w.setCell ⟨q, j, none⟩ v) :=
  h.grown (row := some q) ⟨rfl, rfl, rfl, by simp [World.setCell], fun k _ hne => Below.heap_setCell _ _ _ _ (fun e => hne (by rw [e]))⟩ hB (fun k hk => by cases hk; exact hq)

theorem size_setCell (w : World) (a : Addr) (v : Value) : (w.setCell a v).heap.size = w.heap.size := by simp [World.setCell]

set_option maxHeartbeats 2000000 in
theorem implTypeOk (k l : Int) (s : ByteArray) (w : World) (hk : (Lit.int .i64 k).wf = true) (v : Bool) (hv : typeOkB k l s = v) :
    Calls Tryz.prog 73 #[.agg #[.int .i64 k, .int .i64 l, .string s]] w fun e w' => e = .returned (.bool v) ∧ Below w.heap.size w w' := by
  have hlay := Lib.hid (lay1_new w 29 k l s)
  by_cases hr : 0 ≤ k ∧ k ≤ 4
  · obtain ⟨f, mn, mx, nm, hf, hfit⟩ := typeOk_eq k l s hr
    have hd : decide (0 ≤ k ∧ k ≤ 4) = true := decide_eq_true hr
    have HL : Hid (∀ (W : World) (b : Nat), W.ownsMap Tryz.prog 3 formR b 5 formsD → (Instr.lookup 116 (.map (some b)) (.int .i64 k) true).run Tryz.prog W = .ok (.tuple #[.agg #[.string f, .int .i64 mn, .int .i64 mx, .bool nm], .bool true]) W) :=
      fun W b h => by rw [lookForm h k hk, hf, hd]
    have HF : Hid (fitsB mn mx nm l s = v) := hfit.trans hv
    clear hf hfit hv hr hd hk
    go_enter Tryz.func73, Tryz.ntmps73
    go_wp2_with fail
    generalize w.alloc (.cells #[.int .i64 k, .int .i64 l, .string s] 29) = W0 at hlay ⊢
    obtain ⟨⟨c0, c1, c2⟩, hlt0, hb0⟩ := hlay.out
    have hne : ¬ W0.heap.size = w.heap.size := by omega
    have hne' : ¬ w.heap.size = W0.heap.size := by omega
    have hst : Hid (∀ a b : World, W0.heap.size ≤ a.heap.size → (a.cell? ⟨w.heap.size, 0, none⟩ = some (.int .i64 k) ∧ a.cell? ⟨w.heap.size, 1, none⟩ = some (.int .i64 l) ∧ a.cell? ⟨w.heap.size, 2, none⟩ = some (.string s)) → Below a.heap.size a b → (b.cell? ⟨w.heap.size, 0, none⟩ = some (.int .i64 k) ∧ b.cell? ⟨w.heap.size, 1, none⟩ = some (.int .i64 l) ∧ b.cell? ⟨w.heap.size, 2, none⟩ = some (.string s))) :=
      fun a b hle h hb => ⟨(hb.cell (p := ⟨w.heap.size, 0, none⟩) (Nat.lt_of_lt_of_le hlt0 hle)).trans h.1, (hb.cell (p := ⟨w.heap.size, 1, none⟩) (Nat.lt_of_lt_of_le hlt0 hle)).trans h.2.1, (hb.cell (p := ⟨w.heap.size, 2, none⟩) (Nat.lt_of_lt_of_le hlt0 hle)).trans h.2.2⟩
    have HB0 := Lib.hid hb0
    clear hb0
    go_region_held3 (fun w' => w'.cell? ⟨w.heap.size, 0, none⟩ = some (.int .i64 k) ∧ w'.cell? ⟨w.heap.size, 1, none⟩ = some (.int .i64 l) ∧ w'.cell? ⟨w.heap.size, 2, none⟩ = some (.string s))
      (go_keep)
      ((go_at_call 80; refine (implForms _).mono ?_; rintro e w1 ⟨rfl, o1, b1⟩; have q1 := HL.out _ _ o1; have q2 := fun o => HL.out _ _ (World.ownsMap.alloc o1 o); obtain ⟨hcw, hfw⟩ := blockCells b1; (try simp only [World.size_alloc, drew_heap] at q1 q2); obtain ⟨d0, d1, d2⟩ := hst.out _ _ (by simp) (by assumption) b1; have O1 := Lib.hid o1; have B1 := Lib.hid b1; clear o1 b1))
    · go_wp2_with fail
      refine (implFits f mn mx nm k l s _ v HF.out).mono ?_
      rintro e w9 ⟨rfl, b9⟩
      go_wp2_with fail
      go_ret
      have h0 := HB0.out.drew
      have h1 : Below w.heap.size w w1 := h0.trans (B1.out.mono h0.size)
      have h2 := h1.alloc h1.size (.cells #[.string f, .int .i64 mn, .int .i64 mx, .bool nm] 114)
      exact ⟨rfl, h2.trans (b9.mono h2.size)⟩
    · go_wp2_with fail
      refine (implFits f mn mx nm k l s _ v HF.out).mono ?_
      rintro e w9 ⟨rfl, b9⟩
      go_wp2_with fail
      go_ret
      have h0 := HB0.out.drew
      have h1 : Below w.heap.size w w1 := h0.trans (B1.out.mono h0.size)
      have h2 := h1.alloc h1.size (.cells #[.string f, .int .i64 mn, .int .i64 mx, .bool nm] 114)
      exact ⟨rfl, h2.trans (b9.mono h2.size)⟩
    · go_wp2_with fail
      refine (implFits f mn mx nm k l s _ v HF.out).mono ?_
      rintro e w9 ⟨rfl, b9⟩
      go_wp2_with fail
      go_ret
      have h0 := HB0.out.drew
      have h0a := h0.alloc h0.size (.cells #[.string ⟨#[]⟩, .int .i64 0, .int .i64 0, .bool false] 114)
      have h1 : Below w.heap.size w w1 := h0a.trans (B1.out.mono h0a.size)
      have hq : w.heap.size ≤ W0.heap.size := Nat.le_of_lt hlt0
      have s1 := below_setCell (j := 0) (v := .string f) h1 h1.size hq
      have s2 := below_setCell (j := 1) (v := .int .i64 mn) s1 s1.size hq
      have s3 := below_setCell (j := 2) (v := .int .i64 mx) s2 s2.size hq
      have h2 := below_setCell (j := 3) (v := .bool nm) s3 s3.size hq
      exact ⟨rfl, h2.trans (b9.mono h2.size)⟩
  · have hd : decide (0 ≤ k ∧ k ≤ 4) = false := decide_eq_false hr
    obtain ⟨f, mn, mx, nm, hf⟩ : ∃ f mn mx nm, formOf k = .agg #[.string f, .int .i64 mn, .int .i64 mx, .bool nm] := ⟨⟨#[]⟩, 0, 0, false, by
      unfold formOf
      rw [if_neg (by omega), if_neg (by omega), if_neg (by omega), if_neg (by omega), if_neg (by omega)]
      rfl⟩
    have HL : Hid (∀ (W : World) (b : Nat), W.ownsMap Tryz.prog 3 formR b 5 formsD → (Instr.lookup 116 (.map (some b)) (.int .i64 k) true).run Tryz.prog W = .ok (.tuple #[.agg #[.string f, .int .i64 mn, .int .i64 mx, .bool nm], .bool false]) W) :=
      fun W b h => by rw [lookForm h k hk, hf, hd]
    have HF : Hid (v = false) := by
      unfold Hid
      rw [← hv, typeOkB, if_neg (by omega), if_neg (by omega), if_neg (by omega)]
    clear hf hv hr hd hk
    go_enter Tryz.func73, Tryz.ntmps73
    go_wp2_with fail
    generalize w.alloc (.cells #[.int .i64 k, .int .i64 l, .string s] 29) = W0 at hlay ⊢
    obtain ⟨⟨c0, c1, c2⟩, hlt0, hb0⟩ := hlay.out
    have hne : ¬ W0.heap.size = w.heap.size := by omega
    have hne' : ¬ w.heap.size = W0.heap.size := by omega
    have hst : Hid (∀ a b : World, W0.heap.size ≤ a.heap.size → (a.cell? ⟨w.heap.size, 0, none⟩ = some (.int .i64 k) ∧ a.cell? ⟨w.heap.size, 1, none⟩ = some (.int .i64 l) ∧ a.cell? ⟨w.heap.size, 2, none⟩ = some (.string s)) → Below a.heap.size a b → (b.cell? ⟨w.heap.size, 0, none⟩ = some (.int .i64 k) ∧ b.cell? ⟨w.heap.size, 1, none⟩ = some (.int .i64 l) ∧ b.cell? ⟨w.heap.size, 2, none⟩ = some (.string s))) :=
      fun a b hle h hb => ⟨(hb.cell (p := ⟨w.heap.size, 0, none⟩) (Nat.lt_of_lt_of_le hlt0 hle)).trans h.1, (hb.cell (p := ⟨w.heap.size, 1, none⟩) (Nat.lt_of_lt_of_le hlt0 hle)).trans h.2.1, (hb.cell (p := ⟨w.heap.size, 2, none⟩) (Nat.lt_of_lt_of_le hlt0 hle)).trans h.2.2⟩
    have HB0 := Lib.hid hb0
    clear hb0
    go_region_held3 (fun w' => w'.cell? ⟨w.heap.size, 0, none⟩ = some (.int .i64 k) ∧ w'.cell? ⟨w.heap.size, 1, none⟩ = some (.int .i64 l) ∧ w'.cell? ⟨w.heap.size, 2, none⟩ = some (.string s))
      (go_keep)
      ((go_at_call 80; refine (implForms _).mono ?_; rintro e w1 ⟨rfl, o1, b1⟩; have q1 := HL.out _ _ o1; have q2 := fun o => HL.out _ _ (World.ownsMap.alloc o1 o); obtain ⟨hcw, hfw⟩ := blockCells b1; (try simp only [World.size_alloc, drew_heap] at q1 q2); obtain ⟨d0, d1, d2⟩ := hst.out _ _ (by simp) (by assumption) b1; have O1 := Lib.hid o1; have B1 := Lib.hid b1; clear o1 b1))
    · go_wp2_with fail
      go_ret
      have h0 := HB0.out.drew
      have h1 : Below w.heap.size w w1 := h0.trans (B1.out.mono h0.size)
      have h2 := h1.alloc h1.size (.cells #[.string f, .int .i64 mn, .int .i64 mx, .bool nm] 114)
      exact ⟨by rw [HF.out]; rfl, h2⟩
    · go_wp2_with fail
      go_ret
      have h0 := HB0.out.drew
      have h1 : Below w.heap.size w w1 := h0.trans (B1.out.mono h0.size)
      have h2 := h1.alloc h1.size (.cells #[.string f, .int .i64 mn, .int .i64 mx, .bool nm] 114)
      exact ⟨by rw [HF.out]; rfl, h2⟩
    · go_wp2_with fail
      go_ret
      have h0 := HB0.out.drew
      have h0a := h0.alloc h0.size (.cells #[.string ⟨#[]⟩, .int .i64 0, .int .i64 0, .bool false] 114)
      have h1 : Below w.heap.size w w1 := h0a.trans (B1.out.mono h0a.size)
      have hq : w.heap.size ≤ W0.heap.size := Nat.le_of_lt hlt0
      have s1 := below_setCell (j := 0) (v := .string f) h1 h1.size hq
      have s2 := below_setCell (j := 1) (v := .int .i64 mn) s1 s1.size hq
      have s3 := below_setCell (j := 2) (v := .int .i64 mx) s2 s2.size hq
      have h2 := below_setCell (j := 3) (v := .bool nm) s3 s3.size hq
      exact ⟨by rw [HF.out]; rfl, h2⟩

end Go.Proofs.YtpdcmmhhgnackaaGreatDoor

namespace Go.Proofs.YtpdcmmhhgnackaaGreatDoor
open Go.RowKit

def hasB (xs : List ByteArray) (s : ByteArray) : Bool := xs.any fun x => x.toList == s.toList

theorem hasB_take (xs : List ByteArray) (s : ByteArray) (k : Nat) (h : k < xs.length) : hasB (xs.take (k + 1)) s = (hasB (xs.take k) s || xs[k].toList == s.toList) := by
  unfold hasB
  rw [List.take_succ_eq_append_getElem h, List.any_append]
  simp only [List.any_cons, List.any_nil, Bool.or_false]

theorem hasB_hit (xs : List ByteArray) (s : ByteArray) (k : Nat) (h : k < xs.length) (he : (xs[k].toList == s.toList) = true) : hasB xs s = true :=
  List.any_eq_true.2 ⟨xs[k], List.getElem_mem h, he⟩

set_option maxHeartbeats 400000 in
theorem specHas (a : Option Addr) (c : Nat) (xs : List ByteArray) (s : ByteArray) (w : World) (hx : Strs w a c xs) :
    Calls Tryz.prog 63 #[.slice a xs.length c, .string s] w (Quiet w (.bool (hasB xs s))) := by
  have hl := hx.len
  go_enter Tryz.func63, Tryz.ntmps63
  go_wp2
  go_loop [5] (fun i => ∃ k : Nat, k ≤ xs.length ∧ i = .int .i64 k ∧ Hid (hasB (xs.take k) s = false)) (fun i => xs.length - (intOf i).toNat)
  case atStart => exact ⟨0, Nat.zero_le _, rfl, rfl⟩
  case round =>
    obtain ⟨k, hk, rfl, hno⟩ := hrel
    by_cases hlt : k < xs.length
    · obtain ⟨b, off, rfl, hb, hc⟩ := hx.spot hlt
      cases he : (xs[k].toList == s.toList) with
      | true =>
        have H := Lib.hid (hasB_hit xs s k hlt he)
        go_wp2
        go_ret
        exact ⟨by rw [H.out]; rfl, 0, rfl⟩
      | false =>
        have H : Hid (hasB (xs.take (k + 1)) s = false) := by unfold Hid; rw [hasB_take xs s k hlt, hno.out, he]; rfl
        go_wp2
        go_round
        case rel => exact ⟨k + 1, by omega, by go_num, H⟩
        case measure => simp [intOf]; omega
    · have H : Hid (hasB xs s = false) := by have := hno.out; rwa [List.take_of_length_le (by omega)] at this
      go_wp2
      go_ret
      exact ⟨by rw [H.out]; rfl, 0, rfl⟩

theorem beq_flip (a b : List UInt8) : (a == b) = (b == a) := by
  rw [Bool.eq_iff_iff, beq_iff_eq, beq_iff_eq]; exact eq_comm

end Go.Proofs.YtpdcmmhhgnackaaGreatDoor

namespace Go.Proofs.YtpdcmmhhgnackaaGreatDoor
open Go.RowKit

/-- The reserved words, byte by byte. -/
def keptW : List (List UInt8) := [[97, 100, 100], [97, 108, 108], [97, 108, 116, 101, 114], [97, 110, 100], [97, 115], [98, 111, 111, 108], [99, 104, 97, 114], [99, 104, 101, 99, 107], [99, 111, 108, 117, 109, 110], [99, 111, 110, 115, 116, 114, 97, 105, 110, 116], [99, 114, 101, 97, 116, 101], [100, 101, 102, 97, 117, 108, 116], [100, 114, 111, 112], [101, 110, 117, 109], [102, 97, 108, 115, 101], [102, 111, 114, 101, 105, 103, 110], [102, 114, 111, 109], [105, 110, 100, 101, 120], [105, 110, 116], [105, 115], [107, 101, 121], [110, 111, 116], [110, 117, 108, 108], [111, 110], [111, 114], [112, 114, 105, 109, 97, 114, 121], [114, 101, 102, 101, 114, 101, 110, 99, 101, 115], [115, 101, 108, 101, 99, 116], [115, 101, 113, 117, 101, 110, 99, 101], [115, 101, 116], [115, 116, 97, 114, 116], [116, 97, 98, 108, 101], [116, 101, 120, 116], [116, 111], [116, 114, 117, 101], [116, 121, 112, 101], [117, 110, 105, 113, 117, 101], [118, 105, 101, 119], [119, 104, 101, 114, 101]]
def keptB (l : List UInt8) : Bool := keptW.any fun x => l == x

theorem kept_hit {l x : List UInt8} (hx : x ∈ keptW) (h : (l == x) = true) : keptB l = true := List.any_eq_true.2 ⟨x, hx, h⟩

set_option maxRecDepth 100000 in
set_option maxHeartbeats 4000000 in
theorem implReserved (s : ByteArray) (w : World) (v : Bool) (hv : keptB s.toList = v) :
    Calls Tryz.prog 77 #[.string s] w fun e w' => e = .returned (.bool v) ∧ w = w' := by
  have HV := Lib.hid hv
  clear hv
  go_enter Tryz.func77, Tryz.ntmps77
  go_wp2_with fail
  all_goals first
    | (rename_i ha hb; exact Bool.noConfusion (ha.symm.trans hb))
    | (rename_i ha hb; go_ret; exact ⟨by rw [← HV.out, kept_hit (by decide) hb]; rfl, rfl⟩)
    | (have HN : Hid (keptB s.toList = false) := by
         unfold Hid keptB keptW
         simp only [List.any_cons, List.any_nil, *, Bool.or_false]
       go_ret
       exact ⟨by rw [← HV.out, HN.out]; rfl, rfl⟩)

end Go.Proofs.YtpdcmmhhgnackaaGreatDoor

namespace Go.Proofs.YtpdcmmhhgnackaaGreatDoor
open Go.RowKit

def dbl (q : UInt8) (t : List UInt8) : List UInt8 := t.flatMap fun b => if b = q then [q, b] else [b]
def quoteT (s : ByteArray) (q : UInt8) : ByteArray := ⟨(quoteL q s.data.toList).toArray⟩

theorem dbl_eq (q : UInt8) (s : ByteArray) (k : Nat) (h : k < s.size) (he : s[k] = q) : dbl q (s.data.toList.take (k + 1)) = dbl q (s.data.toList.take k) ++ [q] ++ [s[k]] := by
  unfold dbl
  rw [take_snoc s k h, List.flatMap_append]
  simp [he]
theorem dbl_ne (q : UInt8) (s : ByteArray) (k : Nat) (h : k < s.size) (he : s[k] ≠ q) : dbl q (s.data.toList.take (k + 1)) = dbl q (s.data.toList.take k) ++ [s[k]] := by
  unfold dbl
  rw [take_snoc s k h, List.flatMap_append]
  simp [he]
theorem dbl_len (q : UInt8) (t : List UInt8) : (dbl q t).length ≤ 2 * t.length := by
  unfold dbl
  induction t with
  | nil => simp
  | cons b r ih =>
    rw [List.flatMap_cons, List.length_append, List.length_cons]
    split
    · simp only [List.length_cons, List.length_nil]; omega
    · simp only [List.length_cons, List.length_nil]; omega

set_option maxHeartbeats 1000000 in
theorem specQuote (s : ByteArray) (y : UInt8) (w : World) (hs : s.size ≤ 1048576) :
    Calls Tryz.prog 67 #[.string s, .int .u8 (y.toNat : Int)] w fun e w' => e = .returned (.string (quoteT s y)) ∧ Below w.heap.size w w' := by
  obtain ⟨i0, hi0, hz0, hz1, hz2⟩ := info_parts Tryz.infoByte
  have hy := byte_le y
  go_enter Tryz.func67, Tryz.ntmps67
  go_wp2
  go_loopw [5, 6] (fun v i wr => ∃ (k : Nat) (a1 : Option Addr) (c1 : Nat) (l1 : List UInt8), k ≤ s.size ∧ i = .int .i64 k ∧ v = .slice a1 l1.length c1 ∧ Hid (l1 = y :: dbl y (s.data.toList.take k)) ∧ OwnB wr w.heap.size a1 c1 l1 ∧ Below w.heap.size w wr) (fun _ i _ => s.size - (intOf i).toNat)
  case atStart => exact ⟨0, _, _, [y], Nat.zero_le _, rfl, rfl, rfl, ownBOne w y, (Below.refl _ _).alloc (Nat.le_refl _) _⟩
  case round =>
    obtain ⟨k, a1, c1, l1, hk, rfl, rfl, hl1, hown, hb⟩ := hrel
    have hsz := hb.size
    have hlk : l1.length ≤ 3000000 := by
      have h1 := dbl_len y (s.data.toList.take k)
      have h2 : (s.data.toList.take k).length ≤ k := List.length_take_le _ _
      rw [hl1.out]
      simp only [List.length_cons]
      omega
    by_cases hlt : k < s.size
    · have hby := byte_le s[k]
      by_cases he : s[k] = y
      · have HS := Lib.hid (dbl_eq y s k hlt he)
        have ht := byte_eq he
        have HE := Lib.hid he
        clear he
        go_wp2_with (first
          | ((at_builtin; refine wpAppendByte rfl (.tmp 20) (.tmp 22) rfl i0 hi0 hz0 hz1 hz2 w.heap.size a1 c1 l1 wr.heap.size y rfl (hown.alloc _) rfl (by simp) (by omega) (by simp; omega) ?_; intro a2 c2 w2 l2 hl2 hown2 hg2 _); (have hb2 : Below w.heap.size w w2 := (hb.alloc hsz _).grown hg2 (by simp; omega) (fun q hq => (hown.lt hq).1)); (have hsz2 := hb2.size); (have hlk2 : l2.length ≤ 3000001 := by rw [hid_len hl2]; omega))
          | (at_builtin; refine wpAppendByte rfl (.tmp 24) (.tmp 28) rfl i0 hi0 hz0 hz1 hz2 w.heap.size a2 c2 l2 w2.heap.size s[k] rfl (hown2.alloc _) rfl (by simp) (by omega) (by simp; omega) ?_; intro a3 c3 w3 l3 hl3 hown3 hg3 _))
        have hb3 : Below w.heap.size w w3 := (hb2.alloc hsz2 _).grown hg3 (by simp; omega) (fun q hq => (hown2.lt hq).1)
        go_roundw
        case rel => exact ⟨k + 1, a3, c3, l3, by omega, by go_num, rfl, by unfold Hid; rw [hl3.out, hl2.out, hl1.out, HS.out]; simp, hown3, hb3⟩
        case measure => simp [intOf]; omega
      · have HS := Lib.hid (dbl_ne y s k hlt he)
        have ht := byte_ne he
        have HE := Lib.hid he
        clear he
        go_wp2_with (at_builtin; refine wpAppendByte rfl (.tmp 24) (.tmp 28) rfl i0 hi0 hz0 hz1 hz2 w.heap.size a1 c1 l1 wr.heap.size s[k] rfl (hown.alloc _) rfl (by simp) (by omega) (by simp; omega) ?_; intro a3 c3 w3 l3 hl3 hown3 hg3 _)
        have hb3 : Below w.heap.size w w3 := (hb.alloc hsz _).grown hg3 (by simp; omega) (fun q hq => (hown.lt hq).1)
        go_roundw
        case rel => exact ⟨k + 1, a3, c3, l3, by omega, by go_num, rfl, by unfold Hid; rw [hl3.out, hl1.out, HS.out]; simp, hown3, hb3⟩
        case measure => simp [intOf]; omega
    · obtain rfl : k = s.size := by omega
      have HQ : Hid (quoteL y s.data.toList = l1 ++ [y]) := by
        unfold Hid
        rw [hl1.out, List.take_of_length_le (by simp)]
        simp [quoteL, dbl]
      go_wp2_with (at_builtin; refine wpAppendByte rfl (.tmp 30) (.tmp 32) rfl i0 hi0 hz0 hz1 hz2 w.heap.size a1 c1 l1 wr.heap.size y rfl (hown.alloc _) rfl (by simp) (by omega) (by simp; omega) ?_; intro a3 c3 w3 l3 hl3 hown3 hg3 _; have hcv := convBytes hown3)
      have hb3 : Below w.heap.size w w3 := (hb.alloc hsz _).grown hg3 (by simp; omega) (fun q hq => (hown.lt hq).1)
      go_ret
      exact ⟨by rw [quoteT, HQ.out, ← hl3.out]; rfl, hb3⟩

end Go.Proofs.YtpdcmmhhgnackaaGreatDoor

namespace Go.Proofs.YtpdcmmhhgnackaaGreatDoor
open Go.RowKit

def smallB (b : UInt8) : Bool := decide (b.toNat = 95) || (decide (97 ≤ b.toNat) && decide (b.toNat ≤ 122))
def okB (b : UInt8) : Bool := smallB b || digitB b
def plainB (l : List UInt8) : Bool := !l.isEmpty && (!digitB (l.headD 0) && l.all okB)
/-- How a name is written. -/
def nameT (s : ByteArray) : ByteArray := if plainB s.data.toList && !keptB s.data.toList then s else quoteT s 34

theorem head_get (s : ByteArray) (h : 0 < s.size) : s.data.toList.headD 0 = s[0] := by
  have hl : s.data.toList.length = s.size := by simp
  match hs : s.data.toList, hl with
  | [], hl => simp at hl; omega
  | b :: r, _ =>
    have : s[0] = s.data.toList[0]'(by rw [hs]; simp) := rfl
    rw [this]
    simp [hs]

theorem list_get (s : ByteArray) (k : Nat) (h : k < s.size) : s.data.toList[k]'(by simpa using h) = s[k] := rfl

theorem plain_no (s : ByteArray) (k : Nat) (h : k < s.size) (hb : okB s[k] = false ∨ (k = 0 ∧ digitB s[k] = true)) : plainB s.data.toList = false := by
  unfold plainB
  rcases hb with hb | ⟨rfl, hb⟩
  · have : s.data.toList.all okB = false := by
      rw [List.all_eq_false]
      exact ⟨s[k], by rw [← list_get s k h]; exact List.getElem_mem _, by rw [hb]; simp⟩
    rw [this]; simp
  · rw [head_get s h, hb]; simp

theorem plain_yes (s : ByteArray) (h0 : 0 < s.size) (h : ∀ (j : Nat) (hj : j < s.size), okB s[j] = true) (hd : digitB s[0] = false) : plainB s.data.toList = true := by
  have hl : s.data.toList.length = s.size := by simp
  unfold plainB
  have h1 : s.data.toList.isEmpty = false := by rw [List.isEmpty_eq_false_iff]; intro e; rw [e] at hl; simp at hl; omega
  have h2 : s.data.toList.all okB = true := by
    rw [List.all_eq_true]
    intro b hb
    obtain ⟨k, hk, rfl⟩ := List.mem_iff_getElem.1 hb
    exact h k (by omega)
  rw [h1, h2, head_get s h0, hd]
  rfl

theorem plain_empty (s : ByteArray) (h0 : s.size = 0) : plainB s.data.toList = false := by
  have hl : s.data.toList.length = s.size := by simp
  have : s.data.toList = [] := List.length_eq_zero_iff.1 (by omega)
  rw [this]; rfl

theorem ok_of_small {b : UInt8} (h : b.toNat = 95 ∨ (97 ≤ b.toNat ∧ b.toNat ≤ 122)) : okB b = true ∧ digitB b = false := by
  unfold okB smallB digitB
  rcases h with h | ⟨h1, h2⟩
  · rw [h]; decide
  · have e1 : decide (97 ≤ b.toNat) = true := by simpa using h1
    have e2 : decide (b.toNat ≤ 122) = true := by simpa using h2
    have e3 : decide (b.toNat ≤ 57) = false := by simp; omega
    rw [e1, e2, e3]; simp
theorem ok_of_digit {b : UInt8} (h : 48 ≤ b.toNat ∧ b.toNat ≤ 57) : okB b = true ∧ digitB b = true := by
  have : digitB b = true := by unfold digitB; simp [h.1, h.2]
  exact ⟨by unfold okB; rw [this]; simp, this⟩
theorem ok_no {b : UInt8} (h1 : b.toNat ≠ 95) (h2 : ¬(97 ≤ b.toNat ∧ b.toNat ≤ 122)) (h3 : ¬(48 ≤ b.toNat ∧ b.toNat ≤ 57)) : okB b = false := by
  unfold okB smallB digitB
  rw [Bool.eq_false_iff]
  simp only [ne_eq, Bool.or_eq_true, Bool.and_eq_true, decide_eq_true_eq]
  omega

end Go.Proofs.YtpdcmmhhgnackaaGreatDoor

namespace Go.Proofs.YtpdcmmhhgnackaaGreatDoor
open Go.RowKit

def keptL : List ByteArray := keptW.map fun l => ⟨l.toArray⟩

theorem has_kept (s : ByteArray) : hasB keptL s = keptB s.data.toList := by
  unfold hasB keptL keptB
  rw [List.any_map]
  congr 1
  funext x
  simp only [Function.comp]
  rw [beq_flip, Lib.toList_data, Lib.toList_data]

/-- A new row of texts that is laid in one go. -/
theorem rowLit (w : World) (xs : List ByteArray) (hs : ∀ s ∈ xs, s.size ≤ maxLen) (hn : xs.length ≤ 1000000) :
    Strs (w.alloc (.cells (xs.map Value.string).toArray 9)) (some ⟨w.heap.size, 0, none⟩) xs.length xs := by
  refine ⟨Nat.le_refl _, by unfold maxLen; omega, hs, (fun h => by cases h), fun _ => ⟨w.heap.size, 0, rfl, by simp, fun i hi => ?_⟩⟩
  rw [cell_of_row _ _ _ _ _ _ (heap_alloc_new w _)]
  simp [hi]

theorem keptL_small : ∀ s ∈ keptL, s.size ≤ 10 := by unfold keptL keptW; decide

set_option maxRecDepth 100000 in
set_option maxHeartbeats 1000000 in
theorem specKept (w : World) : Calls Tryz.prog 64 #[] w fun e w' => e = .returned (.slice (some ⟨w.heap.size, 0, none⟩) 39 39) ∧ Strs w' (some ⟨w.heap.size, 0, none⟩) 39 keptL ∧ Below w.heap.size w w' := by
  have hst := Lib.hid (rowLit w keptL (fun s hs => by have := keptL_small s hs; unfold maxLen; omega) (by decide))
  go_enter Tryz.func64, Tryz.ntmps64
  go_wp2_with fail
  go_ret
  exact ⟨rfl, hst.out, (Below.refl _ _).alloc (Nat.le_refl _) _⟩

theorem specHasKept (w : World) (a : Option Addr) (s : ByteArray) (h : Strs w a 39 keptL) (v : Bool) (hv : keptB s.data.toList = v) :
    Calls Tryz.prog 63 #[.slice a 39 39, .string s] w fun e w' => e = .returned (.bool v) ∧ Below w.heap.size w w' := by
  have := specHas a 39 keptL s w h
  rw [has_kept, hv] at this
  refine this.mono ?_
  rintro e w' ⟨he, n, rfl⟩
  exact ⟨he, below_drewN (Below.refl _ _) n⟩

theorem okB_eq (b : UInt8) : okB b = (moreB b && !inI (b.toNat : Int) 65 90) := by
  rw [Bool.eq_iff_iff]
  simp only [okB, smallB, moreB, letterB, digitB, inI, Bool.or_eq_true, Bool.and_eq_true, decide_eq_true_eq, Bool.not_eq_true', Bool.and_eq_false_iff, decide_eq_false_iff_not, beq_iff_eq]
  constructor
  · intro h; omega
  · intro h; omega

theorem all_step (s : ByteArray) (k : Nat) (h : k < s.size) : (s.data.toList.take (k + 1)).all okB = ((s.data.toList.take k).all okB && okB s[k]) := by
  have hl : k < s.data.toList.length := by simpa using h
  rw [List.take_succ_eq_append_getElem hl, List.all_append]
  simp only [List.all_cons, List.all_nil, Bool.and_true]
  rfl

set_option maxHeartbeats 4000000 in
theorem specPutName (s : ByteArray) (w : World) (hs : s.size ≤ 1048576) (r : ByteArray) (hr : nameT s = r) :
    Calls Tryz.prog 24 #[.string s] w fun e w' => e = .returned (.string r) ∧ Below w.heap.size w w' := by
  by_cases h0 : s.size = 0
  · have HR : Hid (quoteT s 34 = r) := by unfold Hid; rw [← hr, nameT, plain_empty s h0]; rfl
    have hse : s.toList = [] := by rw [Lib.toList_data]; exact List.length_eq_zero_iff.1 (by simpa using h0)
    have hn : (!(s.toList == [])) = false := by rw [hse]; rfl
    have hn2 : s.toList.isEmpty = true := by rw [hse]; rfl
    clear hr hse h0
    go_enter Tryz.func24, Tryz.ntmps24
    go_wp2_with fail
    go_loop [3, 4] (fun p i => p = .bool false ∧ ∃ k : Nat, k ≤ s.size ∧ i = .int .i64 k) (fun _ i => s.size - (intOf i).toNat)
    case atStart => exact ⟨rfl, 0, Nat.zero_le _, rfl⟩
    case round =>
      obtain ⟨rfl, k, hk, rfl⟩ := hrel
      by_cases hlt : k < s.size
      · go_wp2_with fail
        exact ⟨⟨rfl, k + 1, by omega, by go_num⟩, by simp [intOf]; omega⟩
      · go_wp2_with fail
        refine (specQuote s 34 _ hs).mono ?_
        rintro e w9 ⟨rfl, b9⟩
        go_wp2_with fail
        go_ret
        exact ⟨by rw [← HR.out]; rfl, b9⟩
  · have hpos : 0 < s.size := by omega
    have hne : s.toList ≠ [] := by
      intro e
      rw [Lib.toList_data] at e
      have h2 : s.data.toList.length = 0 := by rw [e]; rfl
      have h3 : s.data.toList.length = s.size := by simp
      omega
    have hn : (!(s.toList == [])) = true := by simpa using hne
    have hn2 : s.toList.isEmpty = false := List.isEmpty_eq_false_iff.2 hne
    have hby := byte_le s[0]
    have hsz : (0 : Int) < (s.size : Int) := by omega
    cases hd : digitB s[0] with
    | true =>
      have HR : Hid (quoteT s 34 = r) := by unfold Hid; rw [← hr, nameT, plain_no s 0 hpos (.inr ⟨rfl, hd⟩)]; rfl
      have HD := Lib.hid hd
      clear hr hne h0 hd
      go_enter Tryz.func24, Tryz.ntmps24
      go_wp2_with fail
      refine (specDigitB s[0] _ true HD.out).mono ?_
      rintro e w1 ⟨rfl, rfl⟩
      go_wp2_with fail
      go_loop [3, 4] (fun p i => p = .bool false ∧ ∃ k : Nat, k ≤ s.size ∧ i = .int .i64 k) (fun _ i => s.size - (intOf i).toNat)
      case atStart => exact ⟨rfl, 0, Nat.zero_le _, rfl⟩
      case round =>
        obtain ⟨rfl, k, hk, rfl⟩ := hrel
        by_cases hlt : k < s.size
        · go_wp2_with fail
          exact ⟨⟨rfl, k + 1, by omega, by go_num⟩, by simp [intOf]; omega⟩
        · go_wp2_with fail
          refine (specQuote s 34 _ hs).mono ?_
          rintro e w9 ⟨rfl, b9⟩
          go_wp2_with fail
          go_ret
          exact ⟨by rw [← HR.out]; rfl, b9⟩
    | false =>
      have HD := Lib.hid hd
      cases hq : keptB s.data.toList with
      | true =>
        have HR : Hid (quoteT s 34 = r) := by unfold Hid; rw [← hr, nameT, hq]; simp
        have HQ := Lib.hid hq
        clear hr hne h0 hd hq
        go_enter Tryz.func24, Tryz.ntmps24
        go_wp2_with fail
        refine (specDigitB s[0] _ false HD.out).mono ?_
        rintro e w1 ⟨rfl, rfl⟩
        go_wp2_with fail
        refine (specKept _).mono ?_
        rintro e w2 ⟨rfl, st2, b2⟩
        have HS := Lib.hid st2
        clear st2
        go_wp2_with fail
        refine (specHasKept _ _ s HS.out true HQ.out).mono ?_
        rintro e w3 ⟨rfl, b3⟩
        have B3 := b2.trans (b3.mono b2.size)
        clear HS b2 b3
        go_wp2_with fail
        go_loop [3, 4] (fun p i => p = .bool false ∧ ∃ k : Nat, k ≤ s.size ∧ i = .int .i64 k) (fun _ i => s.size - (intOf i).toNat)
        case atStart => exact ⟨rfl, 0, Nat.zero_le _, rfl⟩
        case round =>
          obtain ⟨rfl, k, hk, rfl⟩ := hrel
          by_cases hlt : k < s.size
          · go_wp2_with fail
            exact ⟨⟨rfl, k + 1, by omega, by go_num⟩, by simp [intOf]; omega⟩
          · go_wp2_with fail
            refine (specQuote s 34 _ hs).mono ?_
            rintro e w9 ⟨rfl, b9⟩
            go_wp2_with fail
            go_ret
            exact ⟨by rw [← HR.out]; rfl, B3.trans (b9.mono B3.size)⟩
      | false =>
        have HR : Hid ((if s.data.toList.all okB then s else quoteT s 34) = r) := by
          unfold Hid
          have he : s.data.toList.isEmpty = false := by rw [← Lib.toList_data]; exact hn2
          rw [← hr, nameT, hq, plainB, he, head_get s hpos, hd]
          simp
        have HQ := Lib.hid hq
        clear hr hne h0 hd hq
        go_enter Tryz.func24, Tryz.ntmps24
        go_wp2_with fail
        refine (specDigitB s[0] _ false HD.out).mono ?_
        rintro e w1 ⟨rfl, rfl⟩
        go_wp2_with fail
        refine (specKept _).mono ?_
        rintro e w2 ⟨rfl, st2, b2⟩
        have HS := Lib.hid st2
        clear st2
        go_wp2_with fail
        refine (specHasKept _ _ s HS.out false HQ.out).mono ?_
        rintro e w3 ⟨rfl, b3⟩
        have B3 := b2.trans (b3.mono b2.size)
        clear HS b2 b3
        go_wp2_with fail
        go_loop [3, 4] (fun p i => ∃ (c : Bool) (k : Nat), p = .bool c ∧ Hid (c = (s.data.toList.take k).all okB) ∧ k ≤ s.size ∧ i = .int .i64 k) (fun _ i => s.size - (intOf i).toNat)
        case atStart => exact ⟨true, 0, rfl, rfl, Nat.zero_le _, rfl⟩
        case round =>
          obtain ⟨c, k, rfl, hc, hk, rfl⟩ := hrel
          by_cases hlt : k < s.size
          · have hbk := byte_le s[k]
            cases c with
            | false =>
              have HN : Hid (false = (s.data.toList.take (k + 1)).all okB) := by unfold Hid; rw [all_step s k hlt, ← hc.out]; rfl
              go_wp2_with fail
              exact ⟨⟨false, k + 1, rfl, HN, by omega, by go_num⟩, by simp [intOf]; omega⟩
            | true =>
              cases hm : moreB s[k] with
              | false =>
                have HN : Hid (false = (s.data.toList.take (k + 1)).all okB) := by unfold Hid; rw [all_step s k hlt, ← hc.out, okB_eq, hm]; rfl
                have HM := Lib.hid hm
                clear hm
                go_wp2_with fail
                refine (specMore s[k] _ false HM.out).mono ?_
                rintro e w4 ⟨rfl, rfl⟩
                go_wp2_with fail
                exact ⟨⟨false, k + 1, rfl, HN, by omega, by go_num⟩, by simp [intOf]; omega⟩
              | true =>
                have HN : Hid ((!inI (s[k].toNat : Int) 65 90) = (s.data.toList.take (k + 1)).all okB) := by unfold Hid; rw [all_step s k hlt, ← hc.out, okB_eq, hm]; simp
                have HM := Lib.hid hm
                clear hm
                go_wp2_with fail
                refine (specMore s[k] _ true HM.out).mono ?_
                rintro e w4 ⟨rfl, rfl⟩
                go_wp2_with fail
                refine (specIn _ 65 90 _).mono ?_
                rintro e w4 ⟨rfl, rfl⟩
                go_wp2_with fail
                exact ⟨⟨_, k + 1, rfl, HN, by omega, by go_num⟩, by simp [intOf]; omega⟩
          · have hke : k = s.size := by omega
            have hall : c = s.data.toList.all okB := by
              rw [hc.out, hke, List.take_of_length_le (by simp)]
            cases c with
            | true =>
              have HR2 : Hid (s = r) := by unfold Hid; rw [← HR.out, ← hall]; rfl
              clear hall hke
              go_wp2_with fail
              go_ret
              exact ⟨by rw [← HR2.out]; rfl, B3⟩
            | false =>
              have HR2 : Hid (quoteT s 34 = r) := by unfold Hid; rw [← HR.out, ← hall]; rfl
              clear hall hke
              go_wp2_with fail
              refine (specQuote s 34 _ hs).mono ?_
              rintro e w9 ⟨rfl, b9⟩
              go_wp2_with fail
              go_ret
              exact ⟨by rw [← HR2.out]; rfl, B3.trans (b9.mono B3.size)⟩

end Go.Proofs.YtpdcmmhhgnackaaGreatDoor
