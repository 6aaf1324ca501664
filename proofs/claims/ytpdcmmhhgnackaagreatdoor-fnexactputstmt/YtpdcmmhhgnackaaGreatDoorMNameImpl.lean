/- The program's names: impl.NameOk. -/
/- The laws' own helpers over types: the size and the copy. -/
/- The forms' fits, and the model's TypeOk. -/
/- spec.Has and impl.Has both answer whether a text stands in a list. -/
/- The reserved words: impl.isReserved and the model's list. -/
/- Expressions: how they are written as words, and how they are read: plain mathematics. -/
/- spec.Quote answers the text between quotes, each of its quotes doubled. -/
/- Which names are written plainly: by bytes. -/
/- A number comes back from its numeral: plain mathematics. -/
/- Expressions: what is written is read back. -/
/- spec.Nodes counts the nodes. -/
import Derived.Test.YtpdcmmhhgnackaaGreatDoorMPl
import Derived.Test.YtpdcmmhhgnackaaGreatDoorMShelf
import Derived.IntWalk
import Derived.Test.YtpdcmmhhgnackaaGreatDoorMMem
import Derived.Deep.RegionHeld3
namespace Go.Proofs.YtpdcmmhhgnackaaGreatDoor
open Go.RowKit

theorem index_lt (l : List UInt8) (c : UInt8) : -1 ≤ Lib.indexByte l c ∧ (Lib.indexByte l c < 0 ↔ l.contains c = false) := by
  induction l with
  | nil => simp [Lib.indexByte]
  | cons b r ih =>
    rw [Lib.indexByte]
    by_cases h : b = c
    · subst h; simp
    · have hb : (b == c) = false := by simpa using h
      rw [hb]
      simp only [Bool.false_eq_true, if_false]
      have hc : (b :: r).contains c = r.contains c := by
        rw [List.contains_cons]
        have : (c == b) = false := by simpa using fun e => h e.symm
        rw [this]; rfl
      rw [hc]
      by_cases h1 : Lib.indexByte r c = -1
      · rw [if_pos (by simpa using h1)]
        exact ⟨by omega, by rw [← ih.2]; omega⟩
      · rw [if_neg (by simpa using h1)]
        exact ⟨by omega, by rw [← ih.2]; omega⟩

theorem name_eq (s : ByteArray) : nameB s.data.toList = (!s.toList.isEmpty && (decide ((s.size : Int) ≤ 40) && decide (Lib.indexByte s.data.toList 0 < 0))) := by
  have hl : s.data.toList.length = s.size := by simp
  have hi := (index_lt s.data.toList 0).2
  rw [Bool.eq_iff_iff]
  unfold nameB
  simp only [Bool.and_eq_true, decide_eq_true_eq, Bool.not_eq_true', Lib.toList_data]
  rw [hi, hl]
  constructor
  · rintro ⟨⟨h1, h2⟩, h3⟩
    refine ⟨?_, by omega, h3⟩
    rw [List.isEmpty_eq_false_iff]
    intro e
    rw [e] at hl
    simp at hl
    omega
  · rintro ⟨h1, h2, h3⟩
    rw [List.isEmpty_eq_false_iff] at h1
    have : 0 < s.data.toList.length := List.length_pos_iff.2 h1
    exact ⟨⟨by omega, by omega⟩, h3⟩

set_option maxHeartbeats 1000000 in
theorem implNameFits (s : ByteArray) (w : World) (v : Bool) (hv : nameB s.data.toList = v) :
    Calls Tryz.prog 112 #[.string s] w fun e w' => e = .returned (.bool v) ∧ w = w' := by
  rw [name_eq] at hv
  have HI : Hid (∀ W, Calls Tryz.prog 135 #[.string s, .int .u8 0] W fun e w' => e = .returned (.int .i64 (Lib.indexByte s.data.toList 0)) ∧ W = w') := fun W =>
    (Tryz.strings_IndexByte s 0 W).mono fun e w' ⟨he, hw⟩ => ⟨he, hw.symm⟩
  generalize Lib.indexByte s.data.toList 0 = ix at hv HI
  cases h1 : s.toList.isEmpty with
  | true =>
    have hse : s.toList = [] := List.isEmpty_iff.1 h1
    have hv' : v = false := by rw [← hv, h1]; rfl
    have HV := Lib.hid hv'
    have hn : (!(s.toList == [])) = false := by rw [hse]; rfl
    clear hv hv' hse
    go_enter Tryz.func112, Tryz.ntmps112
    go_wp2_with fail
    go_ret
    exact ⟨by rw [HV.out]; rfl, rfl⟩
  | false =>
    by_cases h2 : (s.size : Int) ≤ 40
    · have hv' : v = decide (ix < 0) := by rw [← hv, h1]; simp [h2]
      have HV := Lib.hid hv'
      have hn : (!(s.toList == [])) = true := by
        have : s.toList ≠ [] := by intro e; rw [e] at h1; cases h1
        simpa using this
      clear hv hv'
      go_enter Tryz.func112, Tryz.ntmps112
      go_wp2_with fail
      refine (HI.out _).mono ?_
      rintro e w1 ⟨rfl, rfl⟩
      go_wp2_with fail
      go_ret
      exact ⟨by rw [HV.out]; rfl, rfl⟩
    · have hv' : v = false := by rw [← hv, h1]; simp [h2]
      have HV := Lib.hid hv'
      have ht : decide ((s.size : Int) ≤ 40) = false := by simpa using h2
      have hn : (!(s.toList == [])) = true := by
        have : s.toList ≠ [] := by intro e; rw [e] at h1; cases h1
        simpa using this
      clear hv hv'
      go_enter Tryz.func112, Tryz.ntmps112
      go_wp2_with fail
      go_ret
      exact ⟨by rw [HV.out]; rfl, rfl⟩

theorem implNameOk (s : ByteArray) (w : World) (v : Bool) (hv : nameB s.data.toList = v) :
    Calls Tryz.prog 72 #[.string s] w fun e w' => e = .returned (.bool v) ∧ w = w' := by
  go_enter Tryz.func72, Tryz.ntmps72
  go_wp2_with fail
  refine (implNameFits s _ v hv).mono ?_
  rintro e w' ⟨rfl, rfl⟩
  go_wp2_with fail
  go_ret
  exact ⟨rfl, rfl⟩

end Go.Proofs.YtpdcmmhhgnackaaGreatDoor

namespace Go.Proofs.YtpdcmmhhgnackaaGreatDoor
open Go.RowKit

set_option maxHeartbeats 1000000 in
theorem szTy (k l : Int) (s : ByteArray) (n : Int) (w : World) (hs : s.size ≤ maxLen) (h0 : 0 ≤ n) (h1 : n ≤ 1048576) :
    Calls Tryz.prog 21 #[.agg #[.int .i64 k, .int .i64 l, .string s], .int .i64 n] w fun e w' => e = .returned (.int .i64 (if n - s.size < 0 then -1 else n - s.size)) ∧ Below w.heap.size w w' := by
  unfold maxLen at hs
  by_cases h : n - (s.size : Int) < 0
  · rw [if_pos h]
    go_enter Tryz.func21, Tryz.ntmps21
    go_wp2
    go_ret
    exact ⟨rfl, (Below.refl _ _).alloc (Nat.le_refl _) _⟩
  · rw [if_neg h]
    have hd : decide (n - (s.size : Int) < 0) = false := by simpa using h
    go_enter Tryz.func21, Tryz.ntmps21
    go_wp2
    go_ret
    exact ⟨rfl, (Below.refl _ _).alloc (Nat.le_refl _) _⟩

set_option maxHeartbeats 1000000 in
theorem toTy (k l : Int) (s : ByteArray) (w : World) :
    Calls Tryz.prog 27 #[.agg #[.int .i64 k, .int .i64 l, .string s]] w fun e w' => e = .returned (.agg #[.int .i64 k, .int .i64 l, .string s]) ∧ Below w.heap.size w w' := by
  go_enter Tryz.func27, Tryz.ntmps27
  go_wp2
  refine bodyPost_ret (v := .agg #[.int .i64 k, .int .i64 l, .string s]) (by simp [results, Tryz.results27, go_sem]) rfl ⟨rfl, ?_⟩
  exact (((Below.refl _ _).alloc (Nat.le_refl _) _).alloc (by simp) _).alloc (by simp; omega) _

/-- Two types lie in the blocks p and q. -/
def Lie2 (p q : Nat) (k l : Int) (s : ByteArray) (k' l' : Int) (s' : ByteArray) (w : World) : Prop :=
  w.cell? ⟨p, 0, none⟩ = some (.int .i64 k) ∧ w.cell? ⟨p, 1, none⟩ = some (.int .i64 l) ∧ w.cell? ⟨p, 2, none⟩ = some (.string s) ∧
  w.cell? ⟨q, 0, none⟩ = some (.int .i64 k') ∧ w.cell? ⟨q, 1, none⟩ = some (.int .i64 l') ∧ w.cell? ⟨q, 2, none⟩ = some (.string s')

theorem Lie2.below {p q : Nat} {k l : Int} {s : ByteArray} {k' l' : Int} {s' : ByteArray} {w w' : World} (h : Lie2 p q k l s k' l' s' w) (hp : p < w.heap.size) (hq : q < w.heap.size) (hb : Below w.heap.size w w') : Lie2 p q k l s k' l' s' w' := by
  obtain ⟨h1, h2, h3, h4, h5, h6⟩ := h
  exact ⟨(hb.cell (p := ⟨p, 0, none⟩) hp).trans h1, (hb.cell (p := ⟨p, 1, none⟩) hp).trans h2, (hb.cell (p := ⟨p, 2, none⟩) hp).trans h3,
    (hb.cell (p := ⟨q, 0, none⟩) hq).trans h4, (hb.cell (p := ⟨q, 1, none⟩) hq).trans h5, (hb.cell (p := ⟨q, 2, none⟩) hq).trans h6⟩

theorem lie2_new (w : World) (T T' : TypeId) (k l : Int) (s : ByteArray) (k' l' : Int) (s' : ByteArray) :
    Lie2 w.heap.size (w.heap.size + 1) k l s k' l' s' ((w.alloc (.cells #[.int .i64 k, .int .i64 l, .string s] T)).alloc (.cells #[.int .i64 k', .int .i64 l', .string s'] T')) := by
  have h1 : ∀ o, ((w.alloc (.cells #[.int .i64 k, .int .i64 l, .string s] T)).alloc (.cells #[.int .i64 k', .int .i64 l', .string s'] T')).cell? ⟨w.heap.size, o, none⟩ = (w.alloc (.cells #[.int .i64 k, .int .i64 l, .string s] T)).cell? ⟨w.heap.size, o, none⟩ :=
    fun o => World.cell?_alloc_lt _ _ _ (by simp)
  have h2 : (w.alloc (.cells #[.int .i64 k, .int .i64 l, .string s] T)).heap.size = w.heap.size + 1 := by simp
  unfold Lie2
  rw [h1, h1, h1, cell_of_row _ _ _ _ _ _ (heap_alloc_new w _), cell_of_row _ _ _ _ _ _ (heap_alloc_new w _), cell_of_row _ _ _ _ _ _ (heap_alloc_new w _), ← h2,
    cell_of_row _ _ _ _ _ _ (heap_alloc_new _ _), cell_of_row _ _ _ _ _ _ (heap_alloc_new _ _), cell_of_row _ _ _ _ _ _ (heap_alloc_new _ _)]
  exact ⟨rfl, rfl, rfl, rfl, rfl, rfl⟩

/-- .. behind the world w0, in blocks that are there. -/
def Lay2 (w0 : World) (p q : Nat) (k l : Int) (s : ByteArray) (k' l' : Int) (s' : ByteArray) (w : World) : Prop :=
  Lie2 p q k l s k' l' s' w ∧ p < w.heap.size ∧ q < w.heap.size ∧ Below w0.heap.size w0 w

theorem Lay2.below {w0 : World} {p q : Nat} {k l : Int} {s : ByteArray} {k' l' : Int} {s' : ByteArray} {w w' : World} (h : Lay2 w0 p q k l s k' l' s' w) (hb : Below w.heap.size w w') : Lay2 w0 p q k l s k' l' s' w' :=
  ⟨h.1.below h.2.1 h.2.2.1 hb, Nat.lt_of_lt_of_le h.2.1 hb.size, Nat.lt_of_lt_of_le h.2.2.1 hb.size, h.2.2.2.trans (hb.mono h.2.2.2.size)⟩

theorem Lay2.drew {w0 : World} {p q : Nat} {k l : Int} {s : ByteArray} {k' l' : Int} {s' : ByteArray} {w : World} (h : Lay2 w0 p q k l s k' l' s' w) : Lay2 w0 p q k l s k' l' s' w.drew :=
  h.below ⟨rfl, rfl, rfl, Nat.le_refl _, fun _ _ => rfl⟩

theorem lay2_new (w : World) (T T' : TypeId) (k l : Int) (s : ByteArray) (k' l' : Int) (s' : ByteArray) :
    Lay2 w w.heap.size (w.heap.size + 1) k l s k' l' s' ((w.alloc (.cells #[.int .i64 k, .int .i64 l, .string s] T)).alloc (.cells #[.int .i64 k', .int .i64 l', .string s'] T')) :=
  ⟨lie2_new w T T' k l s k' l' s', by simp; omega, by simp, below2 w _ _⟩

/-- A type lies in the block p, behind the world w0. -/
def Lay1 (w0 : World) (p : Nat) (k l : Int) (s : ByteArray) (w : World) : Prop :=
  (w.cell? ⟨p, 0, none⟩ = some (.int .i64 k) ∧ w.cell? ⟨p, 1, none⟩ = some (.int .i64 l) ∧ w.cell? ⟨p, 2, none⟩ = some (.string s)) ∧ p < w.heap.size ∧ Below w0.heap.size w0 w

theorem Lay1.below {w0 : World} {p : Nat} {k l : Int} {s : ByteArray} {w w' : World} (h : Lay1 w0 p k l s w) (hb : Below w.heap.size w w') : Lay1 w0 p k l s w' :=
  ⟨⟨(hb.cell (p := ⟨p, 0, none⟩) h.2.1).trans h.1.1, (hb.cell (p := ⟨p, 1, none⟩) h.2.1).trans h.1.2.1, (hb.cell (p := ⟨p, 2, none⟩) h.2.1).trans h.1.2.2⟩,
    Nat.lt_of_lt_of_le h.2.1 hb.size, h.2.2.trans (hb.mono h.2.2.size)⟩

theorem Lay1.drew {w0 : World} {p : Nat} {k l : Int} {s : ByteArray} {w : World} (h : Lay1 w0 p k l s w) : Lay1 w0 p k l s w.drew := h.below ⟨rfl, rfl, rfl, Nat.le_refl _, fun _ _ => rfl⟩

theorem Lay1.alloc {w0 : World} {p : Nat} {k l : Int} {s : ByteArray} {w : World} (h : Lay1 w0 p k l s w) (o : Obj) : Lay1 w0 p k l s (w.alloc o) := h.below ((Below.refl _ _).alloc (Nat.le_refl _) _)

theorem lay1_new (w : World) (T : TypeId) (k l : Int) (s : ByteArray) : Lay1 w w.heap.size k l s (w.alloc (.cells #[.int .i64 k, .int .i64 l, .string s] T)) := by
  refine ⟨?_, by simp, (Below.refl _ _).alloc (Nat.le_refl _) _⟩
  rw [cell_of_row _ _ _ _ _ _ (heap_alloc_new w _), cell_of_row _ _ _ _ _ _ (heap_alloc_new w _), cell_of_row _ _ _ _ _ _ (heap_alloc_new w _)]
  exact ⟨rfl, rfl, rfl⟩

end Go.Proofs.YtpdcmmhhgnackaaGreatDoor

namespace Go.Proofs.YtpdcmmhhgnackaaGreatDoor
open Go.RowKit

/-- A type fits a form. -/
def fitsB (mn mx : Int) (nm : Bool) (l : Int) (s : ByteArray) : Bool :=
  if l < mn then false else if mx < l then false else if nm then nameB s.data.toList else s.toList.isEmpty

def typeOkB (k l : Int) (s : ByteArray) : Bool :=
  if k = 0 ∨ k = 1 ∨ k = 2 then (l == 0) && s.toList.isEmpty else if k = 3 then inI l 1 100 && s.toList.isEmpty else if k = 4 then (l == 0) && nameB s.data.toList else false

set_option maxHeartbeats 1000000 in
theorem implFits (f : ByteArray) (mn mx : Int) (nm : Bool) (k l : Int) (s : ByteArray) (w : World) (v : Bool) (hv : fitsB mn mx nm l s = v) :
    Calls Tryz.prog 81 #[.agg #[.string f, .int .i64 mn, .int .i64 mx, .bool nm], .agg #[.int .i64 k, .int .i64 l, .string s]] w fun e w' => e = .returned (.bool v) ∧ Below w.heap.size w w' := by
  by_cases h1 : l < mn
  · have HV : Hid (v = false) := by unfold Hid; rw [← hv, fitsB, if_pos h1]
    have f1 : decide (l < mn) = true := decide_eq_true h1
    clear hv h1
    go_enter Tryz.func81, Tryz.ntmps81
    go_wp2_with fail
    go_ret
    exact ⟨by rw [HV.out]; rfl, below2 _ _ _⟩
  · have f1 : decide (l < mn) = false := decide_eq_false h1
    by_cases h2 : mx < l
    · have HV : Hid (v = false) := by unfold Hid; rw [← hv, fitsB, if_neg h1, if_pos h2]
      have f2 : decide (mx < l) = true := decide_eq_true h2
      clear hv h1 h2
      go_enter Tryz.func81, Tryz.ntmps81
      go_wp2_with fail
      go_ret
      exact ⟨by rw [HV.out]; rfl, below2 _ _ _⟩
    · have f2 : decide (mx < l) = false := decide_eq_false h2
      cases nm with
      | true =>
        have HV : Hid (nameB s.data.toList = v) := by unfold Hid; rw [← hv, fitsB, if_neg h1, if_neg h2]; rfl
        clear hv h1 h2
        go_enter Tryz.func81, Tryz.ntmps81
        go_wp2_with fail
        refine (implNameOk s _ v HV.out).mono ?_
        rintro e w1 ⟨rfl, rfl⟩
        go_wp2_with fail
        go_ret
        exact ⟨rfl, below2 _ _ _⟩
      | false =>
        have HV : Hid (v = s.toList.isEmpty) := by unfold Hid; rw [← hv, fitsB, if_neg h1, if_neg h2]; rfl
        clear hv h1 h2
        go_enter Tryz.func81, Tryz.ntmps81
        go_wp2_with fail
        go_ret
        exact ⟨by rw [HV.out]; rfl, below2 _ _ _⟩

theorem typeOk_eq (k l : Int) (s : ByteArray) (h : 0 ≤ k ∧ k ≤ 4) : ∃ f mn mx nm, formOf k = .agg #[.string f, .int .i64 mn, .int .i64 mx, .bool nm] ∧ fitsB mn mx nm l s = typeOkB k l s := by
  have hc : k = 0 ∨ k = 1 ∨ k = 2 ∨ k = 3 ∨ k = 4 := by omega
  have h00 : ∀ c : Bool, (if l < 0 then false else if 0 < l then false else c) = ((l == 0) && c) := fun c => by
    by_cases a : l < 0
    · rw [if_pos a, show (l == 0) = false by rw [beq_eq_false_iff_ne]; omega]; rfl
    · rw [if_neg a]
      by_cases b : 0 < l
      · rw [if_pos b, show (l == 0) = false by rw [beq_eq_false_iff_ne]; omega]; rfl
      · rw [if_neg b, show (l == 0) = true by rw [beq_iff_eq]; omega]; rfl
  have h11 : ∀ c : Bool, (if l < 1 then false else if 100 < l then false else c) = (inI l 1 100 && c) := fun c => by
    unfold inI
    by_cases a : l < 1
    · rw [if_pos a, decide_eq_false (by omega : ¬ 1 ≤ l)]; rfl
    · rw [if_neg a, decide_eq_true (by omega : 1 ≤ l)]
      by_cases b : 100 < l
      · rw [if_pos b, decide_eq_false (by omega : ¬ l ≤ 100)]; rfl
      · rw [if_neg b, decide_eq_true (by omega : l ≤ 100)]; rfl
  rcases hc with rfl | rfl | rfl | rfl | rfl
  · exact ⟨_, _, _, _, rfl, h00 _⟩
  · exact ⟨_, _, _, _, rfl, h00 _⟩
  · exact ⟨_, _, _, _, rfl, h00 _⟩
  · exact ⟨_, _, _, _, rfl, h11 _⟩
  · exact ⟨_, _, _, _, rfl, h00 _⟩

set_option maxHeartbeats 4000000 in
theorem specTypeOk (k l : Int) (s : ByteArray) (w : World) (hs : s.size ≤ 1048576) (v : Bool) (hv : typeOkB k l s = v) :
    Calls Tryz.prog 60 #[.agg #[.int .i64 k, .int .i64 l, .string s]] w fun e w' => e = .returned (.bool v) ∧ Below w.heap.size w w' := by
  have b1 : Below w.heap.size w (w.alloc (.cells #[.int .i64 k, .int .i64 l, .string s] 29)) := (Below.refl _ _).alloc (Nat.le_refl _) _
  have HB := Lib.hid b1
  clear b1
  by_cases hk : 0 ≤ k ∧ k ≤ 4
  · have hc : k = 0 ∨ k = 1 ∨ k = 2 ∨ k = 3 ∨ k = 4 := by omega
    clear hk
    rcases hc with rfl | rfl | rfl | rfl | rfl
    · cases h1 : (l == 0) with
      | false =>
        have HV : Hid (v = false) := by unfold Hid; rw [← hv]; show ((l == 0) && _) = _; rw [h1]; rfl
        clear hv
        go_enter Tryz.func60, Tryz.ntmps60
        go_wp2_with fail
        refine (specInIs _ 0 4 _ true (by decide)).mono ?_
        rintro e w1 ⟨rfl, rfl⟩
        go_wp2_with fail
        go_ret
        exact ⟨by rw [HV.out]; rfl, HB.out⟩
      | true =>
        have HV : Hid (v = s.toList.isEmpty) := by unfold Hid; rw [← hv]; show ((l == 0) && _) = _; rw [h1]; rfl
        clear hv
        go_enter Tryz.func60, Tryz.ntmps60
        go_wp2_with fail
        refine (specInIs _ 0 4 _ true (by decide)).mono ?_
        rintro e w1 ⟨rfl, rfl⟩
        go_wp2_with fail
        go_ret
        exact ⟨by rw [HV.out]; rfl, HB.out⟩
    · cases h1 : (l == 0) with
      | false =>
        have HV : Hid (v = false) := by unfold Hid; rw [← hv]; show ((l == 0) && _) = _; rw [h1]; rfl
        clear hv
        go_enter Tryz.func60, Tryz.ntmps60
        go_wp2_with fail
        refine (specInIs _ 0 4 _ true (by decide)).mono ?_
        rintro e w1 ⟨rfl, rfl⟩
        go_wp2_with fail
        go_ret
        exact ⟨by rw [HV.out]; rfl, HB.out⟩
      | true =>
        have HV : Hid (v = s.toList.isEmpty) := by unfold Hid; rw [← hv]; show ((l == 0) && _) = _; rw [h1]; rfl
        clear hv
        go_enter Tryz.func60, Tryz.ntmps60
        go_wp2_with fail
        refine (specInIs _ 0 4 _ true (by decide)).mono ?_
        rintro e w1 ⟨rfl, rfl⟩
        go_wp2_with fail
        go_ret
        exact ⟨by rw [HV.out]; rfl, HB.out⟩
    · cases h1 : (l == 0) with
      | false =>
        have HV : Hid (v = false) := by unfold Hid; rw [← hv]; show ((l == 0) && _) = _; rw [h1]; rfl
        clear hv
        go_enter Tryz.func60, Tryz.ntmps60
        go_wp2_with fail
        refine (specInIs _ 0 4 _ true (by decide)).mono ?_
        rintro e w1 ⟨rfl, rfl⟩
        go_wp2_with fail
        go_ret
        exact ⟨by rw [HV.out]; rfl, HB.out⟩
      | true =>
        have HV : Hid (v = s.toList.isEmpty) := by unfold Hid; rw [← hv]; show ((l == 0) && _) = _; rw [h1]; rfl
        clear hv
        go_enter Tryz.func60, Tryz.ntmps60
        go_wp2_with fail
        refine (specInIs _ 0 4 _ true (by decide)).mono ?_
        rintro e w1 ⟨rfl, rfl⟩
        go_wp2_with fail
        go_ret
        exact ⟨by rw [HV.out]; rfl, HB.out⟩
    · cases h1 : inI l 1 100 with
      | false =>
        have HV : Hid (v = false) := by unfold Hid; rw [← hv]; show (inI l 1 100 && _) = _; rw [h1]; rfl
        have H1 := Lib.hid h1
        clear hv h1
        go_enter Tryz.func60, Tryz.ntmps60
        go_wp2_with fail
        refine (specInIs _ 0 4 _ true (by decide)).mono ?_
        rintro e w1 ⟨rfl, rfl⟩
        go_wp2_with fail
        refine (specInIs _ 1 100 _ false H1.out).mono ?_
        rintro e w1 ⟨rfl, rfl⟩
        go_wp2_with fail
        go_ret
        exact ⟨by rw [HV.out]; rfl, HB.out⟩
      | true =>
        have HV : Hid (v = s.toList.isEmpty) := by unfold Hid; rw [← hv]; show (inI l 1 100 && _) = _; rw [h1]; rfl
        have H1 := Lib.hid h1
        clear hv h1
        go_enter Tryz.func60, Tryz.ntmps60
        go_wp2_with fail
        refine (specInIs _ 0 4 _ true (by decide)).mono ?_
        rintro e w1 ⟨rfl, rfl⟩
        go_wp2_with fail
        refine (specInIs _ 1 100 _ true H1.out).mono ?_
        rintro e w1 ⟨rfl, rfl⟩
        go_wp2_with fail
        go_ret
        exact ⟨by rw [HV.out]; rfl, HB.out⟩
    · cases h1 : (l == 0) with
      | false =>
        have HV : Hid (v = false) := by unfold Hid; rw [← hv]; show ((l == 0) && _) = _; rw [h1]; rfl
        clear hv
        go_enter Tryz.func60, Tryz.ntmps60
        go_wp2_with fail
        refine (specInIs _ 0 4 _ true (by decide)).mono ?_
        rintro e w1 ⟨rfl, rfl⟩
        go_wp2_with fail
        go_ret
        exact ⟨by rw [HV.out]; rfl, HB.out⟩
      | true =>
        cases h2 : nameB s.data.toList with
        | false =>
          have HV : Hid (v = false) := by unfold Hid; rw [← hv]; show ((l == 0) && _) = _; rw [h1, h2]; rfl
          have H2 := Lib.hid h2
          clear hv h2
          go_enter Tryz.func60, Tryz.ntmps60
          go_wp2_with fail
          refine (specInIs _ 0 4 _ true (by decide)).mono ?_
          rintro e w1 ⟨rfl, rfl⟩
          go_wp2_with fail
          refine (specNameOk s _ hs false H2.out).mono ?_
          rintro e w1 ⟨rfl, rfl⟩
          go_wp2_with fail
          go_ret
          exact ⟨by rw [HV.out]; rfl, HB.out⟩
        | true =>
          have HV : Hid (v = true) := by unfold Hid; rw [← hv]; show ((l == 0) && _) = _; rw [h1, h2]; rfl
          have H2 := Lib.hid h2
          clear hv h2
          go_enter Tryz.func60, Tryz.ntmps60
          go_wp2_with fail
          refine (specInIs _ 0 4 _ true (by decide)).mono ?_
          rintro e w1 ⟨rfl, rfl⟩
          go_wp2_with fail
          refine (specNameOk s _ hs true H2.out).mono ?_
          rintro e w1 ⟨rfl, rfl⟩
          go_wp2_with fail
          go_ret
          exact ⟨by rw [HV.out]; rfl, HB.out⟩
  · have HV : Hid (v = false) := by
      unfold Hid
      rw [← hv, typeOkB, if_neg (by omega), if_neg (by omega), if_neg (by omega)]
    have HI : Hid (inI k 0 4 = false) := by
      unfold Hid inI
      rw [Bool.and_eq_false_iff, decide_eq_false_iff_not, decide_eq_false_iff_not]
      omega
    clear hv hk
    go_enter Tryz.func60, Tryz.ntmps60
    go_wp2_with fail
    refine (specInIs _ 0 4 _ false HI.out).mono ?_
    rintro e w1 ⟨rfl, rfl⟩
    go_wp2_with fail
    go_ret
    exact ⟨by rw [HV.out]; rfl, HB.out⟩

end Go.Proofs.YtpdcmmhhgnackaaGreatDoor

namespace Go.Proofs.YtpdcmmhhgnackaaGreatDoor
open Go.RowKit

def hasB (xs : List ByteArray) (s : ByteArray) : Bool := xs.any fun x => x.toList == s.toList

theorem hasB_take (xs : List ByteArray) (s : ByteArray) (k : Nat) (h : k < xs.length) : hasB (xs.take (k + 1)) s = (hasB (xs.take k) s || xs[k].toList == s.toList) := by
  unfold hasB
  rw [List.take_succ_eq_append_getElem h, List.any_append]
  simp only [List.any_cons, List.any_nil, Bool.or_false]

theorem hasB_hit (xs : List ByteArray) (s : ByteArray) (k : Nat) (h : k < xs.length) (he : (xs[k].toList == s.toList) = true) : hasB xs s = true :=
  List.any_eq_true.2 ⟨xs[k], List.getElem_mem h, he⟩

set_option maxHeartbeats 400000 in
theorem specHas (a : Option Addr) (c : Nat) (xs : List ByteArray) (s : ByteArray) (w : World) (hx : Strs w a c xs) :
    Calls Tryz.prog 63 #[.slice a xs.length c, .string s] w (Quiet w (.bool (hasB xs s))) := by
  have hl := hx.len
  go_enter Tryz.func63, Tryz.ntmps63
  go_wp2
  go_loop [5] (fun i => ∃ k : Nat, k ≤ xs.length ∧ i = .int .i64 k ∧ Hid (hasB (xs.take k) s = false)) (fun i => xs.length - (intOf i).toNat)
  case atStart => exact ⟨0, Nat.zero_le _, rfl, rfl⟩
  case round =>
    obtain ⟨k, hk, rfl, hno⟩ := hrel
    by_cases hlt : k < xs.length
    · obtain ⟨b, off, rfl, hb, hc⟩ := hx.spot hlt
      cases he : (xs[k].toList == s.toList) with
      | true =>
        have H := Lib.hid (hasB_hit xs s k hlt he)
        go_wp2
        go_ret
        exact ⟨by rw [H.out]; rfl, 0, rfl⟩
      | false =>
        have H : Hid (hasB (xs.take (k + 1)) s = false) := by unfold Hid; rw [hasB_take xs s k hlt, hno.out, he]; rfl
        go_wp2
        go_round
        case rel => exact ⟨k + 1, by omega, by go_num, H⟩
        case measure => simp [intOf]; omega
    · have H : Hid (hasB xs s = false) := by have := hno.out; rwa [List.take_of_length_le (by omega)] at this
      go_wp2
      go_ret
      exact ⟨by rw [H.out]; rfl, 0, rfl⟩

theorem beq_flip (a b : List UInt8) : (a == b) = (b == a) := by
  rw [Bool.eq_iff_iff, beq_iff_eq, beq_iff_eq]; exact eq_comm

end Go.Proofs.YtpdcmmhhgnackaaGreatDoor

namespace Go.Proofs.YtpdcmmhhgnackaaGreatDoor
open Go.RowKit

/-- The reserved words, byte by byte. -/
def keptW : List (List UInt8) := [[97, 100, 100], [97, 108, 108], [97, 108, 116, 101, 114], [97, 110, 100], [97, 115], [98, 111, 111, 108], [99, 104, 97, 114], [99, 104, 101, 99, 107], [99, 111, 108, 117, 109, 110], [99, 111, 110, 115, 116, 114, 97, 105, 110, 116], [99, 114, 101, 97, 116, 101], [100, 101, 102, 97, 117, 108, 116], [100, 114, 111, 112], [101, 110, 117, 109], [102, 97, 108, 115, 101], [102, 111, 114, 101, 105, 103, 110], [102, 114, 111, 109], [105, 110, 100, 101, 120], [105, 110, 116], [105, 115], [107, 101, 121], [110, 111, 116], [110, 117, 108, 108], [111, 110], [111, 114], [112, 114, 105, 109, 97, 114, 121], [114, 101, 102, 101, 114, 101, 110, 99, 101, 115], [115, 101, 108, 101, 99, 116], [115, 101, 113, 117, 101, 110, 99, 101], [115, 101, 116], [115, 116, 97, 114, 116], [116, 97, 98, 108, 101], [116, 101, 120, 116], [116, 111], [116, 114, 117, 101], [116, 121, 112, 101], [117, 110, 105, 113, 117, 101], [118, 105, 101, 119], [119, 104, 101, 114, 101]]
def keptB (l : List UInt8) : Bool := keptW.any fun x => l == x

theorem kept_hit {l x : List UInt8} (hx : x ∈ keptW) (h : (l == x) = true) : keptB l = true := List.any_eq_true.2 ⟨x, hx, h⟩

set_option maxRecDepth 100000 in
set_option maxHeartbeats 4000000 in
theorem implReserved (s : ByteArray) (w : World) (v : Bool) (hv : keptB s.toList = v) :
    Calls Tryz.prog 77 #[.string s] w fun e w' => e = .returned (.bool v) ∧ w = w' := by
  have HV := Lib.hid hv
  clear hv
  go_enter Tryz.func77, Tryz.ntmps77
  go_wp2_with fail
  all_goals first
    | (rename_i ha hb; exact Bool.noConfusion (ha.symm.trans hb))
    | (rename_i ha hb; go_ret; exact ⟨by rw [← HV.out, kept_hit (by decide) hb]; rfl, rfl⟩)
    | (have HN : Hid (keptB s.toList = false) := by
         unfold Hid keptB keptW
         simp only [List.any_cons, List.any_nil, *, Bool.or_false]
       go_ret
       exact ⟨by rw [← HV.out, HN.out]; rfl, rfl⟩)

end Go.Proofs.YtpdcmmhhgnackaaGreatDoor

namespace Go.Proofs.YtpdcmmhhgnackaaGreatDoor

/-- A word: its kind and its text. -/
abbrev W := Int × List UInt8

def bindsK (k : Int) : Nat :=
  if k = 9 then 1 else if k = 8 then 2 else if k = 6 then 3
  else if k = 7 ∨ k = 10 ∨ k = 11 ∨ k = 12 ∨ k = 13 ∨ k = 14 ∨ k = 15 then 4
  else if k = 16 ∨ k = 17 then 5 else if k = 18 then 6 else 7

def wAnd : List UInt8 := [97, 110, 100]
def wOr : List UInt8 := [111, 114]
def wNot : List UInt8 := [110, 111, 116]
def wIs : List UInt8 := [105, 115]
def wNull : List UInt8 := [110, 117, 108, 108]
def wTrue : List UInt8 := [116, 114, 117, 101]
def wFalse : List UInt8 := [102, 97, 108, 115, 101]

/-- What stands between two kids. -/
def signK (k : Int) : List UInt8 :=
  if k = 8 then wAnd else if k = 9 then wOr else if k = 10 then [61] else if k = 11 then [60, 62] else if k = 12 then [60] else if k = 13 then [60, 61]
  else if k = 14 then [62] else if k = 15 then [62, 61] else if k = 16 then [43] else if k = 17 then [45] else if k = 18 then [42] else []

def isW (x : W) (t : List UInt8) : Bool := (x.1 == 0 || x.1 == 4) && x.2 == t

/-- The first word is t. -/
def hdW : List W → List UInt8 → Bool
  | x :: _, t => isW x t
  | [], _ => false

/-- The kind of two kids that binds b whose sign is x. -/
def nextK (x : W) (b : Nat) : Option Int := ([8, 9, 10, 11, 12, 13, 14, 15, 16, 17, 18] : List Int).find? fun k => bindsK k == b && isW x (signK k)

def txt (l : List UInt8) : ByteArray := ⟨l.toArray⟩
def leaf (k : Int) (t : List UInt8) (n : Int) : Ex := .mk k (txt t) n []
def node (k : Int) (l : List Ex) : Ex := .mk k (txt []) 0 l

mutual
def atomP : Nat → List W → Option (Ex × List W)
  | 0, _ => none
  | _ + 1, [] => none
  | f + 1, x :: r =>
    if x.1 = 2 then some (leaf 1 [] (readD x.2), r)
    else if x.1 = 3 then some (leaf 2 x.2 0, r)
    else if x.1 = 1 ∨ (x.1 = 0 ∧ keptB x.2 = false) then some (leaf 0 x.2 0, r)
    else if isW x wTrue then some (leaf 3 [] 0, r)
    else if isW x wFalse then some (leaf 4 [] 0, r)
    else if isW x wNull then some (leaf 5 [] 0, r)
    else if isW x [40] then
      match anyP f 1 r with
      | some (e, y :: r') => if isW y [41] then some (e, r') else none
      | _ => none
    else none
def anyP : Nat → Nat → List W → Option (Ex × List W)
  | 0, _, _ => none
  | f + 1, L, ts =>
    if L = 7 then atomP f ts
    else if L = 3 ∧ hdW ts wNot = true then
      match anyP f 3 ts.tail with
      | some (k, r) => some (node 6 [k], r)
      | none => none
    else match anyP f (L + 1) ts with
      | some (e, r) => some (loopP f L e r)
      | none => none
def loopP : Nat → Nat → Ex → List W → Ex × List W
  | 0, _, e, r => (e, r)
  | f + 1, L, e, r =>
    match r with
    | [] => (e, r)
    | x :: r' =>
      if L = 4 ∧ isW x wIs = true ∧ hdW r' wNull = true then (node 7 [e], r'.tail)
      else match nextK x L with
        | none => (e, r)
        | some k => match anyP f (L + 1) r' with
          | none => (e, r)
          | some (s, r'') => if L = 4 then (node k [e, s], r'') else loopP f L (node k [e, s]) r''
end

/-! ### the fuel is enough -/
def enough (f L : Nat) (ts : List W) : Prop := 10 * ts.length + 10 ≤ f + L
def enoughL (f L : Nat) (r : List W) : Prop := 10 * (r.length + 1) + 9 ≤ f + L

/-- What is read takes a word at least. -/
theorem reads_len : ∀ f : Nat, (∀ ts e r, atomP f ts = some (e, r) → r.length < ts.length) ∧ (∀ L ts e r, anyP f L ts = some (e, r) → r.length < ts.length) ∧ (∀ L e r, (loopP f L e r).2.length ≤ r.length) := by
  intro f
  induction f with
  | zero =>
    refine ⟨fun ts e r h => ?_, fun L ts e r h => ?_, fun L e r => ?_⟩
    · cases ts <;> simp [atomP] at h
    · simp [anyP] at h
    · simp [loopP]
  | succ f ih =>
    obtain ⟨ihA, ihN, ihL⟩ := ih
    refine ⟨fun ts e r h => ?_, fun L ts e r h => ?_, fun L e r => ?_⟩
    · cases ts with
      | nil => simp [atomP] at h
      | cons x q =>
        rw [atomP] at h
        split at h
        · cases h; simp
        split at h
        · cases h; simp
        split at h
        · cases h; simp
        split at h
        · cases h; simp
        split at h
        · cases h; simp
        split at h
        · cases h; simp
        split at h
        · split at h
          · rename_i e' y r' he
            have := ihN _ _ _ _ he
            split at h
            · cases h; simp at this ⊢; omega
            · cases h
          · cases h
        · cases h
    · rw [anyP] at h
      split at h
      · exact ihA _ _ _ h
      split at h
      · rename_i hn
        split at h
        · rename_i k r' he
          cases h
          have := ihN _ _ _ _ he
          have h2 : ts.tail.length ≤ ts.length := by simp
          omega
        · cases h
      · split at h
        · rename_i e' r' he
          have h1 := ihN _ _ _ _ he
          have h2 := ihL L e' r'
          rw [Option.some.inj h] at h2
          have h3 : r.length ≤ r'.length := h2
          omega
        · cases h
    · cases r with
      | nil => simp [loopP]
      | cons x r' =>
        rw [loopP]
        split
        · simp; omega
        · split
          · simp
          · split
            · simp
            · rename_i s r'' he
              have h1 := ihN _ _ _ _ he
              split
              · simp only [List.length_cons]; omega
              · simp only [List.length_cons]
                exact Nat.le_trans (ihL L _ r'') (by omega)

end Go.Proofs.YtpdcmmhhgnackaaGreatDoor

namespace Go.Proofs.YtpdcmmhhgnackaaGreatDoor
open Go.RowKit

def dbl (q : UInt8) (t : List UInt8) : List UInt8 := t.flatMap fun b => if b = q then [q, b] else [b]
def quoteT (s : ByteArray) (q : UInt8) : ByteArray := ⟨(quoteL q s.data.toList).toArray⟩

theorem dbl_eq (q : UInt8) (s : ByteArray) (k : Nat) (h : k < s.size) (he : s[k] = q) : dbl q (s.data.toList.take (k + 1)) = dbl q (s.data.toList.take k) ++ [q] ++ [s[k]] := by
  unfold dbl
  rw [take_snoc s k h, List.flatMap_append]
  simp [he]
theorem dbl_ne (q : UInt8) (s : ByteArray) (k : Nat) (h : k < s.size) (he : s[k] ≠ q) : dbl q (s.data.toList.take (k + 1)) = dbl q (s.data.toList.take k) ++ [s[k]] := by
  unfold dbl
  rw [take_snoc s k h, List.flatMap_append]
  simp [he]
theorem dbl_len (q : UInt8) (t : List UInt8) : (dbl q t).length ≤ 2 * t.length := by
  unfold dbl
  induction t with
  | nil => simp
  | cons b r ih =>
    rw [List.flatMap_cons, List.length_append, List.length_cons]
    split
    · simp only [List.length_cons, List.length_nil]; omega
    · simp only [List.length_cons, List.length_nil]; omega

set_option maxHeartbeats 1000000 in
theorem specQuote (s : ByteArray) (y : UInt8) (w : World) (hs : s.size ≤ 1048576) :
    Calls Tryz.prog 67 #[.string s, .int .u8 (y.toNat : Int)] w fun e w' => e = .returned (.string (quoteT s y)) ∧ Below w.heap.size w w' := by
  obtain ⟨i0, hi0, hz0, hz1, hz2⟩ := info_parts Tryz.infoByte
  have hy := byte_le y
  go_enter Tryz.func67, Tryz.ntmps67
  go_wp2
  go_loopw [5, 6] (fun v i wr => ∃ (k : Nat) (a1 : Option Addr) (c1 : Nat) (l1 : List UInt8), k ≤ s.size ∧ i = .int .i64 k ∧ v = .slice a1 l1.length c1 ∧ Hid (l1 = y :: dbl y (s.data.toList.take k)) ∧ OwnB wr w.heap.size a1 c1 l1 ∧ Below w.heap.size w wr) (fun _ i _ => s.size - (intOf i).toNat)
  case atStart => exact ⟨0, _, _, [y], Nat.zero_le _, rfl, rfl, rfl, ownBOne w y, (Below.refl _ _).alloc (Nat.le_refl _) _⟩
  case round =>
    obtain ⟨k, a1, c1, l1, hk, rfl, rfl, hl1, hown, hb⟩ := hrel
    have hsz := hb.size
    have hlk : l1.length ≤ 3000000 := by
      have h1 := dbl_len y (s.data.toList.take k)
      have h2 : (s.data.toList.take k).length ≤ k := List.length_take_le _ _
      rw [hl1.out]
      simp only [List.length_cons]
      omega
    by_cases hlt : k < s.size
    · have hby := byte_le s[k]
      by_cases he : s[k] = y
      · have HS := Lib.hid (dbl_eq y s k hlt he)
        have ht := byte_eq he
        have HE := Lib.hid he
        clear he
        go_wp2_with (first
          | ((at_builtin; refine wpAppendByte rfl (.tmp 20) (.tmp 22) rfl i0 hi0 hz0 hz1 hz2 w.heap.size a1 c1 l1 wr.heap.size y rfl (hown.alloc _) rfl (by simp) (by omega) (by simp; omega) ?_; intro a2 c2 w2 l2 hl2 hown2 hg2 _); (have hb2 : Below w.heap.size w w2 := (hb.alloc hsz _).grown hg2 (by simp; omega) (fun q hq => (hown.lt hq).1)); (have hsz2 := hb2.size); (have hlk2 : l2.length ≤ 3000001 := by rw [hid_len hl2]; omega))
          | (at_builtin; refine wpAppendByte rfl (.tmp 24) (.tmp 28) rfl i0 hi0 hz0 hz1 hz2 w.heap.size a2 c2 l2 w2.heap.size s[k] rfl (hown2.alloc _) rfl (by simp) (by omega) (by simp; omega) ?_; intro a3 c3 w3 l3 hl3 hown3 hg3 _))
        have hb3 : Below w.heap.size w w3 := (hb2.alloc hsz2 _).grown hg3 (by simp; omega) (fun q hq => (hown2.lt hq).1)
        go_roundw
        case rel => exact ⟨k + 1, a3, c3, l3, by omega, by go_num, rfl, by unfold Hid; rw [hl3.out, hl2.out, hl1.out, HS.out]; simp, hown3, hb3⟩
        case measure => simp [intOf]; omega
      · have HS := Lib.hid (dbl_ne y s k hlt he)
        have ht := byte_ne he
        have HE := Lib.hid he
        clear he
        go_wp2_with (at_builtin; refine wpAppendByte rfl (.tmp 24) (.tmp 28) rfl i0 hi0 hz0 hz1 hz2 w.heap.size a1 c1 l1 wr.heap.size s[k] rfl (hown.alloc _) rfl (by simp) (by omega) (by simp; omega) ?_; intro a3 c3 w3 l3 hl3 hown3 hg3 _)
        have hb3 : Below w.heap.size w w3 := (hb.alloc hsz _).grown hg3 (by simp; omega) (fun q hq => (hown.lt hq).1)
        go_roundw
        case rel => exact ⟨k + 1, a3, c3, l3, by omega, by go_num, rfl, by unfold Hid; rw [hl3.out, hl1.out, HS.out]; simp, hown3, hb3⟩
        case measure => simp [intOf]; omega
    · obtain rfl : k = s.size := by omega
      have HQ : Hid (quoteL y s.data.toList = l1 ++ [y]) := by
        unfold Hid
        rw [hl1.out, List.take_of_length_le (by simp)]
        simp [quoteL, dbl]
      go_wp2_with (at_builtin; refine wpAppendByte rfl (.tmp 30) (.tmp 32) rfl i0 hi0 hz0 hz1 hz2 w.heap.size a1 c1 l1 wr.heap.size y rfl (hown.alloc _) rfl (by simp) (by omega) (by simp; omega) ?_; intro a3 c3 w3 l3 hl3 hown3 hg3 _; have hcv := convBytes hown3)
      have hb3 : Below w.heap.size w w3 := (hb.alloc hsz _).grown hg3 (by simp; omega) (fun q hq => (hown.lt hq).1)
      go_ret
      exact ⟨by rw [quoteT, HQ.out, ← hl3.out]; rfl, hb3⟩

end Go.Proofs.YtpdcmmhhgnackaaGreatDoor

namespace Go.Proofs.YtpdcmmhhgnackaaGreatDoor
open Go.RowKit

def smallB (b : UInt8) : Bool := decide (b.toNat = 95) || (decide (97 ≤ b.toNat) && decide (b.toNat ≤ 122))
def okB (b : UInt8) : Bool := smallB b || digitB b
def plainB (l : List UInt8) : Bool := !l.isEmpty && (!digitB (l.headD 0) && l.all okB)
/-- How a name is written. -/
def nameT (s : ByteArray) : ByteArray := if plainB s.data.toList && !keptB s.data.toList then s else quoteT s 34

theorem head_get (s : ByteArray) (h : 0 < s.size) : s.data.toList.headD 0 = s[0] := by
  have hl : s.data.toList.length = s.size := by simp
  match hs : s.data.toList, hl with
  | [], hl => simp at hl; omega
  | b :: r, _ =>
    have : s[0] = s.data.toList[0]'(by rw [hs]; simp) := rfl
    rw [this]
    simp [hs]

theorem list_get (s : ByteArray) (k : Nat) (h : k < s.size) : s.data.toList[k]'(by simpa using h) = s[k] := rfl

theorem plain_no (s : ByteArray) (k : Nat) (h : k < s.size) (hb : okB s[k] = false ∨ (k = 0 ∧ digitB s[k] = true)) : plainB s.data.toList = false := by
  unfold plainB
  rcases hb with hb | ⟨rfl, hb⟩
  · have : s.data.toList.all okB = false := by
      rw [List.all_eq_false]
      exact ⟨s[k], by rw [← list_get s k h]; exact List.getElem_mem _, by rw [hb]; simp⟩
    rw [this]; simp
  · rw [head_get s h, hb]; simp

theorem plain_yes (s : ByteArray) (h0 : 0 < s.size) (h : ∀ (j : Nat) (hj : j < s.size), okB s[j] = true) (hd : digitB s[0] = false) : plainB s.data.toList = true := by
  have hl : s.data.toList.length = s.size := by simp
  unfold plainB
  have h1 : s.data.toList.isEmpty = false := by rw [List.isEmpty_eq_false_iff]; intro e; rw [e] at hl; simp at hl; omega
  have h2 : s.data.toList.all okB = true := by
    rw [List.all_eq_true]
    intro b hb
    obtain ⟨k, hk, rfl⟩ := List.mem_iff_getElem.1 hb
    exact h k (by omega)
  rw [h1, h2, head_get s h0, hd]
  rfl

theorem plain_empty (s : ByteArray) (h0 : s.size = 0) : plainB s.data.toList = false := by
  have hl : s.data.toList.length = s.size := by simp
  have : s.data.toList = [] := List.length_eq_zero_iff.1 (by omega)
  rw [this]; rfl

theorem ok_of_small {b : UInt8} (h : b.toNat = 95 ∨ (97 ≤ b.toNat ∧ b.toNat ≤ 122)) : okB b = true ∧ digitB b = false := by
  unfold okB smallB digitB
  rcases h with h | ⟨h1, h2⟩
  · rw [h]; decide
  · have e1 : decide (97 ≤ b.toNat) = true := by simpa using h1
    have e2 : decide (b.toNat ≤ 122) = true := by simpa using h2
    have e3 : decide (b.toNat ≤ 57) = false := by simp; omega
    rw [e1, e2, e3]; simp
theorem ok_of_digit {b : UInt8} (h : 48 ≤ b.toNat ∧ b.toNat ≤ 57) : okB b = true ∧ digitB b = true := by
  have : digitB b = true := by unfold digitB; simp [h.1, h.2]
  exact ⟨by unfold okB; rw [this]; simp, this⟩
theorem ok_no {b : UInt8} (h1 : b.toNat ≠ 95) (h2 : ¬(97 ≤ b.toNat ∧ b.toNat ≤ 122)) (h3 : ¬(48 ≤ b.toNat ∧ b.toNat ≤ 57)) : okB b = false := by
  unfold okB smallB digitB
  rw [Bool.eq_false_iff]
  simp only [ne_eq, Bool.or_eq_true, Bool.and_eq_true, decide_eq_true_eq]
  omega

end Go.Proofs.YtpdcmmhhgnackaaGreatDoor

namespace Go.Proofs.YtpdcmmhhgnackaaGreatDoor

theorem decFrom_snocB : ∀ (l : List UInt8) (acc n : Nat) (b : UInt8) (d : Nat), Lib.decFrom acc l = some n → Lib.digitVal b = some d → Lib.decFrom acc (l ++ [b]) = some (n * 10 + d)
  | [], acc, n, b, d, h, hd => by
    cases h
    simp [Lib.decFrom, hd]
  | x :: r, acc, n, b, d, h, hd => by
    rw [Lib.decFrom] at h
    rw [List.cons_append, Lib.decFrom]
    cases hv : Lib.digitVal x with
    | none => rw [hv] at h; cases h
    | some e => rw [hv] at h; exact decFrom_snocB r _ n b d h hd

theorem digit_ofB (d : Nat) (h : d < 10) : Lib.digitVal (UInt8.ofNat (48 + d)) = some d := by
  have h2 : (UInt8.ofNat (48 + d)).toNat = 48 + d := by rw [UInt8.toNat_ofNat']; omega
  unfold Lib.digitVal
  rw [h2, if_pos (by omega)]
  congr 1
  omega

theorem decFrom_digitsB (u : Nat) : Lib.decFrom 0 (Lib.decDigits u) = some u := by
  induction u using Nat.strongRecOn with
  | ind u ih =>
    by_cases h : u < 10
    · rw [Lib.decDigits_one h, Lib.decFrom, digit_ofB u h]
      simp [Lib.decFrom]
    · rw [Lib.decDigits, dif_neg h, decFrom_snocB _ _ _ _ _ (ih (u / 10) (by omega)) (digit_ofB (u % 10) (by omega))]
      congr 1
      omega

theorem decDigits_neB (u : Nat) : Lib.decDigits u ≠ [] := by
  intro h
  have h1 := Lib.decDigits_length u
  have h2 := Lib.nDigits_pos u
  rw [h] at h1
  simp at h1
  omega

theorem itoa_natB (m : Nat) : Lib.itoa (m : Int) = Lib.decDigits m := by
  unfold Lib.itoa
  rw [if_neg (by omega), Int.toNat_natCast]

theorem nDigits_leB : ∀ (k u : Nat), 1 ≤ k → u < 10 ^ k → Lib.nDigits u ≤ k
  | 0, _, h, _ => by omega
  | k + 1, u, _, h => by
    by_cases hu : u < 10
    · rw [Lib.nDigits_small hu]; omega
    · rw [Lib.nDigits_big hu]
      rcases Nat.eq_zero_or_pos k with rfl | hk
      · simp at h; omega
      · have : u / 10 < 10 ^ k := by
          rw [Nat.pow_succ] at h
          exact Nat.div_lt_of_lt_mul (by rw [Nat.mul_comm]; exact h)
        have := nDigits_leB k (u / 10) hk this
        omega

theorem readD_inB (n : Int) (h0 : 0 ≤ n) (h1 : n ≤ 999999999) : readD (Lib.itoa n) = n := by
  obtain ⟨m, rfl⟩ := Int.eq_ofNat_of_zero_le h0
  have hl : (Lib.decDigits m).length ≤ 9 := by
    rw [Lib.decDigits_length]
    exact nDigits_leB 9 m (by omega) (by omega)
  rw [itoa_natB, readD_end hl (decDigits_neB m) (decFrom_digitsB m), itoa_natB, if_pos rfl]

end Go.Proofs.YtpdcmmhhgnackaaGreatDoor

namespace Go.Proofs.YtpdcmmhhgnackaaGreatDoor

def kidsK (k : Int) : Int := if k < 0 ∨ 18 < k then -1 else if k ≤ 5 then 0 else if k ≤ 7 then 1 else 2

/-- What one node asks for, but for its kids' own shape. -/
def node1 (k : Int) (t : ByteArray) (n : Int) (m : Nat) : Bool :=
  decide ((m : Int) = kidsK k) && (if k = 0 then nameB t.data.toList else if k = 2 then decide (t.size ≤ 100) else t.toList.isEmpty) && (if k = 1 then decide (0 ≤ n ∧ n ≤ 999999999) else decide (n = 0))

mutual
def shapeE : Ex → Bool
  | .mk k t n kids => node1 k t n kids.length && shapeL kids
def shapeL : List Ex → Bool
  | [] => true
  | e :: r => shapeE e && shapeL r
end

def leafW (k : Int) (t : ByteArray) (n : Int) : W :=
  if k = 0 then (if plainB t.data.toList && !keptB t.data.toList then (0, t.data.toList) else (1, t.data.toList))
  else if k = 1 then (2, Lib.itoa n) else if k = 2 then (3, t.data.toList) else if k = 3 then (0, wTrue) else if k = 4 then (0, wFalse) else (0, wNull)

def firstK (k : Int) : Nat := if bindsK k = 4 then 5 else bindsK k
def signW (k : Int) : W := (if k = 8 ∨ k = 9 then 0 else 4, signK k)

def wordsE : Ex → Nat → List W
  | .mk k t n [], least => if bindsK k < least then (4, [40]) :: (leafW k t n :: [(4, [41])]) else [leafW k t n]
  | .mk k _ _ [a], least =>
    if k = 6 then (if bindsK k < least then (4, [40]) :: ((0, wNot) :: wordsE a 3 ++ [(4, [41])]) else (0, wNot) :: wordsE a 3)
    else (if bindsK k < least then (4, [40]) :: (wordsE a 5 ++ [(0, wIs), (0, wNull)] ++ [(4, [41])]) else wordsE a 5 ++ [(0, wIs), (0, wNull)])
  | .mk k _ _ (a :: b :: _), least =>
    if bindsK k < least then (4, [40]) :: (wordsE a (firstK k) ++ signW k :: wordsE b (bindsK k + 1) ++ [(4, [41])]) else wordsE a (firstK k) ++ signW k :: wordsE b (bindsK k + 1)

theorem words_pos (e : Ex) (L : Nat) : 0 < (wordsE e L).length := by
  obtain ⟨k, t, n, kids⟩ := e
  match kids with
  | [] => rw [wordsE]; split <;> simp
  | [a] => rw [wordsE]; split <;> split <;> simp
  | a :: b :: r => rw [wordsE]; split <;> (simp; try omega)

/-- The brackets that are wanted. -/
theorem words_in {e : Ex} {L : Nat} (h : bindsK e.kind < L) : wordsE e L = (4, [40]) :: (wordsE e 1 ++ [(4, [41])]) := by
  obtain ⟨k, t, n, kids⟩ := e
  have h1 : ¬ bindsK k < 1 := by unfold bindsK; (repeat' split) <;> omega
  have h2 : bindsK k < L := h
  match kids with
  | [] => rw [wordsE, wordsE, if_pos h2, if_neg h1]; rfl
  | [a] =>
    rw [wordsE, wordsE]
    by_cases hk : k = 6
    · rw [if_pos hk, if_pos hk, if_pos h2, if_neg h1]
    · rw [if_neg hk, if_neg hk, if_pos h2, if_neg h1]
  | a :: b :: r => rw [wordsE, wordsE, if_pos h2, if_neg h1]

theorem words_out {e : Ex} {L L' : Nat} (h : ¬ bindsK e.kind < L) (h' : ¬ bindsK e.kind < L') : wordsE e L = wordsE e L' := by
  obtain ⟨k, t, n, kids⟩ := e
  have h1 : ¬ bindsK k < L := h
  have h2 : ¬ bindsK k < L' := h'
  match kids with
  | [] => rw [wordsE, wordsE, if_neg h1, if_neg h2]
  | [a] =>
    rw [wordsE, wordsE]
    by_cases hk : k = 6
    · rw [if_pos hk, if_pos hk, if_neg h1, if_neg h2]
    · rw [if_neg hk, if_neg hk, if_neg h1, if_neg h2]
  | a :: b :: r => rw [wordsE, wordsE, if_neg h1, if_neg h2]

/-- Nothing of strength L or more goes on here. -/
def Stop (L : Nat) (rest : List W) : Prop := ∀ x r, rest = x :: r → (∀ b, L ≤ b → b ≤ 6 → nextK x b = none) ∧ (L ≤ 4 → isW x wIs = false)

theorem Stop.mono {L L' : Nat} {rest : List W} (h : Stop L rest) (hl : L ≤ L') : Stop L' rest := fun x r e =>
  ⟨fun b hb hb' => (h x r e).1 b (by omega) hb', fun h4 => (h x r e).2 (by omega)⟩
theorem stop_nil (L : Nat) : Stop L [] := fun _ _ e => by cases e

theorem loop_stop {f L : Nat} {e : Ex} {rest : List W} (h : Stop L rest) (hL : L ≤ 6) : loopP f L e rest = (e, rest) := by
  cases f with
  | zero => rw [loopP]
  | succ f =>
    cases rest with
    | nil => rw [loopP]
    | cons x r =>
      obtain ⟨h1, h2⟩ := h x r rfl
      rw [loopP]
      rw [if_neg (by rintro ⟨rfl, h3, _⟩; rw [h2 (by omega)] at h3; cases h3), h1 L (Nat.le_refl _) hL]

def RTat (e : Ex) (L : Nat) : Prop := ∀ rest f, enough f L (wordsE e L ++ rest) → Stop L rest → anyP f L (wordsE e L ++ rest) = some (e, rest)
def Aat (e : Ex) (L : Nat) : Prop := ∀ rest f, enough f L (wordsE e L ++ rest) → Stop (L + 1) rest → ∃ f', enoughL f' L rest ∧ anyP f L (wordsE e L ++ rest) = some (loopP f' L e rest)

/-- One level down, where e is no sum of that level itself. -/
theorem step_down {e : Ex} {L : Nat} (hL : L ≤ 6) (hw : wordsE e L = wordsE e (L + 1)) (hn : L = 3 → ∀ rest, hdW (wordsE e L ++ rest) wNot = false) (h : RTat e (L + 1)) : Aat e L := by
  intro rest f hf hs
  have hp := words_pos e L
  unfold enough at hf
  rw [List.length_append] at hf
  obtain ⟨f, rfl⟩ : ∃ g, f = g + 1 := ⟨f - 1, by omega⟩
  refine ⟨f, by unfold enoughL; omega, ?_⟩
  rw [anyP, if_neg (by omega), if_neg (by rintro ⟨h3, h4⟩; rw [hn h3 rest] at h4; cases h4), hw]
  have := h rest f (by unfold enough; rw [← hw, List.length_append]; omega) hs
  rw [this]

theorem rt_of_a {e : Ex} {L : Nat} (hL : L ≤ 6) (h : Aat e L) : RTat e L := by
  intro rest f hf hs
  obtain ⟨f', _, h2⟩ := h rest f hf (hs.mono (by omega))
  rw [h2, loop_stop hs hL]

end Go.Proofs.YtpdcmmhhgnackaaGreatDoor

namespace Go.Proofs.YtpdcmmhhgnackaaGreatDoor
open Go.RowKit

theorem nodesL_mono (l : List Ex) (k : Nat) : nodesL (l.take k) ≤ nodesL l := by
  induction l generalizing k with
  | nil => simp
  | cons e r ih =>
    cases k with
    | zero => simp [nodesL]
    | succ k => simp only [List.take_succ_cons, nodesL]; have := ih k; omega

theorem nodesL_get {l : List Ex} {k : Nat} (h : k < l.length) : l[k].nodes ≤ nodesL l := by
  have h1 := nodesL_take l k h
  have h2 := nodesL_mono l (k + 1)
  omega

def NodesP (d : Nat) : Prop := ∀ (e : Ex) (a : Option Addr) (c : Nat) (w : World), e.nodes ≤ 1073741824 → KidsAt w d a c e.kids →
  Calls Tryz.prog 108 #[.agg #[.int .i64 e.kind, .string e.text, .int .i64 e.num, .slice a e.kids.length c]] w fun x w' => x = .returned (.int .i64 e.nodes) ∧ Below w.heap.size w w'

set_option maxHeartbeats 1000000 in
theorem specNodes : ∀ d, NodesP d
  | 0 => fun _ _ _ _ _ h => h.elim
  | d + 1 => by
    intro e a c w hn hk
    have ih := specNodes d
    have hne := Ex.nodes_eq e
    have hl := hk.len
    have HK := Lib.hid (fun w' hb => hk.below (w' := w') hb)
    clear hk
    generalize hks : e.kids = xs at *
    go_enter Tryz.func108, Tryz.ntmps108
    go_wp2_with fail
    go_loopw [3, 4] (fun n i wr => ∃ k : Nat, k ≤ xs.length ∧ i = .int .i64 k ∧ n = .int .i64 (1 + nodesL (xs.take k) : Nat) ∧ wr.cell? ⟨w.heap.size, 3, none⟩ = some (.slice a xs.length c) ∧ w.heap.size < wr.heap.size ∧ Below w.heap.size w wr) (fun _ i _ => xs.length - (intOf i).toNat)
    case atStart => exact ⟨0, Nat.zero_le _, rfl, by simp [nodesL], by simp [go_sem], by simp, (Below.refl _ _).alloc (Nat.le_refl _) _⟩
    case round =>
      obtain ⟨k, hk, rfl, rfl, h3, hlw, hb⟩ := hrel
      by_cases hlt : k < xs.length
      · obtain ⟨b, off, rfl, hbl, hc0, hc1, hc2, hfit, a', c', hc3, hkid⟩ := (HK.out _ hb).spot hlt
        have HT := Lib.hid (nodesL_take xs k hlt)
        have HL := Lib.hid (nodesL_mono xs (k + 1))
        have HG := Lib.hid (nodesL_get hlt)
        have HX := Lib.hid (fun w' hb => hkid.below (w' := w') hb)
        clear hkid
        go_wp2_with fail
        refine (ih xs[k] a' c' _ (by have := HG.out; omega) (HX.out _ (Below.refl _ _))).mono ?_
        rintro x w2 ⟨rfl, hb2⟩
        have h3' := (hb2.cell (p := ⟨w.heap.size, 3, none⟩) hlw).trans h3
        have hb' := hb.trans (hb2.mono hb.size)
        have hlw' := Nat.lt_of_lt_of_le hlw hb2.size
        have hsum : Hid ((1 + nodesL (xs.take k) : Nat) + (xs[k].nodes : Int) ≤ 1073741824) := by have := HT.out; have := HL.out; unfold Hid; omega
        have hsum' := hsum.out
        clear h3 hb hb2 hc0 hc1 hc2 hc3 hlw
        go_wp2_with fail
        go_roundw
        case rel => exact ⟨k + 1, by omega, by go_num, by rw [HT.out]; go_num, h3', hlw', hb'⟩
        case measure => simp [intOf]; omega
      · obtain rfl : k = xs.length := by omega
        go_wp2_with fail
        go_ret
        exact ⟨by rw [List.take_length, hne]; rfl, hb⟩

end Go.Proofs.YtpdcmmhhgnackaaGreatDoor
