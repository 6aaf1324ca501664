/- What FnTurns draws: types. -/
/- The program's reader of statements: the rest of a type. -/
/- impl.typeForms: the map of the forms, and what is looked up in it. -/
/- The model's names: spec.NameOk. -/
/- The program's names: impl.NameOk. -/
/- The forms' fits, and the model's TypeOk. -/
/- impl.TypeOk. -/
/- spec.Quote answers the text between quotes, each of its quotes doubled. -/
/- Which names are written plainly: by bytes. -/
import Derived.Test.YtjjdcdnaonfnmaaGreatDoorMLexImpl7
import Derived.Deep.RegionHeld3
import Derived.Maps.OwnSet
import Derived.Carry
import Derived.Test.YtjjdcdnaonfnmaaGreatDoorMLexImpl1
import Derived.Test.YtjjdcdnaonfnmaaGreatDoorMClone
import Derived.Test.YtjjdcdnaonfnmaaGreatDoorMLexQ
import Derived.IntWalk
namespace Go.Proofs.YtjjdcdnaonfnmaaGreatDoor
open Go.RowKit

/-- A type lies in block R. -/
def TyRow (W : World) (R : Nat) (k l : Int) (s : ByteArray) : Prop := W.heap[R]? = some (.cells #[.int .i64 k, .int .i64 l, .string s] 25 (0, 0))

theorem TyRow.cells {W : World} {R : Nat} {k l : Int} {s : ByteArray} (h : TyRow W R k l s) :
    W.cell? ⟨R, 0, none⟩ = some (.int .i64 k) ∧ W.cell? ⟨R, 1, none⟩ = some (.int .i64 l) ∧ W.cell? ⟨R, 2, none⟩ = some (.string s) ∧ ∀ j, W.frozen? ⟨R, j, none⟩ = false := by
  refine ⟨?_, ?_, ?_, fun j => frozen_of_row _ _ _ _ _ h⟩ <;> rw [cell_of_row _ _ _ _ _ _ h] <;> rfl

theorem TyRow.lt {W : World} {R : Nat} {k l : Int} {s : ByteArray} (h : TyRow W R k l s) : R < W.heap.size := by
  rcases Nat.lt_or_ge R W.heap.size with h' | h'
  · exact h'
  · unfold TyRow at h; rw [Array.getElem?_eq_none h'] at h; cases h

theorem TyRow.kept {W W' : World} {R g : Nat} {k l : Int} {s : ByteArray} (h : TyRow W R k l s) (hg : W.grownBy W' (some g)) (hne : R ≠ g) : TyRow W' R k l s :=
  (hg.block R h.lt (fun e => hne (by cases e; rfl))).trans h

theorem TyRow.alloc {W : World} {R : Nat} {k l : Int} {s : ByteArray} (h : TyRow W R k l s) (o : Obj) : TyRow (W.alloc o) R k l s :=
  (((Below.refl W.heap.size W).alloc (Nat.le_refl _) o).block R h.lt).trans h

theorem tyRow_new (W : World) (k l : Int) (s : ByteArray) : TyRow (W.alloc (.cells #[.int .i64 k, .int .i64 l, .string s] 25)) W.heap.size k l s := heap_alloc_new W _

/-- The cursor stands, and w has turned in it and in new blocks alone. -/
def DG (w0 : World) (a : Option Addr) (c : Nat) (l : List UInt8) (g : Nat) (w W : World) : Prop := Deck w0 a c l g W ∧ w.grownBy W (some g)

theorem DG.set {w0 : World} {a : Option Addr} {c : Nat} {l : List UInt8} {g : Nat} {w W : World} (h : DG w0 a c l g w W) (hw0 : w0.heap.size ≤ w.heap.size) {R : Nat} (hR : w.heap.size ≤ R) (hne : R ≠ g) (j : Nat) (v : Value) : DG w0 a c l g w (W.setCell ⟨R, j, none⟩ v) :=
  ⟨h.1.kept (grown_set W R j v) (fun k hk => by cases hk; exact ⟨Nat.le_trans hw0 hR, hne⟩), grown_any h.2 (grown_set W R j v) (fun j e => by cases e; exact hR)⟩

theorem DG.alloc {w0 : World} {a : Option Addr} {c : Nat} {l : List UInt8} {g : Nat} {w W : World} (h : DG w0 a c l g w W) (o : Obj) : DG w0 a c l g w (W.alloc o) := ⟨h.1.alloc o, grown_alloc h.2 o⟩

theorem DG.next {w0 : World} {a : Option Addr} {c : Nat} {l : List UInt8} {g : Nat} {w W W' : World} (h : DG w0 a c l g w W) (hd : Deck w0 a c l g W') (hg : W.grownBy W' (some g)) : DG w0 a c l g w W' := ⟨hd, grown_trans h.2 hg⟩

theorem DG.start {w0 : World} {a : Option Addr} {c : Nat} {l : List UInt8} {g : Nat} {w : World} (h : Deck w0 a c l g w) : DG w0 a c l g w w := ⟨h, ⟨rfl, rfl, rfl, Nat.le_refl _, fun _ _ _ => rfl⟩⟩

def IsTy (v : Value) : Prop := ∃ (k l : Int) (s : ByteArray), v = .agg #[.int .i64 k, .int .i64 l, .string s]

def moods : List ByteArray := [⟨#[109, 111, 111, 100]⟩, ⟨#[115, 105, 122, 101]⟩]
theorem moods_small : ∀ s ∈ moods, s.size ≤ 10 := by unfold moods; decide

set_option maxRecDepth 100000 in
set_option maxHeartbeats 4000000 in
theorem l03Type {w0 : World} {a : Option Addr} {c : Nat} {l : List UInt8} {g : Nat} {w : World} (hd : Deck w0 a c l g w) :
    Calls Tryz.prog 28 #[.pointer (some ⟨g, 0, none⟩)] w (Drawn w0 a c l g w IsTy) := by
  have hw0 : w0.heap.size ≤ w.heap.size := hd.below.size
  have hgl := hd.lt
  have hne : w.heap.size ≠ g := by omega
  go_enter Tryz.func28, Tryz.ntmps28
  go_wp2_with fail
  refine (l01Below (hd.alloc _) 6 (by omega) (by omega)).mono ?_
  rintro e w1 ⟨v, ⟨x, rfl, hx0, hx1⟩, rfl, hd1, hg1⟩
  have D1 := (DG.start hd).alloc (.cells #[.int .i64 0, .int .i64 0, .string ⟨#[]⟩] 25) |>.next hd1 hg1
  have R1 : TyRow w1 w.heap.size 0 0 ⟨#[]⟩ := (tyRow_new w 0 0 ⟨#[]⟩).kept hg1 hne
  have HD1 := Lib.hid D1
  have HR1 := Lib.hid R1
  have Hd1 := Lib.hid hd1
  clear hd1 hg1 D1 R1
  by_cases e0 : x = 0
  · subst e0
    go_wp2_with fail
    refine (l01PickIntP (Hd1.out.alloc _) (fun _ => True) w1.heap.size 3 _ (heap_alloc_new _ _) (by have := Hd1.out.lt; omega) rfl (by omega) (by omega) ?_).mono ?_
    · intro k v hv
      have hm := Array.mem_of_getElem? hv
      simp only [List.mem_toArray, List.mem_cons, List.not_mem_nil, or_false] at hm
      rcases hm with rfl | rfl | rfl <;> exact ⟨_, rfl, trivial⟩
    · rintro e w2 ⟨v, ⟨y, rfl, _⟩, rfl, hd2, hg2⟩
      have HD2 := Lib.hid ((HD1.out.alloc _).next hd2 hg2)
      obtain ⟨c0, c1, c2, cf⟩ := ((HR1.out.alloc _).kept hg2 hne).cells
      clear hd2 hg2
      go_wp2_with fail
      have D := ((HD2.out.set hw0 (Nat.le_refl _) hne 0 (.int .i64 3)).set hw0 (Nat.le_refl _) hne 1 (.int .i64 y)).set hw0 (Nat.le_refl _) hne 2 (.string ⟨#[]⟩)
      refine bodyPost_ret (v := .agg #[.int .i64 3, .int .i64 y, .string ⟨#[]⟩]) (by simp [results, Tryz.results28, go_sem, *]) rfl ⟨_, ⟨_, _, _, rfl⟩, rfl, D.1, D.2⟩
  · have n0 : (x == 0) = false := by rw [beq_eq_false_iff_ne]; exact e0
    by_cases e1 : x = 1
    · subst e1
      clear n0
      go_wp2_with fail
      refine (pickLit Hd1.out moods 2 rfl (fun s hs' => by have := moods_small s hs'; unfold maxLen; omega) (by decide) (by decide) _ rfl).mono ?_
      rintro e w2 ⟨v, ⟨u, rfl, _⟩, rfl, hd2, hg2⟩
      have HD2 := Lib.hid ((HD1.out.alloc _).next hd2 hg2)
      obtain ⟨c0, c1, c2, cf⟩ := ((HR1.out.alloc _).kept hg2 hne).cells
      clear hd2 hg2
      go_wp2_with fail
      have D := ((HD2.out.set hw0 (Nat.le_refl _) hne 0 (.int .i64 4)).set hw0 (Nat.le_refl _) hne 1 (.int .i64 0)).set hw0 (Nat.le_refl _) hne 2 (.string u)
      refine bodyPost_ret (v := .agg #[.int .i64 4, .int .i64 0, .string u]) (by simp [results, Tryz.results28, go_sem, *]) rfl ⟨_, ⟨_, _, _, rfl⟩, rfl, D.1, D.2⟩
    · have n1 : (x == 1) = false := by rw [beq_eq_false_iff_ne]; exact e1
      by_cases e2 : x = 2
      · subst e2
        clear n0 n1
        obtain ⟨c0, c1, c2, cf⟩ := HR1.out.cells
        go_wp2_with fail
        have D := ((HD1.out.set hw0 (Nat.le_refl _) hne 0 (.int .i64 2)).set hw0 (Nat.le_refl _) hne 1 (.int .i64 0)).set hw0 (Nat.le_refl _) hne 2 (.string ⟨#[]⟩)
        refine bodyPost_ret (v := .agg #[.int .i64 2, .int .i64 0, .string ⟨#[]⟩]) (by simp [results, Tryz.results28, go_sem, *]) rfl ⟨_, ⟨_, _, _, rfl⟩, rfl, D.1, D.2⟩
      · have n2 : (x == 2) = false := by rw [beq_eq_false_iff_ne]; exact e2
        by_cases e3 : x = 3
        · subst e3
          clear n0 n1 n2
          obtain ⟨c0, c1, c2, cf⟩ := HR1.out.cells
          go_wp2_with fail
          have D := ((HD1.out.set hw0 (Nat.le_refl _) hne 0 (.int .i64 1)).set hw0 (Nat.le_refl _) hne 1 (.int .i64 0)).set hw0 (Nat.le_refl _) hne 2 (.string ⟨#[]⟩)
          refine bodyPost_ret (v := .agg #[.int .i64 1, .int .i64 0, .string ⟨#[]⟩]) (by simp [results, Tryz.results28, go_sem, *]) rfl ⟨_, ⟨_, _, _, rfl⟩, rfl, D.1, D.2⟩
        · have n3 : (x == 3) = false := by rw [beq_eq_false_iff_ne]; exact e3
          clear e0 e1 e2 e3
          obtain ⟨c0, c1, c2, cf⟩ := HR1.out.cells
          go_wp2_with fail
          have D := ((HD1.out.set hw0 (Nat.le_refl _) hne 0 (.int .i64 0)).set hw0 (Nat.le_refl _) hne 1 (.int .i64 0)).set hw0 (Nat.le_refl _) hne 2 (.string ⟨#[]⟩)
          refine bodyPost_ret (v := .agg #[.int .i64 0, .int .i64 0, .string ⟨#[]⟩]) (by simp [results, Tryz.results28, go_sem, *]) rfl ⟨_, ⟨_, _, _, rfl⟩, rfl, D.1, D.2⟩

end Go.Proofs.YtjjdcdnaonfnmaaGreatDoor

namespace Go.Proofs.YtjjdcdnaonfnmaaGreatDoor
open Go.RowKit

abbrev TyA := Option (Int × Int × ByteArray × Nat)

/-- '(', a number, ')'. -/
def lenI (l : List Tk) (i : Nat) (k : Int) : TyA :=
  if hitT l i 4 ⟨#[40]⟩ = true then match valT l (i + 1) 2 with
    | some d => if hitT l (i + 2) 4 ⟨#[41]⟩ = true then some (k, readD d.data.toList, ⟨#[]⟩, i + 3) else none
    | none => none
  else none

/-- What the reader of a type answers. -/
def TyR (w : World) (rb : Nat) (a : Option Addr) (c : Nat) (l : List Tk) (m : Bool) (ans : TyA) (x : Ending) (w' : World) : Prop :=
  ∃ (k n : Int) (s : ByteArray), x = .returned (.agg #[.int .i64 k, .int .i64 n, .string s]) ∧ s.size ≤ 1048576 ∧ (Lit.int .i64 k).wf = true ∧
    ((m = false ∧ ∃ j, ans = some (k, n, s, j) ∧ j ≤ l.length ∧ SSt w rb a c l j false w') ∨ ((m = true ∨ ans = none) ∧ ∃ j, SSt w rb a c l j true w'))

theorem valT_lt {l : List Tk} {i : Nat} {k : Int} {t : ByteArray} (h : valT l i k = some t) : i < l.length := by
  rcases Nat.lt_or_ge i l.length with h' | h'
  · exact h'
  · unfold valT at h; rw [List.drop_eq_nil_of_le h'] at h; cases h
theorem hitT_lt {l : List Tk} {i : Nat} {k : Int} {t : ByteArray} (h : hitT l i k t = true) : i < l.length := by
  rcases Nat.lt_or_ge i l.length with h' | h'
  · exact h'
  · unfold hitT at h; rw [List.drop_eq_nil_of_le h'] at h; cases h

theorem typeAlloc (w : World) (o1 o2 o3 : Obj) : Below w.heap.size w (((w.alloc o1).alloc o2).alloc o3) := (((Below.refl _ _).alloc (Nat.le_refl _) _).alloc (by simp) _).alloc (by simp; omega) _

set_option maxRecDepth 100000 in
set_option maxHeartbeats 4000000 in
theorem stTypePlain {w : World} {rb : Nat} {a : Option Addr} {c : Nat} {l : List Tk} {i : Nat} {m : Bool} (h : SR w rb a c l i m) (k : Int) (hk : (Lit.int .i64 k).wf = true) (f : ByteArray) (mn mx : Int) (hmx : mx ≤ 0) (hi : i ≤ l.length) :
    Calls Tryz.prog 55 #[.pointer (some ⟨rb, 0, none⟩), .int .i64 k, .agg #[.string f, .int .i64 mn, .int .i64 mx, .bool false]] w (TyR w rb a c l m (some (k, 0, ⟨#[]⟩, i))) := by
  have HS := Lib.hid (fun o1 o2 o3 => (SSt.refl h).below (typeAlloc w o1 o2 o3))
  have hd : decide (0 < mx) = false := decide_eq_false (by omega)
  clear h
  go_enter Tryz.func55, Tryz.ntmps55
  go_wp2_with fail
  refine bodyPost_ret (v := .agg #[.int .i64 k, .int .i64 0, .string ⟨#[]⟩]) (by simp [results, Tryz.results55, go_sem]) rfl ?_
  refine ⟨k, 0, ⟨#[]⟩, rfl, by decide, hk, ?_⟩
  cases m with
  | false => exact .inl ⟨rfl, i, rfl, hi, HS.out _ _ _⟩
  | true => exact .inr ⟨.inl rfl, i, HS.out _ _ _⟩

/-- The reader, and the three blocks of a call of typeOf. -/
structure T3 (w : World) (rb : Nat) (a : Option Addr) (c : Nat) (l : List Tk) (i : Nat) (m : Bool) (f : ByteArray) (mn mx : Int) (nm : Bool) (k n : Int) (s : ByteArray) (W : World) : Prop where
  st : SSt w rb a c l i m W
  fr : W.heap[w.heap.size]? = some (.cells #[.string f, .int .i64 mn, .int .i64 mx, .bool nm] 38 (0, 0))
  rr : TyRow W (w.heap.size + 1) 0 0 ⟨#[]⟩
  tr : TyRow W (w.heap.size + 2) k n s

theorem T3.new {w : World} {rb : Nat} {a : Option Addr} {c : Nat} {l : List Tk} {i : Nat} {m : Bool} (h : SR w rb a c l i m) (f : ByteArray) (mn mx : Int) (nm : Bool) (k : Int) :
    T3 w rb a c l i m f mn mx nm k 0 ⟨#[]⟩ (((w.alloc (.cells #[.string f, .int .i64 mn, .int .i64 mx, .bool nm] 38)).alloc (.cells #[.int .i64 0, .int .i64 0, .string ⟨#[]⟩] 25)).alloc (.cells #[.int .i64 k, .int .i64 0, .string ⟨#[]⟩] 25)) := by
  have r1 := heap_alloc_new w (.cells #[.string f, .int .i64 mn, .int .i64 mx, .bool nm] 38)
  have r2 := tyRow_new (w.alloc (.cells #[.string f, .int .i64 mn, .int .i64 mx, .bool nm] 38)) 0 0 ⟨#[]⟩
  have r3 := tyRow_new ((w.alloc (.cells #[.string f, .int .i64 mn, .int .i64 mx, .bool nm] 38)).alloc (.cells #[.int .i64 0, .int .i64 0, .string ⟨#[]⟩] 25)) k 0 ⟨#[]⟩
  have z1 : (w.alloc (.cells #[.string f, .int .i64 mn, .int .i64 mx, .bool nm] 38)).heap.size = w.heap.size + 1 := by simp
  have z2 : ((w.alloc (.cells #[.string f, .int .i64 mn, .int .i64 mx, .bool nm] 38)).alloc (.cells #[.int .i64 0, .int .i64 0, .string ⟨#[]⟩] 25)).heap.size = w.heap.size + 2 := by simp
  rw [z1] at r2
  rw [z2] at r3
  refine ⟨(SSt.refl h).below (typeAlloc w _ _ _), ?_, r2.alloc _, r3⟩
  have b1 : Below (w.heap.size + 1) (w.alloc (.cells #[.string f, .int .i64 mn, .int .i64 mx, .bool nm] 38)) (((w.alloc (.cells #[.string f, .int .i64 mn, .int .i64 mx, .bool nm] 38)).alloc (.cells #[.int .i64 0, .int .i64 0, .string ⟨#[]⟩] 25)).alloc (.cells #[.int .i64 k, .int .i64 0, .string ⟨#[]⟩] 25)) :=
    ((Below.refl _ _).alloc (by simp) _).alloc (by simp) _
  exact (b1.block w.heap.size (by omega)).trans r1

theorem rowG {W W' : World} {rb b : Nat} {o : Obj} (h : W.heap[b]? = some o) (hg : W.grownBy W' (some rb)) (hne : b ≠ rb) : W'.heap[b]? = some o := by
  have hlt : b < W.heap.size := by
    rcases Nat.lt_or_ge b W.heap.size with h' | h'
    · exact h'
    · rw [Array.getElem?_eq_none h'] at h; cases h
  exact (hg.block b hlt (fun e => hne (Option.some.inj e))).trans h

theorem T3.next {w : World} {rb : Nat} {a : Option Addr} {c : Nat} {l : List Tk} {i j : Nat} {m m' : Bool} {f : ByteArray} {mn mx : Int} {nm : Bool} {k n : Int} {s : ByteArray} {W W' : World} (h : T3 w rb a c l i m f mn mx nm k n s W) (hrb : rb < w.heap.size) (h' : SSt W rb a c l j m' W') :
    T3 w rb a c l j m' f mn mx nm k n s W' :=
  ⟨h.st.trans h', rowG h.fr h'.gr (by omega), rowG h.rr h'.gr (by omega), rowG h.tr h'.gr (by omega)⟩

theorem T3.len {w : World} {rb : Nat} {a : Option Addr} {c : Nat} {l : List Tk} {i i0 : Nat} {m m0 : Bool} {f : ByteArray} {mn mx : Int} {nm : Bool} {k n : Int} {s : ByteArray} {W : World} (h : T3 w rb a c l i m f mn mx nm k n s W) (h0 : SR w rb a c l i0 m0) (n' : Int) :
    T3 w rb a c l i m f mn mx nm k n' s (W.setCell ⟨w.heap.size + 2, 1, none⟩ (.int .i64 n')) := by
  refine ⟨h.st.store h0 (by omega) _ _, (Below.heap_setCell _ _ _ _ (by show w.heap.size ≠ w.heap.size + 2; omega)).trans h.fr, (Below.heap_setCell _ _ _ _ (by show w.heap.size + 1 ≠ w.heap.size + 2; omega)).trans h.rr, ?_⟩
  show (W.heap.modify (w.heap.size + 2) _)[w.heap.size + 2]? = _
  rw [Array.getElem?_modify, if_pos rfl, h.tr]
  rfl

theorem T3.name {w : World} {rb : Nat} {a : Option Addr} {c : Nat} {l : List Tk} {i i0 : Nat} {m m0 : Bool} {f : ByteArray} {mn mx : Int} {nm : Bool} {k n : Int} {s : ByteArray} {W : World} (h : T3 w rb a c l i m f mn mx nm k n s W) (h0 : SR w rb a c l i0 m0) (s' : ByteArray) :
    T3 w rb a c l i m f mn mx nm k n s' (W.setCell ⟨w.heap.size + 2, 2, none⟩ (.string s')) := by
  refine ⟨h.st.store h0 (by omega) _ _, (Below.heap_setCell _ _ _ _ (by show w.heap.size ≠ w.heap.size + 2; omega)).trans h.fr, (Below.heap_setCell _ _ _ _ (by show w.heap.size + 1 ≠ w.heap.size + 2; omega)).trans h.rr, ?_⟩
  show (W.heap.modify (w.heap.size + 2) _)[w.heap.size + 2]? = _
  rw [Array.getElem?_modify, if_pos rfl, h.tr]
  rfl

theorem T3.cells {w : World} {rb : Nat} {a : Option Addr} {c : Nat} {l : List Tk} {i : Nat} {m : Bool} {f : ByteArray} {mn mx : Int} {nm : Bool} {k n : Int} {s : ByteArray} {W : World} (h : T3 w rb a c l i m f mn mx nm k n s W) :
    W.cell? ⟨w.heap.size, 3, none⟩ = some (.bool nm) ∧ (W.cell? ⟨w.heap.size + 2, 0, none⟩ = some (.int .i64 k) ∧ W.cell? ⟨w.heap.size + 2, 1, none⟩ = some (.int .i64 n) ∧ W.cell? ⟨w.heap.size + 2, 2, none⟩ = some (.string s)) ∧
    (∀ j, W.frozen? ⟨w.heap.size + 2, j, none⟩ = false) ∧ (W.cell? ⟨w.heap.size + 1, 0, none⟩ = some (.int .i64 0) ∧ W.cell? ⟨w.heap.size + 1, 1, none⟩ = some (.int .i64 0) ∧ W.cell? ⟨w.heap.size + 1, 2, none⟩ = some (.string ⟨#[]⟩)) ∧ ∀ j, W.frozen? ⟨w.heap.size + 1, j, none⟩ = false := by
  obtain ⟨t0, t1, t2, tf⟩ := h.tr.cells
  obtain ⟨r0, r1, r2, rf⟩ := h.rr.cells
  exact ⟨by rw [cell_of_row _ _ _ _ _ _ h.fr]; rfl, ⟨t0, t1, t2⟩, tf, ⟨r0, r1, r2⟩, rf⟩

/-- The answer is laid into the result's block. -/
theorem T3.out {w : World} {rb : Nat} {a : Option Addr} {c : Nat} {l : List Tk} {i i0 : Nat} {m m0 : Bool} {f : ByteArray} {mn mx : Int} {nm : Bool} {k n : Int} {s : ByteArray} {W : World} (h : T3 w rb a c l i m f mn mx nm k n s W) (h0 : SR w rb a c l i0 m0) (v0 v1 v2 : Value) :
    SSt w rb a c l i m (((W.setCell ⟨w.heap.size + 1, 0, none⟩ v0).setCell ⟨w.heap.size + 1, 1, none⟩ v1).setCell ⟨w.heap.size + 1, 2, none⟩ v2) :=
  ((h.st.store h0 (by omega) _ _).store h0 (by omega) _ _).store h0 (by omega) _ _

set_option maxRecDepth 100000 in
set_option maxHeartbeats 4000000 in
theorem stTypeLen {w : World} {rb : Nat} {a : Option Addr} {c : Nat} {l : List Tk} {i : Nat} {m : Bool} (h : SR w rb a c l i m) (hi : i ≤ 1000000) (k : Int) (hk : (Lit.int .i64 k).wf = true) (f : ByteArray) (mn mx : Int) (hmx : 0 < mx)
    (tp : TypeId) (p : Value) (hG : Glob tp p w) (hw16 : 6 ≤ w.heap.size) (hrb : 6 ≤ rb) :
    Calls Tryz.prog 55 #[.pointer (some ⟨rb, 0, none⟩), .int .i64 k, .agg #[.string f, .int .i64 mn, .int .i64 mx, .bool false]] w (TyR w rb a c l m (lenI l i k)) := by
  have hd : decide (0 < mx) = true := decide_eq_true (by omega)
  have HT := Lib.hid (T3.new h f mn mx false k)
  have HH := Lib.hid h
  have hrl := h.lt
  have HG : Hid (∀ W, w.grownBy W (some rb) → Glob tp p W) := fun W hg => hG.below ((Below.refl _ _).grown hg hw16 (fun k hk => by cases hk; exact hrb)) (Nat.le_refl _)
  obtain ⟨v1, hv1⟩ : ∃ v, hitT l i 4 ⟨#[40]⟩ = v := ⟨_, rfl⟩
  obtain ⟨i1, hi1⟩ : ∃ j, (if v1 then i + 1 else i) = j := ⟨_, rfl⟩
  have HI1 := Lib.hid hi1
  have HV1 := Lib.hid hv1
  have HS1 : Hid (∀ {W : World}, SR W rb a c l i m → Calls Tryz.prog 72 #[.pointer (some ⟨rb, 0, none⟩), .string ⟨#[40]⟩] W (STup W rb a c l i1 (m || !v1))) := fun hW => by rw [← hi1]; exact stSign hW (by omega) _ v1 hv1
  have hi1b : i1 ≤ 1000001 := by rw [← hi1]; split <;> omega
  clear h hG hv1 hi1
  go_enter Tryz.func55, Tryz.ntmps55
  go_wp2_with fail
  generalize ((w.alloc (.cells #[.string f, .int .i64 mn, .int .i64 mx, .bool false] 38)).alloc (.cells #[.int .i64 0, .int .i64 0, .string ⟨#[]⟩] 25)).alloc (.cells #[.int .i64 k, .int .i64 0, .string ⟨#[]⟩] 25) = W0 at HT ⊢
  refine (HS1.out HT.out.st.rd).mono ?_
  rintro x w1 ⟨rfl, s1⟩
  have H1 := Lib.hid (HT.out.next hrl s1)
  clear s1
  obtain ⟨c3, ⟨t0, t1, t2⟩, tf, _, _⟩ := H1.out.cells
  go_wp2_with fail
  refine (stNum H1.out.st.rd (by omega) tp p (HG.out _ H1.out.st.gr) (Nat.le_trans hw16 H1.out.st.gr.size) hrb).mono ?_
  clear c3 t0 t1 t2 tf
  intro x w2 hx
  obtain ⟨n, i2, m2, rfl, hnw, hi2b, s2, hans⟩ : ∃ (n : Int) (i2 : Nat) (m2 : Bool), x = .returned (.int .i64 n) ∧ True ∧ i2 ≤ 1000002 ∧ SSt w1 rb a c l i2 m2 w2 ∧ ((m2 = false ∧ (m || !v1) = false ∧ i2 = i1 + 1 ∧ ∃ t, valT l i1 2 = some t ∧ n = readD t.data.toList) ∨ (m2 = true ∧ ((m || !v1) = true ∨ valT l i1 2 = none))) := by
    rcases hx with ⟨h1, t, ht, hlt, rfl, s⟩ | ⟨h1, rfl, s⟩
    · exact ⟨_, _, _, rfl, trivial, by omega, s, .inl ⟨rfl, h1, rfl, t, ht, rfl⟩⟩
    · exact ⟨_, _, _, rfl, trivial, by omega, s, .inr ⟨rfl, h1⟩⟩
  have H2 := Lib.hid (H1.out.next hrl s2)
  have HA2 := Lib.hid hans
  clear s2 hx hans
  obtain ⟨c3, ⟨t0, t1, t2⟩, tf, _, _⟩ := H2.out.cells
  obtain ⟨v3, hv3⟩ : ∃ v, hitT l i2 4 ⟨#[41]⟩ = v := ⟨_, rfl⟩
  obtain ⟨i3, hi3⟩ : ∃ j, (if v3 then i2 + 1 else i2) = j := ⟨_, rfl⟩
  have HI3 := Lib.hid hi3
  have HV3 := Lib.hid hv3
  have HS3 : Hid (∀ {W : World}, SR W rb a c l i2 m2 → Calls Tryz.prog 72 #[.pointer (some ⟨rb, 0, none⟩), .string ⟨#[41]⟩] W (STup W rb a c l i3 (m2 || !v3))) := fun hW => by rw [← hi3]; exact stSign hW (by omega) _ v3 hv3
  have HL := Lib.hid (fun n' => H2.out.len HH.out n')
  clear hv3 hi3
  go_wp2_with fail
  refine (HS3.out (HL.out n).st.rd).mono ?_
  rintro x w3 ⟨rfl, s3⟩
  have H3 := Lib.hid ((HL.out n).next hrl s3)
  clear s3 c3 t0 t1 t2 tf
  obtain ⟨c3, ⟨t0, t1, t2⟩, tf, ⟨r0, r1, r2⟩, rf⟩ := H3.out.cells
  go_wp2_with fail
  refine bodyPost_ret (v := .agg #[.int .i64 k, .int .i64 n, .string ⟨#[]⟩]) (by simp [results, Tryz.results55, go_sem, *]) rfl ?_
  refine ⟨k, n, ⟨#[]⟩, rfl, by decide, hk, ?_⟩
  have hO := H3.out.out HH.out (.int .i64 k) (.int .i64 n) (.string ⟨#[]⟩)
  have hI1 := HI1.out
  have hI3 := HI3.out
  rcases HA2.out with ⟨rfl, hm, rfl, t, ht, rfl⟩ | ⟨rfl, hm⟩
  · rw [Bool.or_eq_false_iff, Bool.not_eq_false'] at hm
    obtain ⟨rfl, rfl⟩ := hm
    rw [if_pos rfl] at hI1
    subst hI1
    cases v3 with
    | true =>
      rw [if_pos rfl] at hI3
      subst hI3
      refine .inl ⟨rfl, i + 1 + 1 + 1, ?_, ?_, hO⟩
      · unfold lenI; rw [if_pos HV1.out, ht]; simp only; rw [if_pos HV3.out]
      · have := hitT_lt HV3.out; omega
    | false =>
      refine .inr ⟨.inr ?_, _, hO⟩
      unfold lenI; rw [if_pos HV1.out, ht]; simp only; rw [if_neg (by rw [HV3.out]; decide)]
  · refine .inr ⟨?_, _, by simpa using hO⟩
    rcases hm with hm | hm
    · cases m with
      | true => exact .inl rfl
      | false =>
        have : v1 = false := by simpa using hm
        subst this
        refine .inr ?_
        unfold lenI; rw [if_neg (by rw [HV1.out]; decide)]
    · cases v1 with
      | false => refine .inr ?_; unfold lenI; rw [if_neg (by rw [HV1.out]; decide)]
      | true =>
        rw [if_pos rfl] at hI1
        subst hI1
        refine .inr ?_
        unfold lenI; rw [if_pos HV1.out, hm]

end Go.Proofs.YtjjdcdnaonfnmaaGreatDoor

namespace Go.Proofs.YtjjdcdnaonfnmaaGreatDoor
open Go.RowKit Go.Maps

/-- How a form reads. -/
def formR : Value → Option (DataW Unit × List MemPlace)
  | .agg cs => match cs.toList with
    | [.string s, .int .i64 a, .int .i64 b, .bool c] => some (.agg [.lit (.string s.data.toList), .lit (.int .i64 a), .lit (.int .i64 b), .lit (.bool c)], [])
    | _ => none
  | _ => none

def formD (l : List UInt8) (a b : Int) (c : Bool) : DataW Unit := .agg [.lit (.string l), .lit (.int .i64 a), .lit (.int .i64 b), .lit (.bool c)]
def formVal (s : ByteArray) (a b : Int) (c : Bool) : Value := .agg #[.string s, .int .i64 a, .int .i64 b, .bool c]

theorem formR_mk (s : ByteArray) (a b : Int) (c : Bool) : formR (.agg #[.string s, .int .i64 a, .int .i64 b, .bool c]) = some (formD s.data.toList a b c, []) := rfl

theorem formR_inv {v : Value} {l : List UInt8} {a b : Int} {c : Bool} {ps : List MemPlace} (h : formR v = some (formD l a b c, ps)) : v = formVal ⟨l.toArray⟩ a b c := by
  unfold formR at h
  split at h
  · split at h
    · rename_i hcs
      simp only [formD, Option.some.injEq, Prod.mk.injEq, DataW.agg.injEq, List.cons.injEq, DataW.lit.injEq, Lit.string.injEq, Lit.int.injEq, Lit.bool.injEq, and_true, true_and] at h
      obtain ⟨⟨rfl, rfl, rfl, rfl⟩, _⟩ := h
      have e : ∀ (cs : Array Value) (l : List Value), cs.toList = l → cs = l.toArray := fun cs l h => by rw [← h]
      rw [e _ _ hcs]
      rfl
    · cases h
  · cases h

def key (n : Int) : Lit := .int .i64 n

/-- What the map reads as. -/
def formsD : DataW Unit :=
  ((((((DataW.map []).put (key 0) (formD [105, 110, 116] 0 0 false)).put (key 1) (formD [116, 101, 120, 116] 0 0 false)).put (key 2) (formD [98, 111, 111, 108] 0 0 false)).put (key 3) (formD [99, 104, 97, 114] 1 100 false)).put (key 4) (formD [101, 110, 117, 109] 0 0 true))

/-- The form of a kind; where there is none: nothing. -/
def formOf (n : Int) : Value :=
  if n = 0 then formVal ⟨#[105, 110, 116]⟩ 0 0 false else if n = 1 then formVal ⟨#[116, 101, 120, 116]⟩ 0 0 false else if n = 2 then formVal ⟨#[98, 111, 111, 108]⟩ 0 0 false
  else if n = 3 then formVal ⟨#[99, 104, 97, 114]⟩ 1 100 false else if n = 4 then formVal ⟨#[101, 110, 117, 109]⟩ 0 0 true else formVal ⟨#[]⟩ 0 0 false

theorem lawKey : Keyed Tryz.prog 3 := int_keyed Tryz.underlying3
theorem keyIs (n : Int) (h : (Lit.int .i64 n).wf = true) : keyOf Tryz.prog 3 (.int .i64 n) = some (key n) := keyOf_int_mk Tryz.underlying3 h

theorem upd {w : World} {b n : Nat} {D : DataW Unit} (h : w.ownsMap Tryz.prog 3 formR b n D) (hn : n < 100) (j : Int) (hj : (Lit.int .i64 j).wf = true) (s : ByteArray) (x y : Int) (c : Bool) :
    ∃ w', (Instr.mapUpdate 40 (.map (some b)) (.int .i64 j) (.agg #[.string s, .int .i64 x, .int .i64 y, .bool c])).run Tryz.prog w = .ok () w' ∧ w'.ownsMap Tryz.prog 3 formR b (n + 1) (D.put (key j) (formD s.data.toList x y c)) ∧ w.grownBy w' (some b) :=
  h.update lawKey Tryz.underlying40 (by unfold maxLen; omega) (keyIs j hj) (formR_mk s x y c)

set_option maxHeartbeats 1000000 in
theorem implForms (w : World) : Calls Tryz.prog 14 #[] w fun e w' => e = .returned (.map (some w.heap.size)) ∧ w'.ownsMap Tryz.prog 3 formR w.heap.size 5 formsD ∧ Below w.heap.size w w' := by
  have hmm := @run_makeMap Tryz.prog
  have B0 : Below w.heap.size w (w.alloc (.map #[] 0)) := (Below.refl _ _).alloc (Nat.le_refl _) _
  obtain ⟨w1, r1, o1, g1⟩ := upd (World.ownsMap_made w Tryz.prog 3 formR) (by omega) 0 (by decide) ⟨#[105, 110, 116]⟩ 0 0 false
  obtain ⟨w2, r2, o2, g2⟩ := upd o1 (by omega) 1 (by decide) ⟨#[116, 101, 120, 116]⟩ 0 0 false
  obtain ⟨w3, r3, o3, g3⟩ := upd o2 (by omega) 2 (by decide) ⟨#[98, 111, 111, 108]⟩ 0 0 false
  obtain ⟨w4, r4, o4, g4⟩ := upd o3 (by omega) 3 (by decide) ⟨#[99, 104, 97, 114]⟩ 1 100 false
  obtain ⟨w5, r5, o5, g5⟩ := upd o4 (by omega) 4 (by decide) ⟨#[101, 110, 117, 109]⟩ 0 0 true
  have st : ∀ k, some w.heap.size = some k → w.heap.size ≤ k := fun k hk => by cases hk; exact Nat.le_refl _
  have B1 := B0.grown g1 B0.size st
  have B2 := B1.grown g2 B1.size st
  have B3 := B2.grown g3 B2.size st
  have B4 := B3.grown g4 B3.size st
  have B5 := B4.grown g5 B4.size st
  have HO : Hid (w5.ownsMap Tryz.prog 3 formR w.heap.size 5 formsD) := o5
  have HB := Lib.hid B5
  clear o1 o2 o3 o4 o5 g1 g2 g3 g4 g5 B0 B1 B2 B3 B4 B5 st
  go_enter Tryz.func14, Tryz.ntmps14
  go_wp2_with fail
  go_ret
  exact ⟨rfl, HO.out, HB.out⟩

theorem zeroForm (w : World) : (zeroValue 38).run Tryz.prog w = .ok (formVal ⟨#[]⟩ 0 0 false) w := by kernel_rfl

theorem key_ne {m n : Int} (h : m ≠ n) : key m ≠ key n := fun e => h (by cases e; rfl)

theorem at_none {n : Int} (h : ¬(0 ≤ n ∧ n ≤ 4)) (z : DataW Unit) : formsD.atKey (key n) z = z ∧ Maps.has formsD (key n) = false := by
  unfold formsD
  constructor
  · rw [atKey_put_other (key_ne (by omega)), atKey_put_other (key_ne (by omega)), atKey_put_other (key_ne (by omega)), atKey_put_other (key_ne (by omega)), atKey_put_other (key_ne (by omega))]
    rfl
  · rw [has_put_other (key_ne (by omega)), has_put_other (key_ne (by omega)), has_put_other (key_ne (by omega)), has_put_other (key_ne (by omega)), has_put_other (key_ne (by omega))]
    rfl

/-- What 'form, known := typeForms()[n]' gives. -/
theorem lookForm {w : World} {b : Nat} (h : w.ownsMap Tryz.prog 3 formR b 5 formsD) (n : Int) (hn : (Lit.int .i64 n).wf = true) :
    (Instr.lookup 40 (.map (some b)) (.int .i64 n) true).run Tryz.prog w = .ok (.tuple #[formOf n, .bool (decide (0 ≤ n ∧ n ≤ 4))]) w := by
  obtain ⟨v, ps, hrun, hv⟩ := h.look_ok lawKey Tryz.underlying40 (zeroForm w) (formR_mk ⟨#[]⟩ 0 0 false) (keyIs n hn)
  rw [hrun]
  by_cases hr : 0 ≤ n ∧ n ≤ 4
  · have hc : n = 0 ∨ n = 1 ∨ n = 2 ∨ n = 3 ∨ n = 4 := by omega
    have hd : decide (0 ≤ n ∧ n ≤ 4) = true := decide_eq_true hr
    rw [hd]
    rcases hc with rfl | rfl | rfl | rfl | rfl
    · have h1 : formsD.atKey (key 0) (formD [] 0 0 false) = formD [105, 110, 116] 0 0 false := rfl
      have h2 : Maps.has formsD (key 0) = true := rfl
      rw [formR_inv (hv.trans (by rw [h1])), h2]; rfl
    · have h1 : formsD.atKey (key 1) (formD [] 0 0 false) = formD [116, 101, 120, 116] 0 0 false := rfl
      have h2 : Maps.has formsD (key 1) = true := rfl
      rw [formR_inv (hv.trans (by rw [h1])), h2]; rfl
    · have h1 : formsD.atKey (key 2) (formD [] 0 0 false) = formD [98, 111, 111, 108] 0 0 false := rfl
      have h2 : Maps.has formsD (key 2) = true := rfl
      rw [formR_inv (hv.trans (by rw [h1])), h2]; rfl
    · have h1 : formsD.atKey (key 3) (formD [] 0 0 false) = formD [99, 104, 97, 114] 1 100 false := rfl
      have h2 : Maps.has formsD (key 3) = true := rfl
      rw [formR_inv (hv.trans (by rw [h1])), h2]; rfl
    · have h1 : formsD.atKey (key 4) (formD [] 0 0 false) = formD [101, 110, 117, 109] 0 0 true := rfl
      have h2 : Maps.has formsD (key 4) = true := rfl
      rw [formR_inv (hv.trans (by rw [h1])), h2]; rfl
  · have hd : decide (0 ≤ n ∧ n ≤ 4) = false := decide_eq_false hr
    obtain ⟨h1, h2⟩ := at_none hr (formD [] 0 0 false)
    have h3 : formOf n = formVal ⟨#[]⟩ 0 0 false := by
      unfold formOf
      rw [if_neg (by omega), if_neg (by omega), if_neg (by omega), if_neg (by omega), if_neg (by omega)]
    rw [formR_inv (hv.trans (by rw [h1])), h2, hd, h3]

end Go.Proofs.YtjjdcdnaonfnmaaGreatDoor

namespace Go.Proofs.YtjjdcdnaonfnmaaGreatDoor
open Go.RowKit

theorem specNameOk (s : ByteArray) (w : World) (hs : s.size ≤ 1048576) (v : Bool) (hv : nameB s.data.toList = v) :
    Calls Tryz.prog 21 #[.string s] w fun e w' => e = .returned (.bool v) ∧ w = w' := by
  subst hv
  go_enter Tryz.func21, Tryz.ntmps21
  go_wp2_with fail
  refine (specName s _ hs).mono ?_
  rintro e w' ⟨rfl, rfl⟩
  go_wp2_with fail
  go_ret
  exact ⟨rfl, rfl⟩

end Go.Proofs.YtjjdcdnaonfnmaaGreatDoor

namespace Go.Proofs.YtjjdcdnaonfnmaaGreatDoor
open Go.RowKit

theorem implNameOk (s : ByteArray) (w : World) (v : Bool) (hv : nameB s.data.toList = v) :
    Calls Tryz.prog 32 #[.string s] w fun e w' => e = .returned (.bool v) ∧ w = w' := by
  go_enter Tryz.func32, Tryz.ntmps32
  go_wp2_with fail
  refine (implNameFits s _ v hv).mono ?_
  rintro e w' ⟨rfl, rfl⟩
  go_wp2_with fail
  go_ret
  exact ⟨rfl, rfl⟩

end Go.Proofs.YtjjdcdnaonfnmaaGreatDoor

namespace Go.Proofs.YtjjdcdnaonfnmaaGreatDoor
open Go.RowKit

/-- A type fits a form. -/
def fitsB (mn mx : Int) (nm : Bool) (l : Int) (s : ByteArray) : Bool :=
  if l < mn then false else if mx < l then false else if nm then nameB s.data.toList else s.toList.isEmpty

def typeOkB (k l : Int) (s : ByteArray) : Bool :=
  if k = 0 ∨ k = 1 ∨ k = 2 then (l == 0) && s.toList.isEmpty else if k = 3 then inI l 1 100 && s.toList.isEmpty else if k = 4 then (l == 0) && nameB s.data.toList else false

set_option maxHeartbeats 1000000 in
theorem implFits (f : ByteArray) (mn mx : Int) (nm : Bool) (k l : Int) (s : ByteArray) (w : World) (v : Bool) (hv : fitsB mn mx nm l s = v) :
    Calls Tryz.prog 15 #[.agg #[.string f, .int .i64 mn, .int .i64 mx, .bool nm], .agg #[.int .i64 k, .int .i64 l, .string s]] w fun e w' => e = .returned (.bool v) ∧ Below w.heap.size w w' := by
  by_cases h1 : l < mn
  · have HV : Hid (v = false) := by unfold Hid; rw [← hv, fitsB, if_pos h1]
    have f1 : decide (l < mn) = true := decide_eq_true h1
    clear hv h1
    go_enter Tryz.func15, Tryz.ntmps15
    go_wp2_with fail
    go_ret
    exact ⟨by rw [HV.out]; rfl, below2 _ _ _⟩
  · have f1 : decide (l < mn) = false := decide_eq_false h1
    by_cases h2 : mx < l
    · have HV : Hid (v = false) := by unfold Hid; rw [← hv, fitsB, if_neg h1, if_pos h2]
      have f2 : decide (mx < l) = true := decide_eq_true h2
      clear hv h1 h2
      go_enter Tryz.func15, Tryz.ntmps15
      go_wp2_with fail
      go_ret
      exact ⟨by rw [HV.out]; rfl, below2 _ _ _⟩
    · have f2 : decide (mx < l) = false := decide_eq_false h2
      cases nm with
      | true =>
        have HV : Hid (nameB s.data.toList = v) := by unfold Hid; rw [← hv, fitsB, if_neg h1, if_neg h2]; rfl
        clear hv h1 h2
        go_enter Tryz.func15, Tryz.ntmps15
        go_wp2_with fail
        refine (implNameOk s _ v HV.out).mono ?_
        rintro e w1 ⟨rfl, rfl⟩
        go_wp2_with fail
        go_ret
        exact ⟨rfl, below2 _ _ _⟩
      | false =>
        have HV : Hid (v = s.toList.isEmpty) := by unfold Hid; rw [← hv, fitsB, if_neg h1, if_neg h2]; rfl
        clear hv h1 h2
        go_enter Tryz.func15, Tryz.ntmps15
        go_wp2_with fail
        go_ret
        exact ⟨by rw [HV.out]; rfl, below2 _ _ _⟩

theorem typeOk_eq (k l : Int) (s : ByteArray) (h : 0 ≤ k ∧ k ≤ 4) : ∃ f mn mx nm, formOf k = .agg #[.string f, .int .i64 mn, .int .i64 mx, .bool nm] ∧ fitsB mn mx nm l s = typeOkB k l s := by
  have hc : k = 0 ∨ k = 1 ∨ k = 2 ∨ k = 3 ∨ k = 4 := by omega
  have h00 : ∀ c : Bool, (if l < 0 then false else if 0 < l then false else c) = ((l == 0) && c) := fun c => by
    by_cases a : l < 0
    · rw [if_pos a, show (l == 0) = false by rw [beq_eq_false_iff_ne]; omega]; rfl
    · rw [if_neg a]
      by_cases b : 0 < l
      · rw [if_pos b, show (l == 0) = false by rw [beq_eq_false_iff_ne]; omega]; rfl
      · rw [if_neg b, show (l == 0) = true by rw [beq_iff_eq]; omega]; rfl
  have h11 : ∀ c : Bool, (if l < 1 then false else if 100 < l then false else c) = (inI l 1 100 && c) := fun c => by
    unfold inI
    by_cases a : l < 1
    · rw [if_pos a, decide_eq_false (by omega : ¬ 1 ≤ l)]; rfl
    · rw [if_neg a, decide_eq_true (by omega : 1 ≤ l)]
      by_cases b : 100 < l
      · rw [if_pos b, decide_eq_false (by omega : ¬ l ≤ 100)]; rfl
      · rw [if_neg b, decide_eq_true (by omega : l ≤ 100)]; rfl
  rcases hc with rfl | rfl | rfl | rfl | rfl
  · exact ⟨_, _, _, _, rfl, h00 _⟩
  · exact ⟨_, _, _, _, rfl, h00 _⟩
  · exact ⟨_, _, _, _, rfl, h00 _⟩
  · exact ⟨_, _, _, _, rfl, h11 _⟩
  · exact ⟨_, _, _, _, rfl, h00 _⟩

set_option maxHeartbeats 4000000 in
theorem specTypeOk (k l : Int) (s : ByteArray) (w : World) (hs : s.size ≤ 1048576) (v : Bool) (hv : typeOkB k l s = v) :
    Calls Tryz.prog 9 #[.agg #[.int .i64 k, .int .i64 l, .string s]] w fun e w' => e = .returned (.bool v) ∧ Below w.heap.size w w' := by
  have b1 : Below w.heap.size w (w.alloc (.cells #[.int .i64 k, .int .i64 l, .string s] 25)) := (Below.refl _ _).alloc (Nat.le_refl _) _
  have HB := Lib.hid b1
  clear b1
  by_cases hk : 0 ≤ k ∧ k ≤ 4
  · have hc : k = 0 ∨ k = 1 ∨ k = 2 ∨ k = 3 ∨ k = 4 := by omega
    clear hk
    rcases hc with rfl | rfl | rfl | rfl | rfl
    · cases h1 : (l == 0) with
      | false =>
        have HV : Hid (v = false) := by unfold Hid; rw [← hv]; show ((l == 0) && _) = _; rw [h1]; rfl
        clear hv
        go_enter Tryz.func9, Tryz.ntmps9
        go_wp2_with fail
        refine (specInIs _ 0 4 _ true (by decide)).mono ?_
        rintro e w1 ⟨rfl, rfl⟩
        go_wp2_with fail
        go_ret
        exact ⟨by rw [HV.out]; rfl, HB.out⟩
      | true =>
        have HV : Hid (v = s.toList.isEmpty) := by unfold Hid; rw [← hv]; show ((l == 0) && _) = _; rw [h1]; rfl
        clear hv
        go_enter Tryz.func9, Tryz.ntmps9
        go_wp2_with fail
        refine (specInIs _ 0 4 _ true (by decide)).mono ?_
        rintro e w1 ⟨rfl, rfl⟩
        go_wp2_with fail
        go_ret
        exact ⟨by rw [HV.out]; rfl, HB.out⟩
    · cases h1 : (l == 0) with
      | false =>
        have HV : Hid (v = false) := by unfold Hid; rw [← hv]; show ((l == 0) && _) = _; rw [h1]; rfl
        clear hv
        go_enter Tryz.func9, Tryz.ntmps9
        go_wp2_with fail
        refine (specInIs _ 0 4 _ true (by decide)).mono ?_
        rintro e w1 ⟨rfl, rfl⟩
        go_wp2_with fail
        go_ret
        exact ⟨by rw [HV.out]; rfl, HB.out⟩
      | true =>
        have HV : Hid (v = s.toList.isEmpty) := by unfold Hid; rw [← hv]; show ((l == 0) && _) = _; rw [h1]; rfl
        clear hv
        go_enter Tryz.func9, Tryz.ntmps9
        go_wp2_with fail
        refine (specInIs _ 0 4 _ true (by decide)).mono ?_
        rintro e w1 ⟨rfl, rfl⟩
        go_wp2_with fail
        go_ret
        exact ⟨by rw [HV.out]; rfl, HB.out⟩
    · cases h1 : (l == 0) with
      | false =>
        have HV : Hid (v = false) := by unfold Hid; rw [← hv]; show ((l == 0) && _) = _; rw [h1]; rfl
        clear hv
        go_enter Tryz.func9, Tryz.ntmps9
        go_wp2_with fail
        refine (specInIs _ 0 4 _ true (by decide)).mono ?_
        rintro e w1 ⟨rfl, rfl⟩
        go_wp2_with fail
        go_ret
        exact ⟨by rw [HV.out]; rfl, HB.out⟩
      | true =>
        have HV : Hid (v = s.toList.isEmpty) := by unfold Hid; rw [← hv]; show ((l == 0) && _) = _; rw [h1]; rfl
        clear hv
        go_enter Tryz.func9, Tryz.ntmps9
        go_wp2_with fail
        refine (specInIs _ 0 4 _ true (by decide)).mono ?_
        rintro e w1 ⟨rfl, rfl⟩
        go_wp2_with fail
        go_ret
        exact ⟨by rw [HV.out]; rfl, HB.out⟩
    · cases h1 : inI l 1 100 with
      | false =>
        have HV : Hid (v = false) := by unfold Hid; rw [← hv]; show (inI l 1 100 && _) = _; rw [h1]; rfl
        have H1 := Lib.hid h1
        clear hv h1
        go_enter Tryz.func9, Tryz.ntmps9
        go_wp2_with fail
        refine (specInIs _ 0 4 _ true (by decide)).mono ?_
        rintro e w1 ⟨rfl, rfl⟩
        go_wp2_with fail
        refine (specInIs _ 1 100 _ false H1.out).mono ?_
        rintro e w1 ⟨rfl, rfl⟩
        go_wp2_with fail
        go_ret
        exact ⟨by rw [HV.out]; rfl, HB.out⟩
      | true =>
        have HV : Hid (v = s.toList.isEmpty) := by unfold Hid; rw [← hv]; show (inI l 1 100 && _) = _; rw [h1]; rfl
        have H1 := Lib.hid h1
        clear hv h1
        go_enter Tryz.func9, Tryz.ntmps9
        go_wp2_with fail
        refine (specInIs _ 0 4 _ true (by decide)).mono ?_
        rintro e w1 ⟨rfl, rfl⟩
        go_wp2_with fail
        refine (specInIs _ 1 100 _ true H1.out).mono ?_
        rintro e w1 ⟨rfl, rfl⟩
        go_wp2_with fail
        go_ret
        exact ⟨by rw [HV.out]; rfl, HB.out⟩
    · cases h1 : (l == 0) with
      | false =>
        have HV : Hid (v = false) := by unfold Hid; rw [← hv]; show ((l == 0) && _) = _; rw [h1]; rfl
        clear hv
        go_enter Tryz.func9, Tryz.ntmps9
        go_wp2_with fail
        refine (specInIs _ 0 4 _ true (by decide)).mono ?_
        rintro e w1 ⟨rfl, rfl⟩
        go_wp2_with fail
        go_ret
        exact ⟨by rw [HV.out]; rfl, HB.out⟩
      | true =>
        cases h2 : nameB s.data.toList with
        | false =>
          have HV : Hid (v = false) := by unfold Hid; rw [← hv]; show ((l == 0) && _) = _; rw [h1, h2]; rfl
          have H2 := Lib.hid h2
          clear hv h2
          go_enter Tryz.func9, Tryz.ntmps9
          go_wp2_with fail
          refine (specInIs _ 0 4 _ true (by decide)).mono ?_
          rintro e w1 ⟨rfl, rfl⟩
          go_wp2_with fail
          refine (specNameOk s _ hs false H2.out).mono ?_
          rintro e w1 ⟨rfl, rfl⟩
          go_wp2_with fail
          go_ret
          exact ⟨by rw [HV.out]; rfl, HB.out⟩
        | true =>
          have HV : Hid (v = true) := by unfold Hid; rw [← hv]; show ((l == 0) && _) = _; rw [h1, h2]; rfl
          have H2 := Lib.hid h2
          clear hv h2
          go_enter Tryz.func9, Tryz.ntmps9
          go_wp2_with fail
          refine (specInIs _ 0 4 _ true (by decide)).mono ?_
          rintro e w1 ⟨rfl, rfl⟩
          go_wp2_with fail
          refine (specNameOk s _ hs true H2.out).mono ?_
          rintro e w1 ⟨rfl, rfl⟩
          go_wp2_with fail
          go_ret
          exact ⟨by rw [HV.out]; rfl, HB.out⟩
  · have HV : Hid (v = false) := by
      unfold Hid
      rw [← hv, typeOkB, if_neg (by omega), if_neg (by omega), if_neg (by omega)]
    have HI : Hid (inI k 0 4 = false) := by
      unfold Hid inI
      rw [Bool.and_eq_false_iff, decide_eq_false_iff_not, decide_eq_false_iff_not]
      omega
    clear hv hk
    go_enter Tryz.func9, Tryz.ntmps9
    go_wp2_with fail
    refine (specInIs _ 0 4 _ false HI.out).mono ?_
    rintro e w1 ⟨rfl, rfl⟩
    go_wp2_with fail
    go_ret
    exact ⟨by rw [HV.out]; rfl, HB.out⟩

end Go.Proofs.YtjjdcdnaonfnmaaGreatDoor

namespace Go.Proofs.YtjjdcdnaonfnmaaGreatDoor
open Go.RowKit

theorem drew_heap (W : World) : W.drew.heap = W.heap := rfl

theorem blockCells {W w1 : World} (hb : Below W.heap.size W w1) : (∀ b o, b < W.heap.size → w1.cell? ⟨b, o, none⟩ = W.cell? ⟨b, o, none⟩) ∧ (∀ b o, b < W.heap.size → w1.frozen? ⟨b, o, none⟩ = W.frozen? ⟨b, o, none⟩) :=
  ⟨fun b o h => hb.cell (p := ⟨b, o, none⟩) h, fun b o h => hb.frozen (p := ⟨b, o, none⟩) h⟩

theorem below_setCell {B : Nat} {w0 w : World} (h : Below B w0 w) {q j : Nat} {v : Value} (hB : B ≤ w.heap.size) (hq : B ≤ q) : Below B w0 (w.setCell ⟨q, j, none⟩ v) :=
  h.grown (row := some q) ⟨rfl, rfl, rfl, by simp [World.setCell], fun k _ hne => Below.heap_setCell _ _ _ _ (fun e => hne (by rw [e]))⟩ hB (fun k hk => by cases hk; exact hq)

theorem size_setCell (w : World) (a : Addr) (v : Value) : (w.setCell a v).heap.size = w.heap.size := by simp [World.setCell]

set_option maxHeartbeats 2000000 in
theorem implTypeOk (k l : Int) (s : ByteArray) (w : World) (hk : (Lit.int .i64 k).wf = true) (v : Bool) (hv : typeOkB k l s = v) :
    Calls Tryz.prog 8 #[.agg #[.int .i64 k, .int .i64 l, .string s]] w fun e w' => e = .returned (.bool v) ∧ Below w.heap.size w w' := by
  have hlay := Lib.hid (lay1_new w 25 k l s)
  by_cases hr : 0 ≤ k ∧ k ≤ 4
  · obtain ⟨f, mn, mx, nm, hf, hfit⟩ := typeOk_eq k l s hr
    have hd : decide (0 ≤ k ∧ k ≤ 4) = true := decide_eq_true hr
    have HL : Hid (∀ (W : World) (b : Nat), W.ownsMap Tryz.prog 3 formR b 5 formsD → (Instr.lookup 40 (.map (some b)) (.int .i64 k) true).run Tryz.prog W = .ok (.tuple #[.agg #[.string f, .int .i64 mn, .int .i64 mx, .bool nm], .bool true]) W) :=
      fun W b h => by rw [lookForm h k hk, hf, hd]
    have HF : Hid (fitsB mn mx nm l s = v) := hfit.trans hv
    clear hf hfit hv hr hd hk
    go_enter Tryz.func8, Tryz.ntmps8
    go_wp2_with fail
    generalize w.alloc (.cells #[.int .i64 k, .int .i64 l, .string s] 25) = W0 at hlay ⊢
    obtain ⟨⟨c0, c1, c2⟩, hlt0, hb0⟩ := hlay.out
    have hne : ¬ W0.heap.size = w.heap.size := by omega
    have hne' : ¬ w.heap.size = W0.heap.size := by omega
    have hst : Hid (∀ a b : World, W0.heap.size ≤ a.heap.size → (a.cell? ⟨w.heap.size, 0, none⟩ = some (.int .i64 k) ∧ a.cell? ⟨w.heap.size, 1, none⟩ = some (.int .i64 l) ∧ a.cell? ⟨w.heap.size, 2, none⟩ = some (.string s)) → Below a.heap.size a b → (b.cell? ⟨w.heap.size, 0, none⟩ = some (.int .i64 k) ∧ b.cell? ⟨w.heap.size, 1, none⟩ = some (.int .i64 l) ∧ b.cell? ⟨w.heap.size, 2, none⟩ = some (.string s))) :=
      fun a b hle h hb => ⟨(hb.cell (p := ⟨w.heap.size, 0, none⟩) (Nat.lt_of_lt_of_le hlt0 hle)).trans h.1, (hb.cell (p := ⟨w.heap.size, 1, none⟩) (Nat.lt_of_lt_of_le hlt0 hle)).trans h.2.1, (hb.cell (p := ⟨w.heap.size, 2, none⟩) (Nat.lt_of_lt_of_le hlt0 hle)).trans h.2.2⟩
    have HB0 := Lib.hid hb0
    clear hb0
    go_region_held3 (fun w' => w'.cell? ⟨w.heap.size, 0, none⟩ = some (.int .i64 k) ∧ w'.cell? ⟨w.heap.size, 1, none⟩ = some (.int .i64 l) ∧ w'.cell? ⟨w.heap.size, 2, none⟩ = some (.string s))
      (go_keep)
      ((go_at_call 14; refine (implForms _).mono ?_; rintro e w1 ⟨rfl, o1, b1⟩; have q1 := HL.out _ _ o1; have q2 := fun o => HL.out _ _ (World.ownsMap.alloc o1 o); obtain ⟨hcw, hfw⟩ := blockCells b1; (try simp only [World.size_alloc, drew_heap] at q1 q2); obtain ⟨d0, d1, d2⟩ := hst.out _ _ (by simp) (by assumption) b1; have O1 := Lib.hid o1; have B1 := Lib.hid b1; clear o1 b1))
    · go_wp2_with fail
      refine (implFits f mn mx nm k l s _ v HF.out).mono ?_
      rintro e w9 ⟨rfl, b9⟩
      go_wp2_with fail
      go_ret
      have h0 := HB0.out.drew
      have h1 : Below w.heap.size w w1 := h0.trans (B1.out.mono h0.size)
      have h2 := h1.alloc h1.size (.cells #[.string f, .int .i64 mn, .int .i64 mx, .bool nm] 38)
      exact ⟨rfl, h2.trans (b9.mono h2.size)⟩
    · go_wp2_with fail
      refine (implFits f mn mx nm k l s _ v HF.out).mono ?_
      rintro e w9 ⟨rfl, b9⟩
      go_wp2_with fail
      go_ret
      have h0 := HB0.out.drew
      have h1 : Below w.heap.size w w1 := h0.trans (B1.out.mono h0.size)
      have h2 := h1.alloc h1.size (.cells #[.string f, .int .i64 mn, .int .i64 mx, .bool nm] 38)
      exact ⟨rfl, h2.trans (b9.mono h2.size)⟩
    · go_wp2_with fail
      refine (implFits f mn mx nm k l s _ v HF.out).mono ?_
      rintro e w9 ⟨rfl, b9⟩
      go_wp2_with fail
      go_ret
      have h0 := HB0.out.drew
      have h0a := h0.alloc h0.size (.cells #[.string ⟨#[]⟩, .int .i64 0, .int .i64 0, .bool false] 38)
      have h1 : Below w.heap.size w w1 := h0a.trans (B1.out.mono h0a.size)
      have hq : w.heap.size ≤ W0.heap.size := Nat.le_of_lt hlt0
      have s1 := below_setCell (j := 0) (v := .string f) h1 h1.size hq
      have s2 := below_setCell (j := 1) (v := .int .i64 mn) s1 s1.size hq
      have s3 := below_setCell (j := 2) (v := .int .i64 mx) s2 s2.size hq
      have h2 := below_setCell (j := 3) (v := .bool nm) s3 s3.size hq
      exact ⟨rfl, h2.trans (b9.mono h2.size)⟩
  · have hd : decide (0 ≤ k ∧ k ≤ 4) = false := decide_eq_false hr
    obtain ⟨f, mn, mx, nm, hf⟩ : ∃ f mn mx nm, formOf k = .agg #[.string f, .int .i64 mn, .int .i64 mx, .bool nm] := ⟨⟨#[]⟩, 0, 0, false, by
      unfold formOf
      rw [if_neg (by omega), if_neg (by omega), if_neg (by omega), if_neg (by omega), if_neg (by omega)]
      rfl⟩
    have HL : Hid (∀ (W : World) (b : Nat), W.ownsMap Tryz.prog 3 formR b 5 formsD → (Instr.lookup 40 (.map (some b)) (.int .i64 k) true).run Tryz.prog W = .ok (.tuple #[.agg #[.string f, .int .i64 mn, .int .i64 mx, .bool nm], .bool false]) W) :=
      fun W b h => by rw [lookForm h k hk, hf, hd]
    have HF : Hid (v = false) := by
      unfold Hid
      rw [← hv, typeOkB, if_neg (by omega), if_neg (by omega), if_neg (by omega)]
    clear hf hv hr hd hk
    go_enter Tryz.func8, Tryz.ntmps8
    go_wp2_with fail
    generalize w.alloc (.cells #[.int .i64 k, .int .i64 l, .string s] 25) = W0 at hlay ⊢
    obtain ⟨⟨c0, c1, c2⟩, hlt0, hb0⟩ := hlay.out
    have hne : ¬ W0.heap.size = w.heap.size := by omega
    have hne' : ¬ w.heap.size = W0.heap.size := by omega
    have hst : Hid (∀ a b : World, W0.heap.size ≤ a.heap.size → (a.cell? ⟨w.heap.size, 0, none⟩ = some (.int .i64 k) ∧ a.cell? ⟨w.heap.size, 1, none⟩ = some (.int .i64 l) ∧ a.cell? ⟨w.heap.size, 2, none⟩ = some (.string s)) → Below a.heap.size a b → (b.cell? ⟨w.heap.size, 0, none⟩ = some (.int .i64 k) ∧ b.cell? ⟨w.heap.size, 1, none⟩ = some (.int .i64 l) ∧ b.cell? ⟨w.heap.size, 2, none⟩ = some (.string s))) :=
      fun a b hle h hb => ⟨(hb.cell (p := ⟨w.heap.size, 0, none⟩) (Nat.lt_of_lt_of_le hlt0 hle)).trans h.1, (hb.cell (p := ⟨w.heap.size, 1, none⟩) (Nat.lt_of_lt_of_le hlt0 hle)).trans h.2.1, (hb.cell (p := ⟨w.heap.size, 2, none⟩) (Nat.lt_of_lt_of_le hlt0 hle)).trans h.2.2⟩
    have HB0 := Lib.hid hb0
    clear hb0
    go_region_held3 (fun w' => w'.cell? ⟨w.heap.size, 0, none⟩ = some (.int .i64 k) ∧ w'.cell? ⟨w.heap.size, 1, none⟩ = some (.int .i64 l) ∧ w'.cell? ⟨w.heap.size, 2, none⟩ = some (.string s))
      (go_keep)
      ((go_at_call 14; refine (implForms _).mono ?_; rintro e w1 ⟨rfl, o1, b1⟩; have q1 := HL.out _ _ o1; have q2 := fun o => HL.out _ _ (World.ownsMap.alloc o1 o); obtain ⟨hcw, hfw⟩ := blockCells b1; (try simp only [World.size_alloc, drew_heap] at q1 q2); obtain ⟨d0, d1, d2⟩ := hst.out _ _ (by simp) (by assumption) b1; have O1 := Lib.hid o1; have B1 := Lib.hid b1; clear o1 b1))
    · go_wp2_with fail
      go_ret
      have h0 := HB0.out.drew
      have h1 : Below w.heap.size w w1 := h0.trans (B1.out.mono h0.size)
      have h2 := h1.alloc h1.size (.cells #[.string f, .int .i64 mn, .int .i64 mx, .bool nm] 38)
      exact ⟨by rw [HF.out]; rfl, h2⟩
    · go_wp2_with fail
      go_ret
      have h0 := HB0.out.drew
      have h1 : Below w.heap.size w w1 := h0.trans (B1.out.mono h0.size)
      have h2 := h1.alloc h1.size (.cells #[.string f, .int .i64 mn, .int .i64 mx, .bool nm] 38)
      exact ⟨by rw [HF.out]; rfl, h2⟩
    · go_wp2_with fail
      go_ret
      have h0 := HB0.out.drew
      have h0a := h0.alloc h0.size (.cells #[.string ⟨#[]⟩, .int .i64 0, .int .i64 0, .bool false] 38)
      have h1 : Below w.heap.size w w1 := h0a.trans (B1.out.mono h0a.size)
      have hq : w.heap.size ≤ W0.heap.size := Nat.le_of_lt hlt0
      have s1 := below_setCell (j := 0) (v := .string f) h1 h1.size hq
      have s2 := below_setCell (j := 1) (v := .int .i64 mn) s1 s1.size hq
      have s3 := below_setCell (j := 2) (v := .int .i64 mx) s2 s2.size hq
      have h2 := below_setCell (j := 3) (v := .bool nm) s3 s3.size hq
      exact ⟨by rw [HF.out]; rfl, h2⟩

end Go.Proofs.YtjjdcdnaonfnmaaGreatDoor

namespace Go.Proofs.YtjjdcdnaonfnmaaGreatDoor
open Go.RowKit

def dbl (q : UInt8) (t : List UInt8) : List UInt8 := t.flatMap fun b => if b = q then [q, b] else [b]
def quoteT (s : ByteArray) (q : UInt8) : ByteArray := ⟨(quoteL q s.data.toList).toArray⟩

theorem dbl_eq (q : UInt8) (s : ByteArray) (k : Nat) (h : k < s.size) (he : s[k] = q) : dbl q (s.data.toList.take (k + 1)) = dbl q (s.data.toList.take k) ++ [q] ++ [s[k]] := by
  unfold dbl
  rw [take_snoc s k h, List.flatMap_append]
  simp [he]
theorem dbl_ne (q : UInt8) (s : ByteArray) (k : Nat) (h : k < s.size) (he : s[k] ≠ q) : dbl q (s.data.toList.take (k + 1)) = dbl q (s.data.toList.take k) ++ [s[k]] := by
  unfold dbl
  rw [take_snoc s k h, List.flatMap_append]
  simp [he]
theorem dbl_len (q : UInt8) (t : List UInt8) : (dbl q t).length ≤ 2 * t.length := by
  unfold dbl
  induction t with
  | nil => simp
  | cons b r ih =>
    rw [List.flatMap_cons, List.length_append, List.length_cons]
    split
    · simp only [List.length_cons, List.length_nil]; omega
    · simp only [List.length_cons, List.length_nil]; omega

set_option maxHeartbeats 1000000 in
theorem specQuote (s : ByteArray) (y : UInt8) (w : World) (hs : s.size ≤ 1048576) :
    Calls Tryz.prog 42 #[.string s, .int .u8 (y.toNat : Int)] w fun e w' => e = .returned (.string (quoteT s y)) ∧ Below w.heap.size w w' := by
  obtain ⟨i0, hi0, hz0, hz1, hz2⟩ := info_parts Tryz.infoByte
  have hy := byte_le y
  go_enter Tryz.func42, Tryz.ntmps42
  go_wp2
  go_loopw [5, 6] (fun v i wr => ∃ (k : Nat) (a1 : Option Addr) (c1 : Nat) (l1 : List UInt8), k ≤ s.size ∧ i = .int .i64 k ∧ v = .slice a1 l1.length c1 ∧ Hid (l1 = y :: dbl y (s.data.toList.take k)) ∧ OwnB wr w.heap.size a1 c1 l1 ∧ Below w.heap.size w wr) (fun _ i _ => s.size - (intOf i).toNat)
  case atStart => exact ⟨0, _, _, [y], Nat.zero_le _, rfl, rfl, rfl, ownBOne w y, (Below.refl _ _).alloc (Nat.le_refl _) _⟩
  case round =>
    obtain ⟨k, a1, c1, l1, hk, rfl, rfl, hl1, hown, hb⟩ := hrel
    have hsz := hb.size
    have hlk : l1.length ≤ 3000000 := by
      have h1 := dbl_len y (s.data.toList.take k)
      have h2 : (s.data.toList.take k).length ≤ k := List.length_take_le _ _
      rw [hl1.out]
      simp only [List.length_cons]
      omega
    by_cases hlt : k < s.size
    · have hby := byte_le s[k]
      by_cases he : s[k] = y
      · have HS := Lib.hid (dbl_eq y s k hlt he)
        have ht := byte_eq he
        have HE := Lib.hid he
        clear he
        go_wp2_with (first
          | ((at_builtin; refine wpAppendByte rfl (.tmp 20) (.tmp 22) rfl i0 hi0 hz0 hz1 hz2 w.heap.size a1 c1 l1 wr.heap.size y rfl (hown.alloc _) rfl (by simp) (by omega) (by simp; omega) ?_; intro a2 c2 w2 l2 hl2 hown2 hg2 _); (have hb2 : Below w.heap.size w w2 := (hb.alloc hsz _).grown hg2 (by simp; omega) (fun q hq => (hown.lt hq).1)); (have hsz2 := hb2.size); (have hlk2 : l2.length ≤ 3000001 := by rw [hid_len hl2]; omega))
          | (at_builtin; refine wpAppendByte rfl (.tmp 24) (.tmp 28) rfl i0 hi0 hz0 hz1 hz2 w.heap.size a2 c2 l2 w2.heap.size s[k] rfl (hown2.alloc _) rfl (by simp) (by omega) (by simp; omega) ?_; intro a3 c3 w3 l3 hl3 hown3 hg3 _))
        have hb3 : Below w.heap.size w w3 := (hb2.alloc hsz2 _).grown hg3 (by simp; omega) (fun q hq => (hown2.lt hq).1)
        go_roundw
        case rel => exact ⟨k + 1, a3, c3, l3, by omega, by go_num, rfl, by unfold Hid; rw [hl3.out, hl2.out, hl1.out, HS.out]; simp, hown3, hb3⟩
        case measure => simp [intOf]; omega
      · have HS := Lib.hid (dbl_ne y s k hlt he)
        have ht := byte_ne he
        have HE := Lib.hid he
        clear he
        go_wp2_with (at_builtin; refine wpAppendByte rfl (.tmp 24) (.tmp 28) rfl i0 hi0 hz0 hz1 hz2 w.heap.size a1 c1 l1 wr.heap.size s[k] rfl (hown.alloc _) rfl (by simp) (by omega) (by simp; omega) ?_; intro a3 c3 w3 l3 hl3 hown3 hg3 _)
        have hb3 : Below w.heap.size w w3 := (hb.alloc hsz _).grown hg3 (by simp; omega) (fun q hq => (hown.lt hq).1)
        go_roundw
        case rel => exact ⟨k + 1, a3, c3, l3, by omega, by go_num, rfl, by unfold Hid; rw [hl3.out, hl1.out, HS.out]; simp, hown3, hb3⟩
        case measure => simp [intOf]; omega
    · obtain rfl : k = s.size := by omega
      have HQ : Hid (quoteL y s.data.toList = l1 ++ [y]) := by
        unfold Hid
        rw [hl1.out, List.take_of_length_le (by simp)]
        simp [quoteL, dbl]
      go_wp2_with (at_builtin; refine wpAppendByte rfl (.tmp 30) (.tmp 32) rfl i0 hi0 hz0 hz1 hz2 w.heap.size a1 c1 l1 wr.heap.size y rfl (hown.alloc _) rfl (by simp) (by omega) (by simp; omega) ?_; intro a3 c3 w3 l3 hl3 hown3 hg3 _; have hcv := convBytes hown3)
      have hb3 : Below w.heap.size w w3 := (hb.alloc hsz _).grown hg3 (by simp; omega) (fun q hq => (hown.lt hq).1)
      go_ret
      exact ⟨by rw [quoteT, HQ.out, ← hl3.out]; rfl, hb3⟩

end Go.Proofs.YtjjdcdnaonfnmaaGreatDoor

namespace Go.Proofs.YtjjdcdnaonfnmaaGreatDoor
open Go.RowKit

def smallB (b : UInt8) : Bool := decide (b.toNat = 95) || (decide (97 ≤ b.toNat) && decide (b.toNat ≤ 122))
def okB (b : UInt8) : Bool := smallB b || digitB b
def plainB (l : List UInt8) : Bool := !l.isEmpty && (!digitB (l.headD 0) && l.all okB)
/-- How a name is written. -/
def nameT (s : ByteArray) : ByteArray := if plainB s.data.toList && !keptB s.data.toList then s else quoteT s 34

theorem head_get (s : ByteArray) (h : 0 < s.size) : s.data.toList.headD 0 = s[0] := by
  have hl : s.data.toList.length = s.size := by simp
  match hs : s.data.toList, hl with
  | [], hl => simp at hl; omega
  | b :: r, _ =>
    have : s[0] = s.data.toList[0]'(by rw [hs]; simp) := rfl
    rw [this]
    simp [hs]

theorem list_get (s : ByteArray) (k : Nat) (h : k < s.size) : s.data.toList[k]'(by simpa using h) = s[k] := rfl

theorem plain_no (s : ByteArray) (k : Nat) (h : k < s.size) (hb : okB s[k] = false ∨ (k = 0 ∧ digitB s[k] = true)) : plainB s.data.toList = false := by
  unfold plainB
  rcases hb with hb | ⟨rfl, hb⟩
  · have : s.data.toList.all okB = false := by
      rw [List.all_eq_false]
      exact ⟨s[k], by rw [← list_get s k h]; exact List.getElem_mem _, by rw [hb]; simp⟩
    rw [this]; simp
  · rw [head_get s h, hb]; simp

theorem plain_yes (s : ByteArray) (h0 : 0 < s.size) (h : ∀ (j : Nat) (hj : j < s.size), okB s[j] = true) (hd : digitB s[0] = false) : plainB s.data.toList = true := by
  have hl : s.data.toList.length = s.size := by simp
  unfold plainB
  have h1 : s.data.toList.isEmpty = false := by rw [List.isEmpty_eq_false_iff]; intro e; rw [e] at hl; simp at hl; omega
  have h2 : s.data.toList.all okB = true := by
    rw [List.all_eq_true]
    intro b hb
    obtain ⟨k, hk, rfl⟩ := List.mem_iff_getElem.1 hb
    exact h k (by omega)
  rw [h1, h2, head_get s h0, hd]
  rfl

theorem plain_empty (s : ByteArray) (h0 : s.size = 0) : plainB s.data.toList = false := by
  have hl : s.data.toList.length = s.size := by simp
  have : s.data.toList = [] := List.length_eq_zero_iff.1 (by omega)
  rw [this]; rfl

theorem ok_of_small {b : UInt8} (h : b.toNat = 95 ∨ (97 ≤ b.toNat ∧ b.toNat ≤ 122)) : okB b = true ∧ digitB b = false := by
  unfold okB smallB digitB
  rcases h with h | ⟨h1, h2⟩
  · rw [h]; decide
  · have e1 : decide (97 ≤ b.toNat) = true := by simpa using h1
    have e2 : decide (b.toNat ≤ 122) = true := by simpa using h2
    have e3 : decide (b.toNat ≤ 57) = false := by simp; omega
    rw [e1, e2, e3]; simp
theorem ok_of_digit {b : UInt8} (h : 48 ≤ b.toNat ∧ b.toNat ≤ 57) : okB b = true ∧ digitB b = true := by
  have : digitB b = true := by unfold digitB; simp [h.1, h.2]
  exact ⟨by unfold okB; rw [this]; simp, this⟩
theorem ok_no {b : UInt8} (h1 : b.toNat ≠ 95) (h2 : ¬(97 ≤ b.toNat ∧ b.toNat ≤ 122)) (h3 : ¬(48 ≤ b.toNat ∧ b.toNat ≤ 57)) : okB b = false := by
  unfold okB smallB digitB
  rw [Bool.eq_false_iff]
  simp only [ne_eq, Bool.or_eq_true, Bool.and_eq_true, decide_eq_true_eq]
  omega

end Go.Proofs.YtjjdcdnaonfnmaaGreatDoor
