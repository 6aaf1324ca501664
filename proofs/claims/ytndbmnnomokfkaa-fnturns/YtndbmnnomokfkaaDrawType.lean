/- What FnTurns draws: types. -/
import Derived.Test.YtndbmnnomokfkaaTyp2
import Derived.Test.YtndbmnnomokfkaaDrawQuote
import Derived.Deep.RegionHeld3
namespace Go.Proofs.Ytndbmnnomokfkaa
open Go.RowKit

/-- A type lies in block R. -/
def TyRow (W : World) (R : Nat) (k l : Int) (s : ByteArray) : Prop := W.heap[R]? = some (.cells #[.int .i64 k, .int .i64 l, .string s] 25 (0, 0))

theorem TyRow.cells {W : World} {R : Nat} {k l : Int} {s : ByteArray} (h : TyRow W R k l s) :
    W.cell? ⟨R, 0, none⟩ = some (.int .i64 k) ∧ W.cell? ⟨R, 1, none⟩ = some (.int .i64 l) ∧ W.cell? ⟨R, 2, none⟩ = some (.string s) ∧ ∀ j, W.frozen? ⟨R, j, none⟩ = false := by
  refine ⟨?_, ?_, ?_, fun j => frozen_of_row _ _ _ _ _ h⟩ <;> rw [cell_of_row _ _ _ _ _ _ h] <;> rfl

theorem TyRow.lt {W : World} {R : Nat} {k l : Int} {s : ByteArray} (h : TyRow W R k l s) : R < W.heap.size := by
  rcases Nat.lt_or_ge R W.heap.size with h' | h'
  · exact h'
  · unfold TyRow at h; rw [Array.getElem?_eq_none h'] at h; cases h

theorem TyRow.kept {W W' : World} {R g : Nat} {k l : Int} {s : ByteArray} (h : TyRow W R k l s) (hg : W.grownBy W' (some g)) (hne : R ≠ g) : TyRow W' R k l s :=
  (hg.block R h.lt (fun e => hne (by cases e; rfl))).trans h

theorem TyRow.alloc {W : World} {R : Nat} {k l : Int} {s : ByteArray} (h : TyRow W R k l s) (o : Obj) : TyRow (W.alloc o) R k l s :=
  (((Below.refl W.heap.size W).alloc (Nat.le_refl _) o).block R h.lt).trans h

theorem tyRow_new (W : World) (k l : Int) (s : ByteArray) : TyRow (W.alloc (.cells #[.int .i64 k, .int .i64 l, .string s] 25)) W.heap.size k l s := heap_alloc_new W _

/-- The cursor stands, and w has turned in it and in new blocks alone. -/
def DG (w0 : World) (a : Option Addr) (c : Nat) (l : List UInt8) (g : Nat) (w W : World) : Prop := Deck w0 a c l g W ∧ w.grownBy W (some g)

theorem DG.set {w0 : World} {a : Option Addr} {c : Nat} {l : List UInt8} {g : Nat} {w W : World} (h : DG w0 a c l g w W) (hw0 : w0.heap.size ≤ w.heap.size) {R : Nat} (hR : w.heap.size ≤ R) (hne : R ≠ g) (j : Nat) (v : Value) : DG w0 a c l g w (W.setCell ⟨R, j, none⟩ v) :=
  ⟨h.1.kept (grown_set W R j v) (fun k hk => by cases hk; exact ⟨Nat.le_trans hw0 hR, hne⟩), grown_any h.2 (grown_set W R j v) (fun j e => by cases e; exact hR)⟩

theorem DG.alloc {w0 : World} {a : Option Addr} {c : Nat} {l : List UInt8} {g : Nat} {w W : World} (h : DG w0 a c l g w W) (o : Obj) : DG w0 a c l g w (W.alloc o) := ⟨h.1.alloc o, grown_alloc h.2 o⟩

theorem DG.next {w0 : World} {a : Option Addr} {c : Nat} {l : List UInt8} {g : Nat} {w W W' : World} (h : DG w0 a c l g w W) (hd : Deck w0 a c l g W') (hg : W.grownBy W' (some g)) : DG w0 a c l g w W' := ⟨hd, grown_trans h.2 hg⟩

theorem DG.start {w0 : World} {a : Option Addr} {c : Nat} {l : List UInt8} {g : Nat} {w : World} (h : Deck w0 a c l g w) : DG w0 a c l g w w := ⟨h, ⟨rfl, rfl, rfl, Nat.le_refl _, fun _ _ _ => rfl⟩⟩

def IsTy (v : Value) : Prop := ∃ (k l : Int) (s : ByteArray), v = .agg #[.int .i64 k, .int .i64 l, .string s]

def moods : List ByteArray := [⟨#[109, 111, 111, 100]⟩, ⟨#[115, 105, 122, 101]⟩]
theorem moods_small : ∀ s ∈ moods, s.size ≤ 10 := by unfold moods; decide

set_option maxRecDepth 100000 in
set_option maxHeartbeats 4000000 in
theorem l03Type {w0 : World} {a : Option Addr} {c : Nat} {l : List UInt8} {g : Nat} {w : World} (hd : Deck w0 a c l g w) :
    Calls Try.prog 36 #[.pointer (some ⟨g, 0, none⟩)] w (Drawn w0 a c l g w IsTy) := by
  have hw0 : w0.heap.size ≤ w.heap.size := hd.below.size
  have hgl := hd.lt
  have hne : w.heap.size ≠ g := by omega
  go_enter Try.func36, Try.ntmps36
  go_wp2_with fail
  refine (l01Below (hd.alloc _) 6 (by omega) (by omega)).mono ?_
  rintro e w1 ⟨v, ⟨x, rfl, hx0, hx1⟩, rfl, hd1, hg1⟩
  have D1 := (DG.start hd).alloc (.cells #[.int .i64 0, .int .i64 0, .string ⟨#[]⟩] 25) |>.next hd1 hg1
  have R1 : TyRow w1 w.heap.size 0 0 ⟨#[]⟩ := (tyRow_new w 0 0 ⟨#[]⟩).kept hg1 hne
  have HD1 := Lib.hid D1
  have HR1 := Lib.hid R1
  have Hd1 := Lib.hid hd1
  clear hd1 hg1 D1 R1
  by_cases e0 : x = 0
  · subst e0
    go_wp2_with fail
    refine (l01PickIntP (Hd1.out.alloc _) (fun _ => True) w1.heap.size 3 _ (heap_alloc_new _ _) (by have := Hd1.out.lt; omega) rfl (by omega) (by omega) ?_).mono ?_
    · intro k v hv
      have hm := Array.mem_of_getElem? hv
      simp only [List.mem_toArray, List.mem_cons, List.not_mem_nil, or_false] at hm
      rcases hm with rfl | rfl | rfl <;> exact ⟨_, rfl, trivial⟩
    · rintro e w2 ⟨v, ⟨y, rfl, _⟩, rfl, hd2, hg2⟩
      have HD2 := Lib.hid ((HD1.out.alloc _).next hd2 hg2)
      obtain ⟨c0, c1, c2, cf⟩ := ((HR1.out.alloc _).kept hg2 hne).cells
      clear hd2 hg2
      go_wp2_with fail
      have D := ((HD2.out.set hw0 (Nat.le_refl _) hne 0 (.int .i64 3)).set hw0 (Nat.le_refl _) hne 1 (.int .i64 y)).set hw0 (Nat.le_refl _) hne 2 (.string ⟨#[]⟩)
      refine bodyPost_ret (v := .agg #[.int .i64 3, .int .i64 y, .string ⟨#[]⟩]) (by simp [results, Try.results36, go_sem, *]) rfl ⟨_, ⟨_, _, _, rfl⟩, rfl, D.1, D.2⟩
  · have n0 : (x == 0) = false := by rw [beq_eq_false_iff_ne]; exact e0
    by_cases e1 : x = 1
    · subst e1
      clear n0
      go_wp2_with fail
      refine (pickLit Hd1.out moods 2 rfl (fun s hs' => by have := moods_small s hs'; unfold maxLen; omega) (by decide) (by decide) _ rfl).mono ?_
      rintro e w2 ⟨v, ⟨u, rfl, _⟩, rfl, hd2, hg2⟩
      have HD2 := Lib.hid ((HD1.out.alloc _).next hd2 hg2)
      obtain ⟨c0, c1, c2, cf⟩ := ((HR1.out.alloc _).kept hg2 hne).cells
      clear hd2 hg2
      go_wp2_with fail
      have D := ((HD2.out.set hw0 (Nat.le_refl _) hne 0 (.int .i64 4)).set hw0 (Nat.le_refl _) hne 1 (.int .i64 0)).set hw0 (Nat.le_refl _) hne 2 (.string u)
      refine bodyPost_ret (v := .agg #[.int .i64 4, .int .i64 0, .string u]) (by simp [results, Try.results36, go_sem, *]) rfl ⟨_, ⟨_, _, _, rfl⟩, rfl, D.1, D.2⟩
    · have n1 : (x == 1) = false := by rw [beq_eq_false_iff_ne]; exact e1
      by_cases e2 : x = 2
      · subst e2
        clear n0 n1
        obtain ⟨c0, c1, c2, cf⟩ := HR1.out.cells
        go_wp2_with fail
        have D := ((HD1.out.set hw0 (Nat.le_refl _) hne 0 (.int .i64 2)).set hw0 (Nat.le_refl _) hne 1 (.int .i64 0)).set hw0 (Nat.le_refl _) hne 2 (.string ⟨#[]⟩)
        refine bodyPost_ret (v := .agg #[.int .i64 2, .int .i64 0, .string ⟨#[]⟩]) (by simp [results, Try.results36, go_sem, *]) rfl ⟨_, ⟨_, _, _, rfl⟩, rfl, D.1, D.2⟩
      · have n2 : (x == 2) = false := by rw [beq_eq_false_iff_ne]; exact e2
        by_cases e3 : x = 3
        · subst e3
          clear n0 n1 n2
          obtain ⟨c0, c1, c2, cf⟩ := HR1.out.cells
          go_wp2_with fail
          have D := ((HD1.out.set hw0 (Nat.le_refl _) hne 0 (.int .i64 1)).set hw0 (Nat.le_refl _) hne 1 (.int .i64 0)).set hw0 (Nat.le_refl _) hne 2 (.string ⟨#[]⟩)
          refine bodyPost_ret (v := .agg #[.int .i64 1, .int .i64 0, .string ⟨#[]⟩]) (by simp [results, Try.results36, go_sem, *]) rfl ⟨_, ⟨_, _, _, rfl⟩, rfl, D.1, D.2⟩
        · have n3 : (x == 3) = false := by rw [beq_eq_false_iff_ne]; exact e3
          clear e0 e1 e2 e3
          obtain ⟨c0, c1, c2, cf⟩ := HR1.out.cells
          go_wp2_with fail
          have D := ((HD1.out.set hw0 (Nat.le_refl _) hne 0 (.int .i64 0)).set hw0 (Nat.le_refl _) hne 1 (.int .i64 0)).set hw0 (Nat.le_refl _) hne 2 (.string ⟨#[]⟩)
          refine bodyPost_ret (v := .agg #[.int .i64 0, .int .i64 0, .string ⟨#[]⟩]) (by simp [results, Try.results36, go_sem, *]) rfl ⟨_, ⟨_, _, _, rfl⟩, rfl, D.1, D.2⟩

end Go.Proofs.Ytndbmnnomokfkaa
