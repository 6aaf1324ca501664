/- What FnTurns draws: types. -/
/- Operands: what impl.sorter knows of an expression; impl.allOf. -/
/- How many letters a list of texts has. -/
/- The laws' own helpers over slices of texts: the size that is left, the copy, the equality. -/
/- spec.Has and impl.Has both answer whether a text stands in a list. -/
/- Enumerations in memory; spec.l05Label, (impl.sorter).isLabel. -/
import Derived.Test.YthebkfanpnbanaaDoorMDrawOdd
import Derived.Test.YthebkfanpnbanaaDoorMBytes1
import Derived.Deep.RegionHeld3
import Derived.Test.YthebkfanpnbanaaDoorMMem
import Derived.Handy
namespace Go.Proofs.YthebkfanpnbanaaDoor
open Go.RowKit

/-- A type lies in block R. -/
def TyRow (W : World) (R : Nat) (k l : Int) (s : ByteArray) : Prop := W.heap[R]? = some (.cells #[.int .i64 k, .int .i64 l, .string s] 28 (0, 0))

theorem TyRow.cells {W : World} {R : Nat} {k l : Int} {s : ByteArray} (h : TyRow W R k l s) :
    W.cell? ⟨R, 0, none⟩ = some (.int .i64 k) ∧ W.cell? ⟨R, 1, none⟩ = some (.int .i64 l) ∧ W.cell? ⟨R, 2, none⟩ = some (.string s) ∧ ∀ j, W.frozen? ⟨R, j, none⟩ = false := by
  refine ⟨?_, ?_, ?_, fun j => frozen_of_row _ _ _ _ _ h⟩ <;> rw [cell_of_row _ _ _ _ _ _ h] <;> rfl

theorem TyRow.lt {W : World} {R : Nat} {k l : Int} {s : ByteArray} (h : TyRow W R k l s) : R < W.heap.size := by
  rcases Nat.lt_or_ge R W.heap.size with h' | h'
  · exact h'
  · unfold TyRow at h; rw [Array.getElem?_eq_none h'] at h; cases h

theorem TyRow.kept {W W' : World} {R g : Nat} {k l : Int} {s : ByteArray} (h : TyRow W R k l s) (hg : W.grownBy W' (some g)) (hne : R ≠ g) : TyRow W' R k l s :=
  (hg.block R h.lt (fun e => hne (by cases e; rfl))).trans h

theorem TyRow.alloc {W : World} {R : Nat} {k l : Int} {s : ByteArray} (h : TyRow W R k l s) (o : Obj) : TyRow (W.alloc o) R k l s :=
  (((Below.refl W.heap.size W).alloc (Nat.le_refl _) o).block R h.lt).trans h

theorem tyRow_new (W : World) (k l : Int) (s : ByteArray) : TyRow (W.alloc (.cells #[.int .i64 k, .int .i64 l, .string s] 28)) W.heap.size k l s := heap_alloc_new W _

/-- The cursor stands, and w has turned in it and in new blocks alone. -/
def DG (w0 : World) (a : Option Addr) (c : Nat) (l : List UInt8) (g : Nat) (w W : World) : Prop := Deck w0 a c l g W ∧ w.grownBy W (some g)

theorem DG.set {w0 : World} {a : Option Addr} {c : Nat} {l : List UInt8} {g : Nat} {w W : World} (h : DG w0 a c l g w W) (hw0 : w0.heap.size ≤ w.heap.size) {R : Nat} (hR : w.heap.size ≤ R) (hne : R ≠ g) (j : Nat) (v : Value) : DG w0 a c l g w (W.setCell ⟨R, j, none⟩ v) :=
  ⟨h.1.kept (grown_set W R j v) (fun k hk => by cases hk; exact ⟨Nat.le_trans hw0 hR, hne⟩), grown_any h.2 (grown_set W R j v) (fun j e => by cases e; exact hR)⟩

theorem DG.alloc {w0 : World} {a : Option Addr} {c : Nat} {l : List UInt8} {g : Nat} {w W : World} (h : DG w0 a c l g w W) (o : Obj) : DG w0 a c l g w (W.alloc o) := ⟨h.1.alloc o, grown_alloc h.2 o⟩

theorem DG.next {w0 : World} {a : Option Addr} {c : Nat} {l : List UInt8} {g : Nat} {w W W' : World} (h : DG w0 a c l g w W) (hd : Deck w0 a c l g W') (hg : W.grownBy W' (some g)) : DG w0 a c l g w W' := ⟨hd, grown_trans h.2 hg⟩

theorem DG.start {w0 : World} {a : Option Addr} {c : Nat} {l : List UInt8} {g : Nat} {w : World} (h : Deck w0 a c l g w) : DG w0 a c l g w w := ⟨h, ⟨rfl, rfl, rfl, Nat.le_refl _, fun _ _ _ => rfl⟩⟩

def IsTy (v : Value) : Prop := ∃ (k l : Int) (s : ByteArray), v = .agg #[.int .i64 k, .int .i64 l, .string s]

def moods : List ByteArray := [⟨#[109, 111, 111, 100]⟩, ⟨#[115, 105, 122, 101]⟩]
theorem moods_small : ∀ s ∈ moods, s.size ≤ 10 := by unfold moods; decide

set_option maxRecDepth 100000 in
set_option maxHeartbeats 4000000 in
theorem l03Type {w0 : World} {a : Option Addr} {c : Nat} {l : List UInt8} {g : Nat} {w : World} (hd : Deck w0 a c l g w) :
    Calls Tryd.prog 10 #[.pointer (some ⟨g, 0, none⟩)] w (Drawn w0 a c l g w IsTy) := by
  have hw0 : w0.heap.size ≤ w.heap.size := hd.below.size
  have hgl := hd.lt
  have hne : w.heap.size ≠ g := by omega
  go_enter Tryd.func10, Tryd.ntmps10
  go_wp2_with fail
  refine (l01Below (hd.alloc _) 6 (by omega) (by omega)).mono ?_
  rintro e w1 ⟨v, ⟨x, rfl, hx0, hx1⟩, rfl, hd1, hg1⟩
  have D1 := (DG.start hd).alloc (.cells #[.int .i64 0, .int .i64 0, .string ⟨#[]⟩] 28) |>.next hd1 hg1
  have R1 : TyRow w1 w.heap.size 0 0 ⟨#[]⟩ := (tyRow_new w 0 0 ⟨#[]⟩).kept hg1 hne
  have HD1 := Lib.hid D1
  have HR1 := Lib.hid R1
  have Hd1 := Lib.hid hd1
  clear hd1 hg1 D1 R1
  by_cases e0 : x = 0
  · subst e0
    go_wp2_with fail
    refine (l01PickIntP (Hd1.out.alloc _) (fun _ => True) w1.heap.size 3 _ (heap_alloc_new _ _) (by have := Hd1.out.lt; omega) rfl (by omega) (by omega) ?_).mono ?_
    · intro k v hv
      have hm := Array.mem_of_getElem? hv
      simp only [List.mem_toArray, List.mem_cons, List.not_mem_nil, or_false] at hm
      rcases hm with rfl | rfl | rfl <;> exact ⟨_, rfl, trivial⟩
    · rintro e w2 ⟨v, ⟨y, rfl, _⟩, rfl, hd2, hg2⟩
      have HD2 := Lib.hid ((HD1.out.alloc _).next hd2 hg2)
      obtain ⟨c0, c1, c2, cf⟩ := ((HR1.out.alloc _).kept hg2 hne).cells
      clear hd2 hg2
      go_wp2_with fail
      have D := ((HD2.out.set hw0 (Nat.le_refl _) hne 0 (.int .i64 3)).set hw0 (Nat.le_refl _) hne 1 (.int .i64 y)).set hw0 (Nat.le_refl _) hne 2 (.string ⟨#[]⟩)
      refine bodyPost_ret (v := .agg #[.int .i64 3, .int .i64 y, .string ⟨#[]⟩]) (by simp [results, Tryd.results10, go_sem, *]) rfl ⟨_, ⟨_, _, _, rfl⟩, rfl, D.1, D.2⟩
  · have n0 : (x == 0) = false := by rw [beq_eq_false_iff_ne]; exact e0
    by_cases e1 : x = 1
    · subst e1
      clear n0
      go_wp2_with fail
      refine (pickLit Hd1.out moods 2 rfl (fun s hs' => by have := moods_small s hs'; unfold maxLen; omega) (by decide) (by decide) _ rfl).mono ?_
      rintro e w2 ⟨v, ⟨u, rfl, _⟩, rfl, hd2, hg2⟩
      have HD2 := Lib.hid ((HD1.out.alloc _).next hd2 hg2)
      obtain ⟨c0, c1, c2, cf⟩ := ((HR1.out.alloc _).kept hg2 hne).cells
      clear hd2 hg2
      go_wp2_with fail
      have D := ((HD2.out.set hw0 (Nat.le_refl _) hne 0 (.int .i64 4)).set hw0 (Nat.le_refl _) hne 1 (.int .i64 0)).set hw0 (Nat.le_refl _) hne 2 (.string u)
      refine bodyPost_ret (v := .agg #[.int .i64 4, .int .i64 0, .string u]) (by simp [results, Tryd.results10, go_sem, *]) rfl ⟨_, ⟨_, _, _, rfl⟩, rfl, D.1, D.2⟩
    · have n1 : (x == 1) = false := by rw [beq_eq_false_iff_ne]; exact e1
      by_cases e2 : x = 2
      · subst e2
        clear n0 n1
        obtain ⟨c0, c1, c2, cf⟩ := HR1.out.cells
        go_wp2_with fail
        have D := ((HD1.out.set hw0 (Nat.le_refl _) hne 0 (.int .i64 2)).set hw0 (Nat.le_refl _) hne 1 (.int .i64 0)).set hw0 (Nat.le_refl _) hne 2 (.string ⟨#[]⟩)
        refine bodyPost_ret (v := .agg #[.int .i64 2, .int .i64 0, .string ⟨#[]⟩]) (by simp [results, Tryd.results10, go_sem, *]) rfl ⟨_, ⟨_, _, _, rfl⟩, rfl, D.1, D.2⟩
      · have n2 : (x == 2) = false := by rw [beq_eq_false_iff_ne]; exact e2
        by_cases e3 : x = 3
        · subst e3
          clear n0 n1 n2
          obtain ⟨c0, c1, c2, cf⟩ := HR1.out.cells
          go_wp2_with fail
          have D := ((HD1.out.set hw0 (Nat.le_refl _) hne 0 (.int .i64 1)).set hw0 (Nat.le_refl _) hne 1 (.int .i64 0)).set hw0 (Nat.le_refl _) hne 2 (.string ⟨#[]⟩)
          refine bodyPost_ret (v := .agg #[.int .i64 1, .int .i64 0, .string ⟨#[]⟩]) (by simp [results, Tryd.results10, go_sem, *]) rfl ⟨_, ⟨_, _, _, rfl⟩, rfl, D.1, D.2⟩
        · have n3 : (x == 3) = false := by rw [beq_eq_false_iff_ne]; exact e3
          clear e0 e1 e2 e3
          obtain ⟨c0, c1, c2, cf⟩ := HR1.out.cells
          go_wp2_with fail
          have D := ((HD1.out.set hw0 (Nat.le_refl _) hne 0 (.int .i64 0)).set hw0 (Nat.le_refl _) hne 1 (.int .i64 0)).set hw0 (Nat.le_refl _) hne 2 (.string ⟨#[]⟩)
          refine bodyPost_ret (v := .agg #[.int .i64 0, .int .i64 0, .string ⟨#[]⟩]) (by simp [results, Tryd.results10, go_sem, *]) rfl ⟨_, ⟨_, _, _, rfl⟩, rfl, D.1, D.2⟩

end Go.Proofs.YthebkfanpnbanaaDoor

namespace Go.Proofs.YthebkfanpnbanaaDoor
open Go.RowKit

inductive Opd where
  | plain (k : Int)
  | text (s : ByteArray)
  | enum (s : ByteArray)

def Opd.v : Opd → Value
  | .plain k => .iface 73 (.int .i64 k)
  | .text s => .iface 74 (.string s)
  | .enum s => .iface 89 (.string s)

def Opd.kind : Opd → Int
  | .plain k => k
  | .text _ => 1
  | .enum _ => 3

/-- The slice (a, length of xs, c) holds the operands xs. -/
def Opds (w : World) (a : Option Addr) (c : Nat) (xs : List Opd) : Prop :=
  xs.length ≤ c ∧ c ≤ maxLen ∧ (a = none → c = 0) ∧ (0 < xs.length → ∃ b off, a = some ⟨b, off, none⟩ ∧ b < w.heap.size ∧ ∀ (i : Nat) (h : i < xs.length), w.cell? ⟨b, off + i, none⟩ = some xs[i].v)

theorem Opds.spot {w : World} {a : Option Addr} {c : Nat} {xs : List Opd} (h : Opds w a c xs) {k : Nat} (hk : k < xs.length) :
    ∃ b off, a = some ⟨b, off, none⟩ ∧ b < w.heap.size ∧ w.cell? ⟨b, off + k, none⟩ = some xs[k].v := by
  obtain ⟨_, _, _, h4⟩ := h
  obtain ⟨b, off, ha, hb, hc⟩ := h4 (by omega)
  exact ⟨b, off, ha, hb, hc k hk⟩

theorem Opds.below {w w' : World} {a : Option Addr} {c : Nat} {xs : List Opd} (h : Opds w a c xs) (hb : Below w.heap.size w w') : Opds w' a c xs := by
  obtain ⟨h1, h2, h3, h4⟩ := h
  refine ⟨h1, h2, h3, fun hp => ?_⟩
  obtain ⟨b, off, ha, hlt, hc⟩ := h4 hp
  exact ⟨b, off, ha, Nat.lt_of_lt_of_le hlt hb.size, fun i hi => (hb.cell (p := ⟨b, off + i, none⟩) hlt).trans (hc i hi)⟩

theorem Opds.len {w : World} {a : Option Addr} {c : Nat} {xs : List Opd} (h : Opds w a c xs) : xs.length ≤ 9223372036854775807 := by
  have h1 := h.1
  have h2 := h.2.1
  unfold maxLen at h2
  omega

theorem kindPlain (k : Int) (w : World) : Calls Tryd.prog 108 #[.int .i64 k] w fun e w' => e = .returned (.int .i64 k) ∧ w' = w := by
  go_enter Tryd.func108, Tryd.ntmps108
  go_wp2
  go_ret
  exact ⟨rfl, rfl⟩

theorem kindText (s : ByteArray) (w : World) : Calls Tryd.prog 109 #[.string s] w fun e w' => e = .returned (.int .i64 1) ∧ w' = w := by
  go_enter Tryd.func109, Tryd.ntmps109
  go_wp2
  go_ret
  exact ⟨rfl, rfl⟩

theorem kindEnum (s : ByteArray) (w : World) : Calls Tryd.prog 111 #[.string s] w fun e w' => e = .returned (.int .i64 3) ∧ w' = w := by
  go_enter Tryd.func111, Tryd.ntmps111
  go_wp2
  go_ret
  exact ⟨rfl, rfl⟩

/-- Every operand is of the kind, or null. -/
def allK (xs : List Opd) (k : Int) : Bool := xs.all fun x => x.kind == k || x.kind == 4

theorem allK_hit (xs : List Opd) (k : Int) (i : Nat) (h : i < xs.length) (h1 : (xs[i].kind != k) = true) (h2 : (xs[i].kind != 4) = true) : allK xs k = false := by
  unfold allK
  rw [List.all_eq_false]
  exact ⟨xs[i], List.getElem_mem h, by simp at h1 h2 ⊢; exact ⟨h1, h2⟩⟩

theorem allK_next {xs : List Opd} {k : Int} {j : Nat} {hj : j < xs.length} (hall : ∀ m (h : m < xs.length), m < j → (xs[m].kind == k || xs[m].kind == 4) = true) (hg : (xs[j].kind == k || xs[j].kind == 4) = true) :
    Hid (∀ m (h : m < xs.length), m < j + 1 → (xs[m].kind == k || xs[m].kind == 4) = true) := by
  intro m h hm
  rcases Nat.lt_or_ge m j with h2 | h2
  · exact hall m h h2
  · obtain rfl : m = j := by omega
    exact hg

set_option maxRecDepth 100000 in
set_option maxHeartbeats 1000000 in
theorem implAllOf (a : Option Addr) (c : Nat) (xs : List Opd) (k : Int) (w : World) (hx : Opds w a c xs) :
    Calls Tryd.prog 70 #[.slice a xs.length c, .int .i64 k] w fun e w' => e = .returned (.bool (allK xs k)) ∧ w' = w := by
  have hl := hx.len
  go_enter Tryd.func70, Tryd.ntmps70
  go_wp2
  go_loopw [9] (fun i wr => ∃ j : Nat, j ≤ xs.length ∧ i = .int .i64 j ∧ Hid (∀ m (h : m < xs.length), m < j → (xs[m].kind == k || xs[m].kind == 4) = true) ∧ wr = w) (fun i _ => xs.length - (intOf i).toNat)
  case atStart => exact ⟨0, Nat.zero_le _, rfl, fun m h hm => absurd hm (by omega), rfl⟩
  case round =>
    obtain ⟨j, hj, rfl, hall, rfl⟩ := hrel
    by_cases hlt : j < xs.length
    · obtain ⟨b, off, rfl, hbl, hc⟩ := hx.spot hlt
      obtain ⟨x, hxx⟩ : ∃ x, x = xs[j] := ⟨_, rfl⟩
      rw [← hxx] at hc
      have HX := Lib.hid hxx
      clear hxx
      cases x with
      | plain q =>
        simp only [Opd.v] at hc
        have HKD : Hid (xs[j].kind = q) := by unfold Hid; rw [← HX.out]; rfl
        cases h1 : ((q : Int) != k) with
        | false =>
          have HG : Hid ((xs[j].kind == k || xs[j].kind == 4) = true) := by
            unfold Hid; rw [HKD.out]
            have : (q : Int) = k := by simpa using h1
            simp [this]
          go_wp2_with (first
            | (go_at_call 108; refine (kindPlain _ _).mono ?_; rintro e w' ⟨rfl, rfl⟩)
            | (go_at_call 109; refine (kindText _ _).mono ?_; rintro e w' ⟨rfl, rfl⟩)
            | (go_at_call 111; refine (kindEnum _ _).mono ?_; rintro e w' ⟨rfl, rfl⟩))
          go_roundw
          case rel => first | exact ⟨j + 1, by omega, by go_num, allK_next hall.out HG.out, rfl⟩ | exact ⟨j + 1, by omega, by go_num, allK_next hall.out HG.out, trivial⟩
          case measure => simp [intOf]; omega
        | true =>
          cases h2 : ((q : Int) != 4) with
          | false =>
            have HG : Hid ((xs[j].kind == k || xs[j].kind == 4) = true) := by
              unfold Hid; rw [HKD.out]
              have : (q : Int) = 4 := by simpa using h2
              simp [this]
            go_wp2_with (first
            | (go_at_call 108; refine (kindPlain _ _).mono ?_; rintro e w' ⟨rfl, rfl⟩)
            | (go_at_call 109; refine (kindText _ _).mono ?_; rintro e w' ⟨rfl, rfl⟩)
            | (go_at_call 111; refine (kindEnum _ _).mono ?_; rintro e w' ⟨rfl, rfl⟩))
            go_roundw
            case rel => first | exact ⟨j + 1, by omega, by go_num, allK_next hall.out HG.out, rfl⟩ | exact ⟨j + 1, by omega, by go_num, allK_next hall.out HG.out, trivial⟩
            case measure => simp [intOf]; omega
          | true =>
            have HF : Hid (allK xs k = false) := allK_hit xs k j hlt (by rw [HKD.out]; exact h1) (by rw [HKD.out]; exact h2)
            go_wp2_with (first
            | (go_at_call 108; refine (kindPlain _ _).mono ?_; rintro e w' ⟨rfl, rfl⟩)
            | (go_at_call 109; refine (kindText _ _).mono ?_; rintro e w' ⟨rfl, rfl⟩)
            | (go_at_call 111; refine (kindEnum _ _).mono ?_; rintro e w' ⟨rfl, rfl⟩))
            go_ret
            exact ⟨by rw [HF.out]; rfl, rfl⟩
      | text s =>
        simp only [Opd.v] at hc
        have HKD : Hid (xs[j].kind = 1) := by unfold Hid; rw [← HX.out]; rfl
        cases h1 : ((1 : Int) != k) with
        | false =>
          have HG : Hid ((xs[j].kind == k || xs[j].kind == 4) = true) := by
            unfold Hid; rw [HKD.out]
            have : (1 : Int) = k := by simpa using h1
            simp [this]
          go_wp2_with (first
            | (go_at_call 108; refine (kindPlain _ _).mono ?_; rintro e w' ⟨rfl, rfl⟩)
            | (go_at_call 109; refine (kindText _ _).mono ?_; rintro e w' ⟨rfl, rfl⟩)
            | (go_at_call 111; refine (kindEnum _ _).mono ?_; rintro e w' ⟨rfl, rfl⟩))
          go_roundw
          case rel => first | exact ⟨j + 1, by omega, by go_num, allK_next hall.out HG.out, rfl⟩ | exact ⟨j + 1, by omega, by go_num, allK_next hall.out HG.out, trivial⟩
          case measure => simp [intOf]; omega
        | true =>
          cases h2 : ((1 : Int) != 4) with
          | false =>
            have HG : Hid ((xs[j].kind == k || xs[j].kind == 4) = true) := by
              unfold Hid; rw [HKD.out]
              simp at h2
            go_wp2_with (first
            | (go_at_call 108; refine (kindPlain _ _).mono ?_; rintro e w' ⟨rfl, rfl⟩)
            | (go_at_call 109; refine (kindText _ _).mono ?_; rintro e w' ⟨rfl, rfl⟩)
            | (go_at_call 111; refine (kindEnum _ _).mono ?_; rintro e w' ⟨rfl, rfl⟩))
            go_roundw
            case rel => first | exact ⟨j + 1, by omega, by go_num, allK_next hall.out HG.out, rfl⟩ | exact ⟨j + 1, by omega, by go_num, allK_next hall.out HG.out, trivial⟩
            case measure => simp [intOf]; omega
          | true =>
            have HF : Hid (allK xs k = false) := allK_hit xs k j hlt (by rw [HKD.out]; exact h1) (by rw [HKD.out]; exact h2)
            go_wp2_with (first
            | (go_at_call 108; refine (kindPlain _ _).mono ?_; rintro e w' ⟨rfl, rfl⟩)
            | (go_at_call 109; refine (kindText _ _).mono ?_; rintro e w' ⟨rfl, rfl⟩)
            | (go_at_call 111; refine (kindEnum _ _).mono ?_; rintro e w' ⟨rfl, rfl⟩))
            go_ret
            exact ⟨by rw [HF.out]; rfl, rfl⟩
      | enum s =>
        simp only [Opd.v] at hc
        have HKD : Hid (xs[j].kind = 3) := by unfold Hid; rw [← HX.out]; rfl
        cases h1 : ((3 : Int) != k) with
        | false =>
          have HG : Hid ((xs[j].kind == k || xs[j].kind == 4) = true) := by
            unfold Hid; rw [HKD.out]
            have : (3 : Int) = k := by simpa using h1
            simp [this]
          go_wp2_with (first
            | (go_at_call 108; refine (kindPlain _ _).mono ?_; rintro e w' ⟨rfl, rfl⟩)
            | (go_at_call 109; refine (kindText _ _).mono ?_; rintro e w' ⟨rfl, rfl⟩)
            | (go_at_call 111; refine (kindEnum _ _).mono ?_; rintro e w' ⟨rfl, rfl⟩))
          go_roundw
          case rel => first | exact ⟨j + 1, by omega, by go_num, allK_next hall.out HG.out, rfl⟩ | exact ⟨j + 1, by omega, by go_num, allK_next hall.out HG.out, trivial⟩
          case measure => simp [intOf]; omega
        | true =>
          cases h2 : ((3 : Int) != 4) with
          | false =>
            have HG : Hid ((xs[j].kind == k || xs[j].kind == 4) = true) := by
              unfold Hid; rw [HKD.out]
              simp at h2
            go_wp2_with (first
            | (go_at_call 108; refine (kindPlain _ _).mono ?_; rintro e w' ⟨rfl, rfl⟩)
            | (go_at_call 109; refine (kindText _ _).mono ?_; rintro e w' ⟨rfl, rfl⟩)
            | (go_at_call 111; refine (kindEnum _ _).mono ?_; rintro e w' ⟨rfl, rfl⟩))
            go_roundw
            case rel => first | exact ⟨j + 1, by omega, by go_num, allK_next hall.out HG.out, rfl⟩ | exact ⟨j + 1, by omega, by go_num, allK_next hall.out HG.out, trivial⟩
            case measure => simp [intOf]; omega
          | true =>
            have HF : Hid (allK xs k = false) := allK_hit xs k j hlt (by rw [HKD.out]; exact h1) (by rw [HKD.out]; exact h2)
            go_wp2_with (first
            | (go_at_call 108; refine (kindPlain _ _).mono ?_; rintro e w' ⟨rfl, rfl⟩)
            | (go_at_call 109; refine (kindText _ _).mono ?_; rintro e w' ⟨rfl, rfl⟩)
            | (go_at_call 111; refine (kindEnum _ _).mono ?_; rintro e w' ⟨rfl, rfl⟩))
            go_ret
            exact ⟨by rw [HF.out]; rfl, rfl⟩
    · have HF : Hid (allK xs k = true) := by
        unfold Hid allK
        rw [List.all_eq_true]
        intro x hx
        obtain ⟨m, hm, rfl⟩ := List.mem_iff_getElem.1 hx
        exact hall.out m hm (by omega)
      go_wp2_with fail
      go_ret
      exact ⟨by rw [HF.out]; rfl, rfl⟩

end Go.Proofs.YthebkfanpnbanaaDoor

namespace Go.Proofs.YthebkfanpnbanaaDoor

/-- How many letters the texts have together. -/
def lets (xs : List ByteArray) : Nat := (xs.map ByteArray.size).sum

theorem lets_take (xs : List ByteArray) (k : Nat) (h : k < xs.length) : lets (xs.take (k + 1)) = lets (xs.take k) + xs[k].size := by
  unfold lets
  rw [List.take_succ_eq_append_getElem h, List.map_append, List.sum_append]
  simp only [List.map_cons, List.map_nil, List.sum_cons, List.sum_nil, Nat.add_zero]

theorem lets_le (xs : List ByteArray) (k : Nat) : lets (xs.take k) ≤ lets xs := by
  unfold lets
  conv => rhs; rw [← List.take_append_drop k xs, List.map_append, List.sum_append]
  omega

theorem lets_mem {xs : List ByteArray} {s : ByteArray} (h : s ∈ xs) : s.size ≤ lets xs := by
  unfold lets
  induction xs with
  | nil => simp at h
  | cons x r ih =>
    simp only [List.map_cons, List.sum_cons]
    rcases List.mem_cons.1 h with rfl | h
    · omega
    · have := ih h; omega

end Go.Proofs.YthebkfanpnbanaaDoor

namespace Go.Proofs.YthebkfanpnbanaaDoor
open Go.RowKit

/-- What is left of 'left' behind the texts: -1 where it is not enough. -/
def leftOf (xs : List ByteArray) (left : Int) : Int := if left < xs.length + lets xs then -1 else left - xs.length - lets xs

def filled (xs : List ByteArray) (k : Nat) : List Value := (xs.take k).map Value.string ++ List.replicate (xs.length - k) (Value.string ByteArray.empty)

theorem filled_set (xs : List ByteArray) (k : Nat) (h : k < xs.length) : (filled xs k).set k (.string xs[k]) = filled xs (k + 1) := by
  unfold filled
  have hl : ((xs.take k).map Value.string).length = k := by simp; omega
  rw [List.set_append_right _ _ (by omega), hl, Nat.sub_self, show xs.length - k = (xs.length - (k + 1)) + 1 by omega, List.replicate_succ, List.set_cons_zero, List.take_succ_eq_append_getElem h, List.map_append, List.append_assoc]
  rfl

theorem filled_at (xs : List ByteArray) (k : Nat) (h : k < xs.length) : ∃ s, (filled xs k)[k]? = some (.string s) := by
  unfold filled
  have hl : ((xs.take k).map Value.string).length = k := by simp; omega
  rw [List.getElem?_append_right (by omega), hl, Nat.sub_self, List.getElem?_replicate, if_pos (by omega)]
  exact ⟨_, rfl⟩

theorem filled_all (xs : List ByteArray) : filled xs xs.length = xs.map Value.string := by simp [filled]
theorem filled_none (xs : List ByteArray) : filled xs 0 = List.replicate xs.length (Value.string ByteArray.empty) := by simp [filled]

/-- The two lists hold the same texts. -/
def eqB (xs ys : List ByteArray) : Bool := xs.map ByteArray.toList == ys.map ByteArray.toList

end Go.Proofs.YthebkfanpnbanaaDoor

namespace Go.Proofs.YthebkfanpnbanaaDoor
open Go.RowKit

def hasB (xs : List ByteArray) (s : ByteArray) : Bool := xs.any fun x => x.toList == s.toList

theorem hasB_take (xs : List ByteArray) (s : ByteArray) (k : Nat) (h : k < xs.length) : hasB (xs.take (k + 1)) s = (hasB (xs.take k) s || xs[k].toList == s.toList) := by
  unfold hasB
  rw [List.take_succ_eq_append_getElem h, List.any_append]
  simp only [List.any_cons, List.any_nil, Bool.or_false]

theorem hasB_hit (xs : List ByteArray) (s : ByteArray) (k : Nat) (h : k < xs.length) (he : (xs[k].toList == s.toList) = true) : hasB xs s = true :=
  List.any_eq_true.2 ⟨xs[k], List.getElem_mem h, he⟩

set_option maxHeartbeats 400000 in
theorem specHas (a : Option Addr) (c : Nat) (xs : List ByteArray) (s : ByteArray) (w : World) (hx : Strs w a c xs) :
    Calls Tryd.prog 38 #[.slice a xs.length c, .string s] w (Quiet w (.bool (hasB xs s))) := by
  have hl := hx.len
  go_enter Tryd.func38, Tryd.ntmps38
  go_wp2
  go_loop [5] (fun i => ∃ k : Nat, k ≤ xs.length ∧ i = .int .i64 k ∧ Hid (hasB (xs.take k) s = false)) (fun i => xs.length - (intOf i).toNat)
  case atStart => exact ⟨0, Nat.zero_le _, rfl, rfl⟩
  case round =>
    obtain ⟨k, hk, rfl, hno⟩ := hrel
    by_cases hlt : k < xs.length
    · obtain ⟨b, off, rfl, hb, hc⟩ := hx.spot hlt
      cases he : (xs[k].toList == s.toList) with
      | true =>
        have H := Lib.hid (hasB_hit xs s k hlt he)
        go_wp2
        go_ret
        exact ⟨by rw [H.out]; rfl, 0, rfl⟩
      | false =>
        have H : Hid (hasB (xs.take (k + 1)) s = false) := by unfold Hid; rw [hasB_take xs s k hlt, hno.out, he]; rfl
        go_wp2
        go_round
        case rel => exact ⟨k + 1, by omega, by go_num, H⟩
        case measure => simp [intOf]; omega
    · have H : Hid (hasB xs s = false) := by have := hno.out; rwa [List.take_of_length_le (by omega)] at this
      go_wp2
      go_ret
      exact ⟨by rw [H.out]; rfl, 0, rfl⟩

theorem beq_flip (a b : List UInt8) : (a == b) = (b == a) := by
  rw [Bool.eq_iff_iff, beq_iff_eq, beq_iff_eq]; exact eq_comm

set_option maxHeartbeats 400000 in
theorem slicesIndex (a : Option Addr) (c : Nat) (xs : List ByteArray) (s : ByteArray) (w : World) (hx : Strs w a c xs) :
    Calls Tryd.prog 89 #[.slice a xs.length c, .string s] w fun e w' => ∃ r : Int, e = .returned (.int .i64 r) ∧ Hid (decide (0 ≤ r) = hasB xs s) ∧ w = w' := by
  have hl := hx.len
  go_enter Tryd.func89, Tryd.ntmps89
  go_wp2
  go_loop [8] (fun i => ∃ k : Nat, k ≤ xs.length ∧ i = .int .i64 k ∧ Hid (hasB (xs.take k) s = false)) (fun i => xs.length - (intOf i).toNat)
  case atStart => exact ⟨0, Nat.zero_le _, rfl, rfl⟩
  case round =>
    obtain ⟨k, hk, rfl, hno⟩ := hrel
    by_cases hlt : k < xs.length
    · obtain ⟨b, off, rfl, hb, hc⟩ := hx.spot hlt
      cases he : (s.toList == xs[k].toList) with
      | true =>
        have H := Lib.hid (hasB_hit xs s k hlt (by rw [beq_flip]; exact he))
        go_wp2
        go_ret
        exact ⟨k, rfl, by unfold Hid; rw [H.out]; simp, rfl⟩
      | false =>
        have H : Hid (hasB (xs.take (k + 1)) s = false) := by unfold Hid; rw [hasB_take xs s k hlt, hno.out, beq_flip, he]; rfl
        go_wp2
        go_round
        case rel => exact ⟨k + 1, by omega, by go_num, H⟩
        case measure => simp [intOf]; omega
    · have H : Hid (hasB xs s = false) := by have := hno.out; rwa [List.take_of_length_le (by omega)] at this
      go_wp2
      go_ret
      exact ⟨-1, rfl, by unfold Hid; rw [H.out]; rfl, rfl⟩

theorem implHas (a : Option Addr) (c : Nat) (xs : List ByteArray) (s : ByteArray) (w : World) (hx : Strs w a c xs) :
    Calls Tryd.prog 74 #[.slice a xs.length c, .string s] w (Quiet w (.bool (hasB xs s))) := by
  go_enter Tryd.func74, Tryd.ntmps74
  go_wp2_with (first
    | (go_at_call 89; refine (slicesIndex a c xs s w hx).mono ?_; rintro e w' ⟨r, rfl, hr, rfl⟩)
    | (go_at_call 85; go_in))
  go_ret
  exact ⟨by rw [← hr.out]; rfl, 0, rfl⟩

end Go.Proofs.YthebkfanpnbanaaDoor

namespace Go.Proofs.YthebkfanpnbanaaDoor
open Go.RowKit

/-- One enumeration, with where its list lies. -/
structure Lb where
  name : ByteArray
  list : List ByteArray
  a : Option Addr
  c : Nat

def LbAt (w : World) (b o : Nat) (x : Lb) : Prop :=
  w.cell? ⟨b, o, none⟩ = some (.string x.name) ∧ w.cell? ⟨b, o + 1, none⟩ = some (.slice x.a x.list.length x.c) ∧ x.name.size ≤ maxLen ∧ Strs w x.a x.c x.list

/-- The slice (a, length of ls, c) holds the enumerations ls. -/
def Lbs (w : World) (a : Option Addr) (c : Nat) (ls : List Lb) : Prop :=
  ls.length ≤ c ∧ c ≤ maxLen ∧ (a = none → c = 0) ∧ (0 < ls.length → ∃ b off, a = some ⟨b, off, none⟩ ∧ b < w.heap.size ∧ ∀ (i : Nat) (h : i < ls.length), LbAt w b (off + i * 2) ls[i])

theorem Lbs.spot {w : World} {a : Option Addr} {c : Nat} {ls : List Lb} (h : Lbs w a c ls) {k : Nat} (hk : k < ls.length) :
    ∃ b off, a = some ⟨b, off, none⟩ ∧ b < w.heap.size ∧ LbAt w b (off + k * 2) ls[k] := by
  obtain ⟨_, _, _, h4⟩ := h
  obtain ⟨b, off, ha, hb, hc⟩ := h4 (by omega)
  exact ⟨b, off, ha, hb, hc k hk⟩

theorem Lbs.below {w w' : World} {a : Option Addr} {c : Nat} {ls : List Lb} (h : Lbs w a c ls) (hb : Below w.heap.size w w') : Lbs w' a c ls := by
  obtain ⟨h1, h2, h3, h4⟩ := h
  refine ⟨h1, h2, h3, fun hp => ?_⟩
  obtain ⟨b, off, ha, hlt, hc⟩ := h4 hp
  refine ⟨b, off, ha, Nat.lt_of_lt_of_le hlt hb.size, fun i hi => ?_⟩
  obtain ⟨c0, c1, hs, hst⟩ := hc i hi
  exact ⟨(hb.cell (p := ⟨b, _, none⟩) hlt).trans c0, (hb.cell (p := ⟨b, _, none⟩) hlt).trans c1, hs, hst.below hb⟩

theorem Lbs.len {w : World} {a : Option Addr} {c : Nat} {ls : List Lb} (h : Lbs w a c ls) : ls.length ≤ 9223372036854775807 := by
  have h1 := h.1
  have h2 := h.2.1
  unfold maxLen at h2
  omega

/-- Whether the text is a label of the first enumeration of that name. -/
def labB : List Lb → ByteArray → ByteArray → Bool
  | [], _, _ => false
  | x :: r, n, t => if x.name.toList == n.toList then hasB x.list t else labB r n t

theorem labB_hit (ls : List Lb) (n t : ByteArray) (k : Nat) (h : k < ls.length) (hne : ∀ m (hm : m < ls.length), m < k → (ls[m].name.toList == n.toList) = false) (he : (ls[k].name.toList == n.toList) = true) : labB ls n t = hasB ls[k].list t := by
  induction ls generalizing k with
  | nil => simp at h
  | cons x r ih =>
    cases k with
    | zero =>
      have he' : (x.name.toList == n.toList) = true := he
      rw [labB, if_pos he']
      rfl
    | succ k =>
      have h0 : (x.name.toList == n.toList) = false := hne 0 (by simp) (by omega)
      rw [labB, if_neg (by rw [h0]; simp)]
      exact ih k (by simpa using h) (fun m hm hmk => hne (m + 1) (by simpa using hm) (by omega)) he

theorem labB_miss (ls : List Lb) (n t : ByteArray) (hne : ∀ m (hm : m < ls.length), (ls[m].name.toList == n.toList) = false) : labB ls n t = false := by
  induction ls with
  | nil => rfl
  | cons x r ih =>
    have h0 : (x.name.toList == n.toList) = false := hne 0 (by simp)
    rw [labB, if_neg (by rw [h0]; simp)]
    exact ih fun m hm => hne (m + 1) (by simpa using hm)

set_option maxHeartbeats 1000000 in
theorem specLabel (a : Option Addr) (c : Nat) (ls : List Lb) (n t : ByteArray) (w : World) (hx : Lbs w a c ls) :
    Calls Tryd.prog 20 #[.slice a ls.length c, .string n, .string t] w (Quiet w (.bool (labB ls n t))) := by
  have hl := hx.len
  go_enter Tryd.func20, Tryd.ntmps20
  go_wp2
  go_loopw [7] (fun i wr => ∃ k : Nat, k ≤ ls.length ∧ i = .int .i64 k ∧ Hid (∀ m (hm : m < ls.length), m < k → (ls[m].name.toList == n.toList) = false) ∧ Hid (wr = w)) (fun i _ => ls.length - (intOf i).toNat)
  case atStart => exact ⟨0, Nat.zero_le _, rfl, fun m h hm => absurd hm (by omega), rfl⟩
  case round =>
    obtain ⟨k, hk, rfl, hall, hwr⟩ := hrel
    have hxr : Lbs wr a c ls := by rw [hwr.out]; exact hx
    by_cases hlt : k < ls.length
    · obtain ⟨b, off, rfl, hbl, hc0, hc1, hns, hst⟩ := hxr.spot hlt
      cases he : (ls[k].name.toList == n.toList) with
      | true =>
        have HB := Lib.hid (labB_hit ls n t k hlt hall.out he)
        have HST := Lib.hid hst
        clear hst hxr
        go_wp2_with fail
        refine (specHas _ _ _ t _ HST.out).mono ?_
        rintro e w2 ⟨rfl, nn, rfl⟩
        go_wp2_with fail
        go_ret
        exact ⟨by rw [HB.out]; rfl, nn, by rw [hwr.out]⟩
      | false =>
        have HE := Lib.hid he
        clear hst hxr
        go_wp2_with fail
        go_roundw
        case rel => exact ⟨k + 1, by omega, by go_num, fun m hm h1 => by
          rcases Nat.lt_or_ge m k with h2 | h2
          · exact hall.out m hm h2
          · obtain rfl : m = k := by omega
            exact HE.out, hwr.out⟩
        case measure => simp [intOf]; omega
    · have HB := Lib.hid (labB_miss ls n t fun m hm => hall.out m hm (by omega))
      go_wp2_with fail
      go_ret
      exact ⟨by rw [HB.out]; rfl, 0, by rw [hwr.out]; rfl⟩

set_option maxHeartbeats 1000000 in
theorem isLabel1 (x : Lb) (nb : Nat) (n : ByteArray) (w : World) (hnb : w.cell? ⟨nb, 0, none⟩ = some (.string n)) (hlt : nb < w.heap.size) :
    Calls Tryd.prog 73 #[.agg #[.string x.name, .slice x.a x.list.length x.c], .pointer (some ⟨nb, 0, none⟩)] w fun e w' => e = .returned (.bool (x.name.toList == n.toList)) ∧ Below w.heap.size w w' := by
  have hne : nb ≠ w.heap.size := by omega
  have HB := Lib.hid (fun o => (Below.refl w.heap.size w).alloc (Nat.le_refl _) o)
  go_enter Tryd.func73, Tryd.ntmps73
  go_wp2_with fail
  go_ret
  exact ⟨rfl, HB.out _⟩

/-- The place of the first enumeration of that name. -/
def labAt : List Lb → ByteArray → Int
  | [], _ => -1
  | x :: r, n => if x.name.toList == n.toList then 0 else if labAt r n < 0 then -1 else labAt r n + 1

set_option maxRecDepth 100000 in
set_option maxHeartbeats 1000000 in
theorem indexLabels (a : Option Addr) (c : Nat) (ls : List Lb) (n : ByteArray) (nb : Nat) (w : World) (hx : Lbs w a c ls) (hnb : w.cell? ⟨nb, 0, none⟩ = some (.string n)) (hlt0 : nb < w.heap.size) :
    Calls Tryd.prog 72 #[.slice a ls.length c, .func (.func 73) #[] #[.pointer (some ⟨nb, 0, none⟩)]] w fun e w' =>
      ((∃ k : Nat, ∃ h : k < ls.length, e = .returned (.int .i64 k) ∧ (∀ m (hm : m < ls.length), m < k → (ls[m].name.toList == n.toList) = false) ∧ (ls[k].name.toList == n.toList) = true) ∨ (e = .returned (.int .i64 (-1)) ∧ ∀ m (hm : m < ls.length), (ls[m].name.toList == n.toList) = false)) ∧ Below w.heap.size w w' := by
  have hl := hx.len
  have HX := Lib.hid (fun w' hb => hx.below (w' := w') hb)
  have HN := Lib.hid (fun w' (hb : Below w.heap.size w w') => (And.intro ((hb.cell (p := ⟨nb, 0, none⟩) hlt0).trans hnb) (Nat.lt_of_lt_of_le hlt0 hb.size)))
  clear hx
  go_enter Tryd.func72, Tryd.ntmps72
  go_wp2
  go_loopw [8] (fun i wr => ∃ k : Nat, k ≤ ls.length ∧ i = .int .i64 k ∧ Hid (∀ m (hm : m < ls.length), m < k → (ls[m].name.toList == n.toList) = false) ∧ Below w.heap.size w wr) (fun i _ => ls.length - (intOf i).toNat)
  case atStart => exact ⟨0, Nat.zero_le _, rfl, fun m h hm => absurd hm (by omega), Below.refl _ _⟩
  case round =>
    obtain ⟨k, hk, rfl, hall, hb⟩ := hrel
    by_cases hlt : k < ls.length
    · obtain ⟨b, off, rfl, hbl, hc0, hc1, hns, hst⟩ := (HX.out _ hb).spot hlt
      obtain ⟨hn1, hn2⟩ := HN.out _ hb
      clear hst
      go_wp2_with fail
      refine (isLabel1 ls[k] nb n _ hn1 hn2).mono ?_
      rintro e w2 ⟨rfl, hb2⟩
      have HB2 := Lib.hid (hb.trans (hb2.mono hb.size))
      clear hb2
      cases he : (ls[k].name.toList == n.toList) with
      | true =>
        have HE := Lib.hid he
        clear he
        go_wp2_with fail
        go_ret
        exact ⟨.inl ⟨k, hlt, rfl, hall.out, HE.out⟩, HB2.out⟩
      | false =>
        have HE := Lib.hid he
        clear he
        go_wp2_with fail
        go_roundw
        case rel => exact ⟨k + 1, by omega, by go_num, fun m hm h1 => by
          rcases Nat.lt_or_ge m k with h2 | h2
          · exact hall.out m hm h2
          · obtain rfl : m = k := by omega
            exact HE.out, HB2.out⟩
        case measure => simp [intOf]; omega
    · go_wp2_with fail
      go_ret
      exact ⟨.inr ⟨rfl, fun m hm => hall.out m hm (by omega)⟩, hb⟩

end Go.Proofs.YthebkfanpnbanaaDoor
