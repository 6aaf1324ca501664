/- The laws' own helpers over types: the size and the copy. -/
/- The laws' own helpers over expressions: the size that is left. -/
/- The laws' own helpers over expressions: the copy. -/
/- The laws' own helpers over expressions: the equality. -/
/- The helpers over texts, expressions and types in the one form that schemas take; blocks that are written step by step. -/
/- Trees of expressions that own their blocks: what the laws' copies are, and what a marking turns. -/
import Derived.Test.YtjjdcdnaonfnmaaGreatMMem
import Derived.Deep.RegionHeld3
import Derived.Deep.DrawnRows
namespace Go.Proofs.YtjjdcdnaonfnmaaGreat
open Go.RowKit

set_option maxHeartbeats 1000000 in
theorem szTy (k l : Int) (s : ByteArray) (n : Int) (w : World) (hs : s.size ≤ maxLen) (h0 : 0 ≤ n) (h1 : n ≤ 1048576) :
    Calls Tryz.prog 130 #[.agg #[.int .i64 k, .int .i64 l, .string s], .int .i64 n] w fun e w' => e = .returned (.int .i64 (if n - s.size < 0 then -1 else n - s.size)) ∧ Below w.heap.size w w' := by
  unfold maxLen at hs
  by_cases h : n - (s.size : Int) < 0
  · rw [if_pos h]
    go_enter Tryz.func130, Tryz.ntmps130
    go_wp2
    go_ret
    exact ⟨rfl, (Below.refl _ _).alloc (Nat.le_refl _) _⟩
  · rw [if_neg h]
    have hd : decide (n - (s.size : Int) < 0) = false := by simpa using h
    go_enter Tryz.func130, Tryz.ntmps130
    go_wp2
    go_ret
    exact ⟨rfl, (Below.refl _ _).alloc (Nat.le_refl _) _⟩

set_option maxHeartbeats 1000000 in
theorem toTy (k l : Int) (s : ByteArray) (w : World) :
    Calls Tryz.prog 131 #[.agg #[.int .i64 k, .int .i64 l, .string s]] w fun e w' => e = .returned (.agg #[.int .i64 k, .int .i64 l, .string s]) ∧ Below w.heap.size w w' := by
  go_enter Tryz.func131, Tryz.ntmps131
  go_wp2
  refine bodyPost_ret (v := .agg #[.int .i64 k, .int .i64 l, .string s]) (by simp [results, Tryz.results131, go_sem]) rfl ⟨rfl, ?_⟩
  exact (((Below.refl _ _).alloc (Nat.le_refl _) _).alloc (by simp) _).alloc (by simp; omega) _

/-- Two types lie in the blocks p and q. -/
def Lie2 (p q : Nat) (k l : Int) (s : ByteArray) (k' l' : Int) (s' : ByteArray) (w : World) : Prop :=
  w.cell? ⟨p, 0, none⟩ = some (.int .i64 k) ∧ w.cell? ⟨p, 1, none⟩ = some (.int .i64 l) ∧ w.cell? ⟨p, 2, none⟩ = some (.string s) ∧
  w.cell? ⟨q, 0, none⟩ = some (.int .i64 k') ∧ w.cell? ⟨q, 1, none⟩ = some (.int .i64 l') ∧ w.cell? ⟨q, 2, none⟩ = some (.string s')

theorem Lie2.below {p q : Nat} {k l : Int} {s : ByteArray} {k' l' : Int} {s' : ByteArray} {w w' : World} (h : Lie2 p q k l s k' l' s' w) (hp : p < w.heap.size) (hq : q < w.heap.size) (hb : Below w.heap.size w w') : Lie2 p q k l s k' l' s' w' := by
  obtain ⟨h1, h2, h3, h4, h5, h6⟩ := h
  exact ⟨(hb.cell (p := ⟨p, 0, none⟩) hp).trans h1, (hb.cell (p := ⟨p, 1, none⟩) hp).trans h2, (hb.cell (p := ⟨p, 2, none⟩) hp).trans h3,
    (hb.cell (p := ⟨q, 0, none⟩) hq).trans h4, (hb.cell (p := ⟨q, 1, none⟩) hq).trans h5, (hb.cell (p := ⟨q, 2, none⟩) hq).trans h6⟩

theorem lie2_new (w : World) (T T' : TypeId) (k l : Int) (s : ByteArray) (k' l' : Int) (s' : ByteArray) :
    Lie2 w.heap.size (w.heap.size + 1) k l s k' l' s' ((w.alloc (.cells #[.int .i64 k, .int .i64 l, .string s] T)).alloc (.cells #[.int .i64 k', .int .i64 l', .string s'] T')) := by
  have h1 : ∀ o, ((w.alloc (.cells #[.int .i64 k, .int .i64 l, .string s] T)).alloc (.cells #[.int .i64 k', .int .i64 l', .string s'] T')).cell? ⟨w.heap.size, o, none⟩ = (w.alloc (.cells #[.int .i64 k, .int .i64 l, .string s] T)).cell? ⟨w.heap.size, o, none⟩ :=
    fun o => World.cell?_alloc_lt _ _ _ (by simp)
  have h2 : (w.alloc (.cells #[.int .i64 k, .int .i64 l, .string s] T)).heap.size = w.heap.size + 1 := by simp
  unfold Lie2
  rw [h1, h1, h1, cell_of_row _ _ _ _ _ _ (heap_alloc_new w _), cell_of_row _ _ _ _ _ _ (heap_alloc_new w _), cell_of_row _ _ _ _ _ _ (heap_alloc_new w _), ← h2,
    cell_of_row _ _ _ _ _ _ (heap_alloc_new _ _), cell_of_row _ _ _ _ _ _ (heap_alloc_new _ _), cell_of_row _ _ _ _ _ _ (heap_alloc_new _ _)]
  exact ⟨rfl, rfl, rfl, rfl, rfl, rfl⟩

/-- .. behind the world w0, in blocks that are there. -/
def Lay2 (w0 : World) (p q : Nat) (k l : Int) (s : ByteArray) (k' l' : Int) (s' : ByteArray) (w : World) : Prop :=
  Lie2 p q k l s k' l' s' w ∧ p < w.heap.size ∧ q < w.heap.size ∧ Below w0.heap.size w0 w

theorem Lay2.below {w0 : World} {p q : Nat} {k l : Int} {s : ByteArray} {k' l' : Int} {s' : ByteArray} {w w' : World} (h : Lay2 w0 p q k l s k' l' s' w) (hb : Below w.heap.size w w') : Lay2 w0 p q k l s k' l' s' w' :=
  ⟨h.1.below h.2.1 h.2.2.1 hb, Nat.lt_of_lt_of_le h.2.1 hb.size, Nat.lt_of_lt_of_le h.2.2.1 hb.size, h.2.2.2.trans (hb.mono h.2.2.2.size)⟩

theorem Lay2.drew {w0 : World} {p q : Nat} {k l : Int} {s : ByteArray} {k' l' : Int} {s' : ByteArray} {w : World} (h : Lay2 w0 p q k l s k' l' s' w) : Lay2 w0 p q k l s k' l' s' w.drew :=
  h.below ⟨rfl, rfl, rfl, Nat.le_refl _, fun _ _ => rfl⟩

theorem lay2_new (w : World) (T T' : TypeId) (k l : Int) (s : ByteArray) (k' l' : Int) (s' : ByteArray) :
    Lay2 w w.heap.size (w.heap.size + 1) k l s k' l' s' ((w.alloc (.cells #[.int .i64 k, .int .i64 l, .string s] T)).alloc (.cells #[.int .i64 k', .int .i64 l', .string s'] T')) :=
  ⟨lie2_new w T T' k l s k' l' s', by simp; omega, by simp, below2 w _ _⟩

/-- A type lies in the block p, behind the world w0. -/
def Lay1 (w0 : World) (p : Nat) (k l : Int) (s : ByteArray) (w : World) : Prop :=
  (w.cell? ⟨p, 0, none⟩ = some (.int .i64 k) ∧ w.cell? ⟨p, 1, none⟩ = some (.int .i64 l) ∧ w.cell? ⟨p, 2, none⟩ = some (.string s)) ∧ p < w.heap.size ∧ Below w0.heap.size w0 w

theorem Lay1.below {w0 : World} {p : Nat} {k l : Int} {s : ByteArray} {w w' : World} (h : Lay1 w0 p k l s w) (hb : Below w.heap.size w w') : Lay1 w0 p k l s w' :=
  ⟨⟨(hb.cell (p := ⟨p, 0, none⟩) h.2.1).trans h.1.1, (hb.cell (p := ⟨p, 1, none⟩) h.2.1).trans h.1.2.1, (hb.cell (p := ⟨p, 2, none⟩) h.2.1).trans h.1.2.2⟩,
    Nat.lt_of_lt_of_le h.2.1 hb.size, h.2.2.trans (hb.mono h.2.2.size)⟩

theorem Lay1.drew {w0 : World} {p : Nat} {k l : Int} {s : ByteArray} {w : World} (h : Lay1 w0 p k l s w) : Lay1 w0 p k l s w.drew := h.below ⟨rfl, rfl, rfl, Nat.le_refl _, fun _ _ => rfl⟩

theorem Lay1.alloc {w0 : World} {p : Nat} {k l : Int} {s : ByteArray} {w : World} (h : Lay1 w0 p k l s w) (o : Obj) : Lay1 w0 p k l s (w.alloc o) := h.below ((Below.refl _ _).alloc (Nat.le_refl _) _)

theorem lay1_new (w : World) (T : TypeId) (k l : Int) (s : ByteArray) : Lay1 w w.heap.size k l s (w.alloc (.cells #[.int .i64 k, .int .i64 l, .string s] T)) := by
  refine ⟨?_, by simp, (Below.refl _ _).alloc (Nat.le_refl _) _⟩
  rw [cell_of_row _ _ _ _ _ _ (heap_alloc_new w _), cell_of_row _ _ _ _ _ _ (heap_alloc_new w _), cell_of_row _ _ _ _ _ _ (heap_alloc_new w _)]
  exact ⟨rfl, rfl, rfl⟩

end Go.Proofs.YtjjdcdnaonfnmaaGreat

namespace Go.Proofs.YtjjdcdnaonfnmaaGreat
open Go.RowKit

def leftN (n : Nat) (left : Int) : Int := if left < n then -1 else left - n

theorem leftN_le {n : Nat} (h : ¬ leftN n 1048576 < 0) : n ≤ 1048576 := by
  unfold leftN at h
  split at h
  · omega
  · omega

def SzP (d : Nat) : Prop := ∀ (e : Ex) (a : Option Addr) (c : Nat) (left : Int) (w : World), e.fit → KidsAt w d a c e.kids → 0 ≤ left → left ≤ 1048576 →
  Calls Tryz.prog 110 #[.agg #[.int .i64 e.kind, .string e.text, .int .i64 e.num, .slice a e.kids.length c], .int .i64 left] w fun x w' => x = .returned (.int .i64 (leftN e.wt left)) ∧ Below w.heap.size w w'

set_option maxHeartbeats 1000000 in
theorem szKids (d : Nat) (ih : SzP d) (a : Option Addr) (c : Nat) (xs : List Ex) (left : Int) (w : World) (hx : KidsAt w (d + 1) a c xs) (h0 : 0 ≤ left) (h1 : left ≤ 1048576) :
    Calls Tryz.prog 95 #[.slice a xs.length c, .int .i64 left] w fun e w' => e = .returned (.int .i64 (leftN (xs.length + wtL xs) left)) ∧ Below w.heap.size w w' := by
  have hl := hx.len
  by_cases hs : left < xs.length
  · have H : Hid (leftN (xs.length + wtL xs) left = -1) := by unfold Hid leftN; rw [if_pos (by omega)]
    go_enter Tryz.func95, Tryz.ntmps95
    go_wp2
    go_ret
    exact ⟨by rw [H.out]; rfl, Below.refl _ _⟩
  · have hs' : (xs.length : Int) ≤ left := by omega
    go_enter Tryz.func95, Tryz.ntmps95
    go_wp2
    go_loopw [1, 5] (fun l i wr => ∃ k : Nat, k ≤ xs.length ∧ i = .int .i64 k ∧ wtL (xs.take k) ≤ left - xs.length ∧ l = .int .i64 (left - xs.length - wtL (xs.take k)) ∧ Below w.heap.size w wr) (fun _ i _ => xs.length - (intOf i).toNat)
    case atStart => exact ⟨0, Nat.zero_le _, rfl, by simp [wtL]; omega, by simp [wtL], Below.refl _ _⟩
    case round =>
      obtain ⟨k, hk, rfl, hsm, rfl, hb⟩ := hrel
      by_cases hlt : k < xs.length
      · obtain ⟨b, off, rfl, hbl, hc0, hc1, hc2, hfit, a', c', hc3, hkid⟩ := (hx.below hb).spot hlt
        have HT := Lib.hid (wtL_take xs k hlt)
        have HL := Lib.hid (wtL_mono xs (k + 1))
        have HK := Lib.hid hkid
        clear hkid hx
        go_wp2_with fail
        refine (ih xs[k] a' c' (left - xs.length - wtL (xs.take k)) _ hfit HK.out (by omega) (by omega)).mono ?_
        by_cases hle : left - xs.length - wtL (xs.take k) < xs[k].wt
        · rw [show leftN xs[k].wt (left - xs.length - wtL (xs.take k)) = -1 from if_pos hle]
          rintro e w2 ⟨rfl, hb2⟩
          have H : Hid (leftN (xs.length + wtL xs) left = -1) := by unfold Hid leftN; rw [if_pos (by have := HT.out; have := HL.out; omega)]
          go_wp2_with fail
          go_ret
          exact ⟨by rw [H.out]; rfl, hb.trans (hb2.mono hb.size)⟩
        · rw [show leftN xs[k].wt (left - xs.length - wtL (xs.take k)) = left - xs.length - wtL (xs.take k) - xs[k].wt from if_neg hle]
          rintro e w2 ⟨rfl, hb2⟩
          go_wp2_with fail
          go_roundw
          case rel => exact ⟨k + 1, by omega, by go_num, by have := HT.out; omega, by rw [HT.out]; go_num, hb.trans (hb2.mono hb.size)⟩
          case measure => simp [intOf]; omega
      · obtain rfl : k = xs.length := by omega
        have H : Hid (leftN (xs.length + wtL xs) left = left - xs.length - wtL xs) := by
          unfold Hid leftN; rw [List.take_length] at hsm; rw [if_neg (by omega)]; omega
        go_wp2_with fail
        go_ret
        exact ⟨by rw [H.out, List.take_length]; rfl, hb⟩

set_option maxHeartbeats 1000000 in
theorem szEx : ∀ d, SzP d
  | 0 => fun _ _ _ _ _ _ h => h.elim
  | d + 1 => by
    intro e a c left w hfit hk h0 h1
    have hks := szKids d (szEx d) a c e.kids
    have ht : e.text.size ≤ 9223372036854775807 := by have := hfit.1; unfold maxLen at this; omega
    have hwt := Lib.hid (Ex.wt_eq e)
    have hn := hk.len
    have HK := Lib.hid (fun o => hk.below ((Below.refl w.heap.size w).alloc (Nat.le_refl _) o))
    clear hk
    by_cases hs : left - e.text.size < 0
    · have H : Hid (leftN e.wt left = -1) := by unfold Hid leftN; rw [if_pos (by have := hwt.out; omega)]
      go_enter Tryz.func110, Tryz.ntmps110
      go_wp2_with fail
      go_ret
      exact ⟨by rw [H.out]; rfl, (Below.refl _ _).alloc (Nat.le_refl _) _⟩
    · have hd : decide (left - (e.text.size : Int) < 0) = false := by simpa using hs
      go_enter Tryz.func110, Tryz.ntmps110
      go_wp2_with fail
      refine (hks (left - e.text.size) _ (HK.out _) (by omega) (by omega)).mono ?_
      by_cases hle : left - e.text.size < (e.kids.length + wtL e.kids : Nat)
      · rw [show leftN (e.kids.length + wtL e.kids) (left - e.text.size) = -1 from if_pos hle]
        rintro x w2 ⟨rfl, hb2⟩
        have H : Hid (leftN e.wt left = -1) := by unfold Hid leftN; rw [if_pos (by have := hwt.out; omega)]
        go_wp2_with fail
        go_ret
        exact ⟨by rw [H.out]; rfl, ((Below.refl _ _).alloc (Nat.le_refl _) _).trans (hb2.mono (by simp))⟩
      · rw [show leftN (e.kids.length + wtL e.kids) (left - e.text.size) = left - e.text.size - (e.kids.length + wtL e.kids : Nat) from if_neg hle]
        rintro x w2 ⟨rfl, hb2⟩
        have H : Hid (leftN e.wt left = left - e.text.size - (e.kids.length + wtL e.kids : Nat)) := by unfold Hid leftN; rw [if_neg (by have := hwt.out; omega)]; have := hwt.out; omega
        have hd2 : decide (left - (e.text.size : Int) - ((e.kids.length + wtL e.kids : Nat) : Int) < 0) = false := by simp; omega
        go_wp2_with fail
        go_ret
        exact ⟨by rw [H.out]; rfl, ((Below.refl _ _).alloc (Nat.le_refl _) _).trans (hb2.mono (by simp))⟩

end Go.Proofs.YtjjdcdnaonfnmaaGreat

namespace Go.Proofs.YtjjdcdnaonfnmaaGreat
open Go.RowKit

/-- What a copy of an expression answers: the same tree, in new blocks. -/
def NewEx (w : World) (d : Nat) (e : Ex) (x : Ending) (w' : World) : Prop :=
  ∃ a c, x = .returned (.agg #[.int .i64 e.kind, .string e.text, .int .i64 e.num, .slice a e.kids.length c]) ∧ KidsB w.heap.size w' d a c e.kids ∧ Below w.heap.size w w'

def NewKids (w : World) (d : Nat) (kids : List Ex) (x : Ending) (w' : World) : Prop :=
  ∃ a c, x = .returned (.slice a kids.length c) ∧ KidsB w.heap.size w' d a c kids ∧ Below w.heap.size w w'

def ToP (d : Nat) : Prop := ∀ (e : Ex) (a : Option Addr) (c : Nat) (w : World), e.fit → e.wt ≤ 1048576 → KidsAt w d a c e.kids →
  Calls Tryz.prog 113 #[.agg #[.int .i64 e.kind, .string e.text, .int .i64 e.num, .slice a e.kids.length c]] w (NewEx w d e)

theorem Tryz.infoExpr : (Tryz.prog.info? 162).map (fun i => (i.zero, i.size, i.bytes)) = some (some (.agg #[.int .i64 0, .string ByteArray.empty, .int .i64 0, .slice none 0 0]), 4, 56) := by kernel_rfl

/-- What has been copied of a row of expressions. -/
def Done (w : World) (d : Nat) (kids : List Ex) (done : List Es) (wr : World) : Prop :=
  done.length ≤ kids.length ∧ (∀ (j : Nat) (h : j < done.length) (h' : j < kids.length), done[j].e = kids[j] ∧ KidsB (w.heap.size + 1) wr d done[j].a done[j].c kids[j].kids) ∧
  wr.ownsRow w.heap.size 162 4 (.slice (some ⟨w.heap.size, 0, none⟩) kids.length kids.length) kids.length (efill done kids.length) ∧ w.heap.size < wr.heap.size ∧ Below w.heap.size w wr

theorem Done.end {w wr : World} {d : Nat} {kids : List Ex} {done : List Es} (h : Done w d kids done wr) (hn : done.length = kids.length) (hm : kids.length ≤ maxLen) (hfit : ∀ e ∈ kids, e.fit) :
    KidsB w.heap.size wr (d + 1) (some ⟨w.heap.size, 0, none⟩) kids.length kids := by
  obtain ⟨_, hd, hown, hlt, hb⟩ := h
  refine ⟨Nat.le_refl _, hm, (fun h => by cases h), fun hp => ⟨w.heap.size, 0, rfl, Nat.le_refl _, hlt, fun i hi => ?_⟩⟩
  rw [← hn, efill_all, hn] at hown
  obtain ⟨c0, c1, c2, c3⟩ := ecells_at done i (by omega)
  obtain ⟨he, hk⟩ := hd i (by omega) hi
  have e0 := (World.ownsRow.cellAt (w := wr) hown (i * 4) (by omega)).trans c0
  have e1 := (World.ownsRow.cellAt (w := wr) hown (i * 4 + 1) (by omega)).trans c1
  have e2 := (World.ownsRow.cellAt (w := wr) hown (i * 4 + 2) (by omega)).trans c2
  have e3 := (World.ownsRow.cellAt (w := wr) hown (i * 4 + 3) (by omega)).trans c3
  unfold Es.k at e0
  unfold Es.t at e1
  unfold Es.n at e2
  unfold Es.s at e3
  rw [he] at e0 e1 e2 e3
  rw [Nat.zero_add]
  exact ⟨e0, e1, e2, hfit _ (List.getElem_mem hi), _, _, e3, hk.lower (by omega)⟩

theorem Done.step {w wr w2 w3 : World} {d : Nat} {kids : List Ex} {done : List Es} (h : Done w d kids done wr) (hlt : done.length < kids.length) {a : Option Addr} {c : Nat}
    (hk : KidsB wr.heap.size w2 d a c kids[done.length].kids) (hb2 : Below wr.heap.size wr w2)
    (h3 : w3 = (((w2.setCell ⟨w.heap.size, done.length * 4, none⟩ (.int .i64 kids[done.length].kind)).setCell ⟨w.heap.size, done.length * 4 + 1, none⟩ (.string kids[done.length].text)).setCell ⟨w.heap.size, done.length * 4 + 2, none⟩ (.int .i64 kids[done.length].num)).setCell ⟨w.heap.size, done.length * 4 + 3, none⟩ (.slice a kids[done.length].kids.length c)) :
    Done w d kids (done ++ [⟨kids[done.length], a, c⟩]) w3 := by
  obtain ⟨hle, hd, hown, hlw, hbw⟩ := h
  have hown2 : w2.ownsRow w.heap.size 162 4 (.slice (some ⟨w.heap.size, 0, none⟩) kids.length kids.length) kids.length (efill done kids.length) := World.ownsRow.kept (row := none) hown ⟨hb2.os, hb2.tape, hb2.output, hb2.size, fun k hk _ => hb2.block k hk⟩ (.inr (fun e => by cases e))
  have R0 := hown2.stored (done.length * 4) (.int .i64 kids[done.length].kind)
  have R1 := R0.1.stored (done.length * 4 + 1) (.string kids[done.length].text)
  have R2 := R1.1.stored (done.length * 4 + 2) (.int .i64 kids[done.length].num)
  have R3 := R2.1.stored (done.length * 4 + 3) (.slice a kids[done.length].kids.length c)
  have hset := efill_set done kids.length ⟨kids[done.length], a, c⟩ hlt
  unfold Es.k Es.t Es.n Es.s at hset
  simp only at hset
  rw [hset] at R3
  have hbw2 : Below w.heap.size w w2 := hbw.trans (hb2.mono hbw.size)
  have RB := (((hbw2.setCell (p := ⟨w.heap.size, done.length * 4, none⟩) (Nat.le_refl _) (.int .i64 kids[done.length].kind)).setCell (p := ⟨w.heap.size, done.length * 4 + 1, none⟩) (Nat.le_refl _) (.string kids[done.length].text)).setCell (p := ⟨w.heap.size, done.length * 4 + 2, none⟩) (Nat.le_refl _) (.int .i64 kids[done.length].num)).setCell (p := ⟨w.heap.size, done.length * 4 + 3, none⟩) (Nat.le_refl _) (.slice a kids[done.length].kids.length c)
  have hlt2 : w.heap.size < w2.heap.size := Nat.lt_of_lt_of_le hlw hb2.size
  have hsz : w3.heap.size = w2.heap.size := by subst h3; simp [World.setCell]
  have hcs : ∀ b, b ≠ w.heap.size → ∀ o, w3.cell? ⟨b, o, none⟩ = w2.cell? ⟨b, o, none⟩ := by
    intro b hb o
    subst h3
    rw [World.cell?_setCell_other _ _ _ _ (by simp [hb]), World.cell?_setCell_other _ _ _ _ (by simp [hb]), World.cell?_setCell_other _ _ _ _ (by simp [hb]), World.cell?_setCell_other _ _ _ _ (by simp [hb])]
  refine ⟨by simp; omega, fun j hj hj' => ?_, by subst h3; exact R3.1, by omega, by subst h3; exact RB⟩
  by_cases hjl : j < done.length
  · rw [List.getElem_append_left hjl]
    obtain ⟨h1, h2⟩ := hd j hjl hj'
    refine ⟨h1, (h2.below hb2).agree (by omega) fun b hb _ o => hcs b (by omega) o⟩
  · have hje : j = done.length := by simp at hj; omega
    subst hje
    rw [List.getElem_append_right (Nat.le_refl _)]
    simp only [Nat.sub_self, List.getElem_cons_zero]
    refine ⟨by first | rfl | trivial, (hk.lower (by omega)).agree (by omega) fun b hb _ o => hcs b (by omega) o⟩

theorem KidsAt.fits {w : World} {d : Nat} {a : Option Addr} {c : Nat} {kids : List Ex} (h : KidsAt w d a c kids) : ∀ e ∈ kids, e.fit := by
  intro e he
  cases d with
  | zero => exact h.elim
  | succ d =>
    obtain ⟨i, hi, rfl⟩ := List.mem_iff_getElem.1 he
    obtain ⟨_, _, _, _, _, _, _, hf, _⟩ := h.spot hi
    exact hf

theorem wtL_get {l : List Ex} {k : Nat} (h : k < l.length) : l[k].wt ≤ wtL l := by
  have h1 := wtL_take l k h
  have h2 := wtL_mono l (k + 1)
  omega

set_option maxHeartbeats 1000000 in
theorem toKids (d : Nat) (ih : ToP d) (a : Option Addr) (c : Nat) (xs : List Ex) (w : World) (hx : KidsAt w (d + 1) a c xs) (hn : xs.length + wtL xs ≤ 1048576) :
    Calls Tryz.prog 99 #[.slice a xs.length c] w (NewKids w (d + 1) xs) := by
  obtain ⟨i0, hi0, hz0, hz1, hz2⟩ := info_parts Tryz.infoExpr
  have hb16 : i0.bytes * xs.length ≤ 281474976710656 := by rw [hz2]; omega
  have hfits := Lib.hid hx.fits
  have hl := hx.len
  go_enter Tryz.func99, Tryz.ntmps99
  go_wp2_with (at_make; refine wpList_make_full _ rfl _ _ 58 rfl w.heap.size 162 i0 (.agg #[.int .i64 0, .string ByteArray.empty, .int .i64 0, .slice none 0 0]) 4 Tryz.underlying58 hi0 hz0 hz1 .i64 .i64 _ _ xs.length rfl rfl rfl rfl hb16 (by unfold maxLen; omega) (Nat.le_refl _) ?_; intro w1 hown hg)
  have hown1 : Done w d xs [] w1 := by
    refine ⟨Nat.zero_le _, fun j h => by simp at h, ?_, ?_, (Below.refl _ _).grown hg (Nat.le_refl _) (fun k hk => by cases hk)⟩
    · unfold efill
      rw [List.nil_append, List.length_nil, Nat.sub_zero, ecells_none]
      exact hown
    · rcases hown.2 with ⟨h, _⟩ | ⟨g, cap, cur, hv, _, hgg, _⟩
      · cases h
      · simp only [Value.slice.injEq, Option.some.injEq, Addr.mk.injEq] at hv
        rcases Nat.lt_or_ge w.heap.size w1.heap.size with h | h
        · exact h
        · rw [← hv.1.1, Array.getElem?_eq_none h] at hgg; cases hgg
  clear hown hg
  go_loopw [4] (fun i wr => ∃ done : List Es, i = .int .i64 done.length ∧ Done w d xs done wr) (fun i _ => xs.length - (intOf i).toNat)
  case atStart => exact ⟨[], rfl, hown1⟩
  case round =>
    obtain ⟨done, rfl, hd⟩ := hrel
    by_cases hlt : done.length < xs.length
    · obtain ⟨b, off, rfl, hbl, hc0, hc1, hc2, hfit, a', c', hc3, hkid⟩ := (hx.below hd.2.2.2.2).spot hlt
      have HK := Lib.hid hkid
      have HD := Lib.hid hd
      clear hkid hx hd
      go_wp2_with fail
      refine (ih xs[done.length] a' c' _ hfit (Nat.le_trans (wtL_get hlt) (by omega)) HK.out).mono ?_
      rintro e w2 ⟨a2, c2, rfl, hk2, hb2⟩
      have hown2 : w2.ownsRow w.heap.size 162 4 (.slice (some ⟨w.heap.size, 0, none⟩) xs.length xs.length) xs.length (efill done xs.length) := World.ownsRow.kept (row := none) HD.out.2.2.1 ⟨hb2.os, hb2.tape, hb2.output, hb2.size, fun k hk _ => hb2.block k hk⟩ (.inr (fun e => by cases e))
      obtain ⟨hs0, hs1, hs2, hs3⟩ := efill_at done xs.length hlt
      have hd0 : w2.cell? ⟨w.heap.size, done.length * 4, none⟩ = some (.int .i64 0) := (hown2.cellAt _ (by omega)).trans hs0
      have hd1 : w2.cell? ⟨w.heap.size, done.length * 4 + 1, none⟩ = some (.string ByteArray.empty) := (hown2.cellAt _ (by omega)).trans hs1
      have hd2 : w2.cell? ⟨w.heap.size, done.length * 4 + 2, none⟩ = some (.int .i64 0) := (hown2.cellAt _ (by omega)).trans hs2
      have hd3 : w2.cell? ⟨w.heap.size, done.length * 4 + 3, none⟩ = some (.slice none 0 0) := (hown2.cellAt _ (by omega)).trans hs3
      have hf0 : w2.frozen? ⟨w.heap.size, done.length * 4, none⟩ = false := hown2.frozenAt _
      have hf1 : w2.frozen? ⟨w.heap.size, done.length * 4 + 1, none⟩ = false := hown2.frozenAt _
      have hf2 : w2.frozen? ⟨w.heap.size, done.length * 4 + 2, none⟩ = false := hown2.frozenAt _
      have hf3 : w2.frozen? ⟨w.heap.size, done.length * 4 + 3, none⟩ = false := hown2.frozenAt _
      have HS := Lib.hid (HD.out.step hlt hk2 hb2 rfl)
      clear hown2 hs0 hs1 hs2 hs3 hc0 hc1 hc2 hc3 hbl hk2 hb2 HD HK
      go_wp2_with fail
      go_roundw
      case rel => exact ⟨done ++ [⟨xs[done.length], a2, c2⟩], by simp, HS.out⟩
      case measure => simp [intOf]; omega
    · have hle := hd.1
      have hee : done.length = xs.length := by omega
      have HE := Lib.hid (hd.end hee (by unfold maxLen; omega) hfits.out)
      have hbl := hd.2.2.2.2
      clear hd
      go_wp2_with fail
      go_ret
      exact ⟨_, _, rfl, HE.out, hbl⟩

set_option maxHeartbeats 1000000 in
theorem toEx : ∀ d, ToP d
  | 0 => fun _ _ _ _ _ _ h => h.elim
  | d + 1 => by
    intro e a c w hfit hwt hk
    have hks := toKids d (toEx d) a c e.kids
    have hw := Ex.wt_eq e
    have HK := Lib.hid (fun w' (hb : Below w.heap.size w w') => hk.below hb)
    clear hk
    go_enter Tryz.func113, Tryz.ntmps113
    go_wp2_with fail
    refine (hks _ (HK.out _ ?_) (by omega)).mono ?_
    · exact (((Below.refl _ _).alloc (Nat.le_refl _) _).alloc (by simp) _).alloc (by simp; omega) _
    rintro x w2 ⟨a2, c2, rfl, hk2, hb2⟩
    have hB : Below w.heap.size w w2 := ((((Below.refl _ _).alloc (Nat.le_refl _) _).alloc (by simp) _).alloc (by simp; omega) _).trans (hb2.mono (by simp; omega))
    obtain ⟨hcw, hfw⟩ := bcellE hb2
    have g0 : w2.cell? ⟨w.heap.size + 1 + 1, 0, none⟩ = some (.int .i64 e.kind) := (hcw _ _ (by simp)).trans (by simp [go_sem])
    have g1 : w2.cell? ⟨w.heap.size + 1 + 1, 1, none⟩ = some (.string e.text) := (hcw _ _ (by simp)).trans (by simp [go_sem])
    have g2 : w2.cell? ⟨w.heap.size + 1 + 1, 2, none⟩ = some (.int .i64 e.num) := (hcw _ _ (by simp)).trans (by simp [go_sem])
    have g3 : w2.cell? ⟨w.heap.size + 1 + 1, 3, none⟩ = some (.slice none 0 0) := (hcw _ _ (by simp)).trans (by simp [go_sem])
    have z3 : w2.frozen? ⟨w.heap.size + 1 + 1, 3, none⟩ = false := (hfw _ _ (by simp)).trans (by simp [go_sem])
    have y0 : w2.cell? ⟨w.heap.size + 1, 0, none⟩ = some (.int .i64 0) := (hcw _ _ (by simp)).trans (by simp [go_sem])
    have y1 : w2.cell? ⟨w.heap.size + 1, 1, none⟩ = some (.string ByteArray.empty) := (hcw _ _ (by simp)).trans (by simp [go_sem]; rfl)
    have y2 : w2.cell? ⟨w.heap.size + 1, 2, none⟩ = some (.int .i64 0) := (hcw _ _ (by simp)).trans (by simp [go_sem])
    have y3 : w2.cell? ⟨w.heap.size + 1, 3, none⟩ = some (.slice none 0 0) := (hcw _ _ (by simp)).trans (by simp [go_sem])
    have x0 : w2.frozen? ⟨w.heap.size + 1, 0, none⟩ = false := (hfw _ _ (by simp)).trans (by simp [go_sem])
    have x1 : w2.frozen? ⟨w.heap.size + 1, 1, none⟩ = false := (hfw _ _ (by simp)).trans (by simp [go_sem])
    have x2 : w2.frozen? ⟨w.heap.size + 1, 2, none⟩ = false := (hfw _ _ (by simp)).trans (by simp [go_sem])
    have x3 : w2.frozen? ⟨w.heap.size + 1, 3, none⟩ = false := (hfw _ _ (by simp)).trans (by simp [go_sem])
    have HE : Hid (∀ w5 : World, w2.heap.size ≤ w5.heap.size → (∀ b, w.heap.size + 3 ≤ b → ∀ o, w5.cell? ⟨b, o, none⟩ = w2.cell? ⟨b, o, none⟩) → KidsB w.heap.size w5 (d + 1) a2 c2 e.kids) := by
      intro w5 h1 h2
      refine KidsB.lower (lo := w.heap.size + 1 + 1 + 1) (by omega) (KidsB.agree (w := w2) h1 (fun b hb _ o => h2 b hb o) (by simpa using hk2))
    have HB := Lib.hid hB
    clear hk2 hb2 hB hcw hfw
    go_wp2_with fail
    refine bodyPost_ret (v := .agg #[.int .i64 e.kind, .string e.text, .int .i64 e.num, .slice a2 e.kids.length c2]) (by simp [results, Tryz.results113, go_sem, *]) rfl ⟨_, _, rfl, HE.out _ (by simp [World.setCell]) ?_, ?_⟩
    · intro b hb o
      have ho : ∀ (wv : World) (q : Addr) (v : Value), q.block < w.heap.size + 3 → (wv.setCell q v).cell? ⟨b, o, none⟩ = wv.cell? ⟨b, o, none⟩ := fun wv q v hq => World.cell?_setCell_other _ _ _ _ (by intro h; subst h; simp at hq; omega)
      exact (ho _ _ _ (by simp)).trans ((ho _ _ _ (by simp)).trans ((ho _ _ _ (by simp)).trans ((ho _ _ _ (by simp)).trans (ho _ _ _ (by simp)))))
    · exact ((((HB.out.setCell (by simp; omega) _).setCell (by simp) _).setCell (by simp) _).setCell (by simp) _).setCell (by simp) _

end Go.Proofs.YtjjdcdnaonfnmaaGreat

namespace Go.Proofs.YtjjdcdnaonfnmaaGreat
open Go.RowKit

theorem below_drewE {B : Nat} {a w : World} (h : Below B a w) : Below B a w.drew := ⟨h.os, h.tape, h.output, h.size, h.block⟩

def EqP (d : Nat) : Prop := ∀ (e : Ex) (a a' : Option Addr) (c c' : Nat) (w : World), KidsAt w d a c e.kids → KidsAt w d a' c' e.kids →
  Calls Tryz.prog 127 #[.agg #[.int .i64 e.kind, .string e.text, .int .i64 e.num, .slice a e.kids.length c], .agg #[.int .i64 e.kind, .string e.text, .int .i64 e.num, .slice a' e.kids.length c']] w fun x w' => x = .returned (.bool true) ∧ Below w.heap.size w w'

set_option maxHeartbeats 1000000 in
theorem eqKids (d : Nat) (ih : EqP d) (a a' : Option Addr) (c c' : Nat) (xs : List Ex) (w : World) (hx : KidsAt w (d + 1) a c xs) (hy : KidsAt w (d + 1) a' c' xs) :
    Calls Tryz.prog 105 #[.slice a xs.length c, .slice a' xs.length c'] w fun e w' => e = .returned (.bool true) ∧ Below w.heap.size w w' := by
  have hl := hx.len
  have hne : (((xs.length : Int)) != (xs.length : Int)) = false := by simp
  go_enter Tryz.func105, Tryz.ntmps105
  go_wp2
  go_loopw [5] (fun i wr => ∃ k : Nat, k ≤ xs.length ∧ i = .int .i64 k ∧ Below w.heap.size w wr) (fun i _ => xs.length - (intOf i).toNat)
  case atStart => exact ⟨0, Nat.zero_le _, rfl, Below.refl _ _⟩
  case round =>
    obtain ⟨k, hk, rfl, hbw⟩ := hrel
    by_cases hlt : k < xs.length
    · obtain ⟨b, off, rfl, hbl, hc0, hc1, hc2, _, p, q, hc3, hkid⟩ := (hx.below hbw).spot hlt
      obtain ⟨b', off', rfl, hbl', hd0, hd1, hd2, _, p', q', hd3, hkid'⟩ := (hy.below hbw).spot hlt
      have h0k : (0 : Int) ≤ (k : Int) := by omega
      have hkl : (k : Int) < (xs.length : Int) := by omega
      have HX := Lib.hid (fun w' hb => hkid.below (w' := w') hb)
      have HY := Lib.hid (fun w' hb => hkid'.below (w' := w') hb)
      clear hkid hkid' hx hy
      go_wp2_with fail
      go_region_held3 (fun w' => w'.cell? ⟨b, off + k * 4, none⟩ = some (.int .i64 xs[k].kind) ∧ w'.cell? ⟨b, off + k * 4 + 1, none⟩ = some (.string xs[k].text) ∧ w'.cell? ⟨b, off + k * 4 + 2, none⟩ = some (.int .i64 xs[k].num) ∧ w'.cell? ⟨b, off + k * 4 + 3, none⟩ = some (.slice p xs[k].kids.length q) ∧ w'.cell? ⟨b', off' + k * 4, none⟩ = some (.int .i64 xs[k].kind) ∧ w'.cell? ⟨b', off' + k * 4 + 1, none⟩ = some (.string xs[k].text) ∧ w'.cell? ⟨b', off' + k * 4 + 2, none⟩ = some (.int .i64 xs[k].num) ∧ w'.cell? ⟨b', off' + k * 4 + 3, none⟩ = some (.slice p' xs[k].kids.length q')) (first | go_keep | exact ⟨(hcw _ _ hbl).trans hc0, (hcw _ _ hbl).trans hc1, (hcw _ _ hbl).trans hc2, (hcw _ _ hbl).trans hc3, (hcw _ _ hbl').trans hd0, (hcw _ _ hbl').trans hd1, (hcw _ _ hbl').trans hd2, (hcw _ _ hbl').trans hd3⟩)
        ((go_at_call 127; refine (ih xs[k] p p' q q' _ (HX.out _ (below_drewE (Below.refl _ _))) (HY.out _ (below_drewE (Below.refl _ _)))).mono ?_; rintro e w2 ⟨rfl, hb2⟩; obtain ⟨hcw, _⟩ := bcellE hb2))
      go_wp2_with fail
      go_roundw
      case rel => exact ⟨k + 1, by omega, by go_num, (below_drewE hbw).trans (hb2.mono hbw.size)⟩
      case measure => simp [intOf]; omega
    · go_wp2
      go_ret
      exact ⟨rfl, hbw⟩

set_option maxHeartbeats 1000000 in
theorem eqEx : ∀ d, EqP d
  | 0 => fun _ _ _ _ _ _ h => h.elim
  | d + 1 => by
    intro e a a' c c' w hx hy
    have hks := eqKids d (eqEx d) a a' c c' e.kids
    have HX := Lib.hid (fun w' hb => hx.below (w' := w') hb)
    have HY := Lib.hid (fun w' hb => hy.below (w' := w') hb)
    have hk : (e.kind != e.kind) = false := by simp
    have hp : (e.num != e.num) = false := by simp
    have hs : (!(e.text.toList == e.text.toList)) = false := by simp
    have hl := hx.len
    clear hx hy
    go_enter Tryz.func127, Tryz.ntmps127
    go_wp2_with fail
    refine (hks _ (HX.out _ (((Below.refl _ _).alloc (Nat.le_refl _) _).alloc (by simp) _)) (HY.out _ (((Below.refl _ _).alloc (Nat.le_refl _) _).alloc (by simp) _))).mono ?_
    rintro x w2 ⟨rfl, hb2⟩
    go_wp2_with fail
    go_ret
    exact ⟨rfl, (((Below.refl _ _).alloc (Nat.le_refl _) _).alloc (by simp) _).trans (hb2.mono (by simp; omega))⟩

end Go.Proofs.YtjjdcdnaonfnmaaGreat

namespace Go.Proofs.YtjjdcdnaonfnmaaGreat
open Go.RowKit

theorem Below.call {n : Nat} {w W w' : World} (hb : Below W.heap.size W w') (h : Below n w W) (hn : n ≤ w.heap.size := by omega) : Below n w w' := h.trans (hb.mono (Nat.le_trans hn h.size))

theorem Blk.call {W w' : World} {b : Nat} {vs : List Value} (hb : Below W.heap.size W w') (h : Blk W b vs) : Blk w' b vs := h.below hb

theorem Kept.call {lo : Nat} {w W w' : World} (hb : Below W.heap.size W w') (h : Kept lo w W) : Kept lo w w' := h.trans (Kept.below hb)

theorem Blk.alloc {w : World} {b : Nat} {vs : List Value} (h : Blk w b vs) (o : Obj) : Blk (w.alloc o) b vs := h.below ((Below.refl _ _).alloc (Nat.le_refl _) _)

theorem blk_new (w : World) (T : TypeId) (vs : List Value) : Blk (w.alloc (.cells vs.toArray T)) w.heap.size vs := by
  refine ⟨by simp, fun j hj => ⟨?_, ?_⟩⟩
  · rw [cell_of_row _ _ _ _ _ _ (heap_alloc_new w _)]
    simp [hj]
  · simp [go_sem]

theorem blk_new' {w : World} {b : Nat} (hb : b = w.heap.size) (T : TypeId) (vs : List Value) : Blk (w.alloc (.cells vs.toArray T)) b vs := by
  subst hb
  exact blk_new w T vs

theorem Blk.set {w : World} {b : Nat} {vs : List Value} (h : Blk w b vs) (j : Nat) (v : Value) : Blk (w.setCell ⟨b, j, none⟩ v) b (vs.set j v) := by
  refine ⟨by simpa [World.setCell] using h.1, fun i hi => ?_⟩
  have hi' : i < vs.length := by simpa using hi
  refine ⟨?_, (World.frozen?_setCell ..).trans (h.2 i hi').2⟩
  by_cases e : i = j
  · subst e
    rw [World.cell?_setCell_same _ _ _ (h.2 i hi').1, List.getElem_set_self]
  · have ha : (⟨b, j, none⟩ : Addr) ≠ ⟨b, i, none⟩ := fun q => e (by cases q; rfl)
    rw [World.cell?_setCell_other _ _ _ _ ha, List.getElem_set_ne (by omega), (h.2 i hi').1]

theorem Blk.other {w : World} {b b' : Nat} {vs : List Value} (h : Blk w b vs) (hne : b ≠ b') (j : Nat) (v : Value) : Blk (w.setCell ⟨b', j, none⟩ v) b vs :=
  ⟨by simpa [World.setCell] using h.1, fun i hi => ⟨(World.cell?_setCell_other _ _ _ _ (fun q => hne (by cases q; rfl))).trans (h.2 i hi).1, (World.frozen?_setCell ..).trans (h.2 i hi).2⟩⟩

theorem Blk.belowB {B : Nat} {w w' : World} {b : Nat} {vs : List Value} (h : Blk w b vs) (hb : Below B w w') (hlt : b < B) : Blk w' b vs :=
  ⟨Nat.lt_of_lt_of_le h.1 hb.size, fun j hj => ⟨(hb.cell (p := ⟨b, j, none⟩) hlt).trans (h.2 j hj).1, (hb.frozen (p := ⟨b, j, none⟩) hlt).trans (h.2 j hj).2⟩⟩

theorem leftOf_eq (xs : List ByteArray) (left : Int) : leftOf xs left = leftN (xs.length + lets xs) left := by
  unfold leftOf leftN
  split
  · rw [if_pos (by omega)]
  · rw [if_neg (by omega)]; omega

theorem szSs (a : Option Addr) (c : Nat) (xs : List ByteArray) (left : Int) (w : World) (h : Ss 0 w a c xs) (h0 : 0 ≤ left) (h1 : left ≤ 1048576) :
    Calls Tryz.prog 92 #[.slice a xs.length c, .int .i64 left] w fun e w' => e = .returned (.int .i64 (leftN (xs.length + lets xs) left)) ∧ Below w.heap.size w w' := by
  refine (szStrs a c xs left w h.1 h0 h1).mono ?_
  rintro e w' ⟨rfl, rfl⟩
  exact ⟨by rw [leftOf_eq], Below.refl _ _⟩

theorem szKs (a : Option Addr) (c : Nat) (xs : List Ex) (left : Int) (w : World) (h : Ks 0 w a c xs) (h0 : 0 ≤ left) (h1 : left ≤ 1048576) :
    Calls Tryz.prog 95 #[.slice a xs.length c, .int .i64 left] w fun e w' => e = .returned (.int .i64 (leftN (xs.length + wtL xs) left)) ∧ Below w.heap.size w w' := by
  obtain ⟨d, h⟩ := h
  exact szKids d (szEx d) a c xs left w h.at h0 h1

theorem szTy0 (k l : Int) (s : ByteArray) (n : Int) (w : World) (hs : s.size ≤ maxLen) (h0 : 0 ≤ n) (h1 : n ≤ 1048576) :
    Calls Tryz.prog 130 #[.agg #[.int .i64 k, .int .i64 l, .string s], .int .i64 n] w fun e w' => e = .returned (.int .i64 (leftN s.size n)) ∧ Below w.heap.size w w' := by
  refine (szTy k l s n w hs h0 h1).mono ?_
  rintro e w' ⟨rfl, hb⟩
  refine ⟨?_, hb⟩
  unfold leftN
  split
  · rw [if_pos (by omega)]
  · rw [if_neg (by omega)]

theorem toSs (a : Option Addr) (c : Nat) (xs : List ByteArray) (w : World) (h : Ss 0 w a c xs) (hn : xs.length + lets xs ≤ 1048576) :
    Calls Tryz.prog 96 #[.slice a xs.length c] w fun e w' => ∃ a' c', e = .returned (.slice a' xs.length c') ∧ Ss w.heap.size w' a' c' xs ∧ Below w.heap.size w w' := by
  refine (toStrs a c xs w h.1 (by omega)).mono ?_
  rintro e w' ⟨a', c', rfl, ho, hb⟩
  exact ⟨a', c', rfl, ho.ss h.1.2.2.1, hb⟩

theorem toKs (a : Option Addr) (c : Nat) (xs : List Ex) (w : World) (h : Ks 0 w a c xs) (hn : xs.length + wtL xs ≤ 1048576) :
    Calls Tryz.prog 99 #[.slice a xs.length c] w fun e w' => ∃ a' c', e = .returned (.slice a' xs.length c') ∧ Ks w.heap.size w' a' c' xs ∧ Below w.heap.size w w' := by
  obtain ⟨d, h⟩ := h
  refine (toKids d (toEx d) a c xs w h.at hn).mono ?_
  rintro e w' ⟨a', c', rfl, ho, hb⟩
  exact ⟨a', c', rfl, ⟨d, ho⟩, hb⟩

theorem eqSs (a a' : Option Addr) (c c' : Nat) (xs : List ByteArray) (w : World) (h : Ss 0 w a c xs) (h' : Ss 0 w a' c' xs) :
    Calls Tryz.prog 10 #[.slice a xs.length c, .slice a' xs.length c'] w fun e w' => e = .returned (.bool true) ∧ Below w.heap.size w w' := by
  refine (eqStrs a a' c c' xs xs w h.1 h'.1 rfl).mono ?_
  rintro e w' ⟨rfl, n, rfl⟩
  exact ⟨rfl, below_drewN (Below.refl _ _) n⟩

theorem eqKs (a a' : Option Addr) (c c' : Nat) (xs : List Ex) (w : World) (h : Ks 0 w a c xs) (h' : Ks 0 w a' c' xs) :
    Calls Tryz.prog 105 #[.slice a xs.length c, .slice a' xs.length c'] w fun e w' => e = .returned (.bool true) ∧ Below w.heap.size w w' := by
  obtain ⟨d, h⟩ := h
  obtain ⟨d', h'⟩ := h'
  exact eqKids (max d d') (eqEx _) a a' c c' xs w (h.at.mono (by omega)) (h'.at.mono (by omega))

set_option maxHeartbeats 1000000 in
theorem eqTy0 (k l : Int) (s : ByteArray) (w : World) :
    Calls Tryz.prog 138 #[.agg #[.int .i64 k, .int .i64 l, .string s], .agg #[.int .i64 k, .int .i64 l, .string s]] w fun e w' => e = .returned (.bool true) ∧ Below w.heap.size w w' := by
  have e1 : (k != k) = false := by simp
  have e2 : (l != l) = false := by simp
  have e3 : (!(s.toList == s.toList)) = false := by simp
  go_enter Tryz.func138, Tryz.ntmps138
  go_wp2_with fail
  go_ret
  exact ⟨rfl, below2 _ _ _⟩

end Go.Proofs.YtjjdcdnaonfnmaaGreat

namespace Go.Proofs.YtjjdcdnaonfnmaaGreat
open Go.RowKit

/-- As KidsAt, and every list of kids is a row of its own, in the blocks bs. -/
def KidsO (w : World) : Nat → Option Addr → Nat → List Ex → List Nat → Prop
  | 0, _, _, _, _ => False
  | d + 1, a, c, kids, bs => c ≤ maxLen ∧ kids.length ≤ c ∧ (a = none → c = 0) ∧
    ((kids = [] ∧ bs = []) ∨ ∃ (b : Nat) (es : List Es) (bss : List (List Nat)), a = some ⟨b, 0, none⟩ ∧ kids = es.map Es.e ∧ bss.length = es.length ∧ 0 < es.length ∧ bs = b :: bss.flatten ∧
      w.ownsRow b 162 4 (.slice (some ⟨b, 0, none⟩) es.length c) es.length (ecells es) ∧
      ∀ (i : Nat) (h : i < es.length) (h' : i < bss.length), es[i].e.fit ∧ KidsO w d es[i].a es[i].c es[i].e.kids bss[i])

theorem ownsRow_block {w w' : World} {base : Nat} {e : TypeId} {size : Nat} {v : Value} {n : Nat} {xs : List Value} (h : w.ownsRow base e size v n xs) (hb : ∀ g, v.ownBlock = some g → w'.heap[g]? = w.heap[g]?) : w'.ownsRow base e size v n xs := by
  refine ⟨h.1, ?_⟩
  rcases h.2 with h2 | ⟨g, cap, cur, hv, hB, hg, r⟩
  · exact .inl h2
  · exact .inr ⟨g, cap, cur, hv, hB, by rw [hb g (by rw [hv]; rfl)]; exact hg, r⟩

theorem ownsRow_lt {w : World} {base : Nat} {e : TypeId} {size : Nat} {g n c : Nat} {xs : List Value} (h : w.ownsRow base e size (.slice (some ⟨g, 0, none⟩) n c) n xs) : g < w.heap.size := (h.lt g rfl).2

theorem KidsO.agree {w w' : World} : ∀ {d : Nat} {a : Option Addr} {c : Nat} {kids : List Ex} {bs : List Nat}, (∀ b ∈ bs, w'.heap[b]? = w.heap[b]?) → KidsO w d a c kids bs → KidsO w' d a c kids bs
  | 0, _, _, _, _, _, h => h
  | d + 1, a, c, kids, bs, hc, h => by
    obtain ⟨h1, h2, h3, h4⟩ := h
    refine ⟨h1, h2, h3, ?_⟩
    rcases h4 with h4 | ⟨b, es, bss, ha, hk, hl, hp, rfl, hown, hkid⟩
    · exact .inl h4
    · refine .inr ⟨b, es, bss, ha, hk, hl, hp, rfl, ownsRow_block hown fun g hg => by cases hg; exact hc b (List.mem_cons_self ..), fun i hi hi' => ?_⟩
      obtain ⟨hf, hk⟩ := hkid i hi hi'
      exact ⟨hf, KidsO.agree (fun g hg => hc g (List.mem_cons_of_mem _ (List.mem_flatten.2 ⟨_, List.getElem_mem hi', hg⟩))) hk⟩

theorem KidsO.at {w : World} : ∀ {d : Nat} {a : Option Addr} {c : Nat} {kids : List Ex} {bs : List Nat}, KidsO w d a c kids bs → KidsAt w d a c kids
  | 0, _, _, _, _, h => h
  | d + 1, a, c, kids, bs, h => by
    obtain ⟨h1, h2, h3, h4⟩ := h
    refine ⟨h2, h1, h3, fun hp => ?_⟩
    rcases h4 with ⟨rfl, _⟩ | ⟨b, es, bss, ha, rfl, hl, hp, rfl, hown, hkid⟩
    · simp at hp
    · refine ⟨b, 0, ha, ownsRow_lt hown, fun i hi => ?_⟩
      have hi' : i < es.length := by simpa using hi
      obtain ⟨hf, hk⟩ := hkid i hi' (by omega)
      obtain ⟨c0, c1, c2, c3⟩ := ecells_at es i hi'
      have e0 := (World.ownsRow.cellAt (w := w) hown (i * 4) (by omega)).trans c0
      have e1 := (World.ownsRow.cellAt (w := w) hown (i * 4 + 1) (by omega)).trans c1
      have e2 := (World.ownsRow.cellAt (w := w) hown (i * 4 + 2) (by omega)).trans c2
      have e3 := (World.ownsRow.cellAt (w := w) hown (i * 4 + 3) (by omega)).trans c3
      rw [Nat.zero_add]
      simp only [List.getElem_map]
      exact ⟨e0, e1, e2, hf, _, _, e3, hk.at⟩

theorem KidsO.lt {w : World} : ∀ {d : Nat} {a : Option Addr} {c : Nat} {kids : List Ex} {bs : List Nat}, KidsO w d a c kids bs → ∀ b ∈ bs, b < w.heap.size
  | 0, _, _, _, _, h => h.elim
  | d + 1, a, c, kids, bs, h => by
    obtain ⟨_, _, _, h4⟩ := h
    intro b hb
    rcases h4 with ⟨_, rfl⟩ | ⟨b0, es, bss, ha, rfl, hl, hp, rfl, hown, hkid⟩
    · simp at hb
    · rcases List.mem_cons.1 hb with rfl | hb
      · exact ownsRow_lt hown
      · obtain ⟨l, hl', hbl⟩ := List.mem_flatten.1 hb
        obtain ⟨i, hi, rfl⟩ := List.mem_iff_getElem.1 hl'
        exact (hkid i (by omega) hi).2.lt b hbl

theorem KidsO.below {w w' : World} {d : Nat} {a : Option Addr} {c : Nat} {kids : List Ex} {bs : List Nat} (h : KidsO w d a c kids bs) (hb : Below w.heap.size w w') : KidsO w' d a c kids bs :=
  h.agree fun b hm => hb.block b (h.lt b hm)

theorem KidsO.nil (w : World) (d : Nat) : KidsO w (d + 1) none 0 [] [] := ⟨by unfold maxLen; omega, Nat.le_refl _, fun _ => rfl, .inl ⟨rfl, rfl⟩⟩

/-- What a copy of an expression answers: the same tree, in blocks of its own. -/
def NewO (w : World) (d : Nat) (e : Ex) (x : Ending) (w' : World) : Prop :=
  ∃ a c bs, x = .returned (.agg #[.int .i64 e.kind, .string e.text, .int .i64 e.num, .slice a e.kids.length c]) ∧ KidsO w' d a c e.kids bs ∧ bs.Nodup ∧ (∀ b ∈ bs, w.heap.size ≤ b) ∧ Below w.heap.size w w'

def NewKidsO (w : World) (d : Nat) (kids : List Ex) (x : Ending) (w' : World) : Prop :=
  ∃ a c bs, x = .returned (.slice a kids.length c) ∧ KidsO w' d a c kids bs ∧ bs.Nodup ∧ (∀ b ∈ bs, w.heap.size ≤ b) ∧ Below w.heap.size w w'

def ToO (d : Nat) : Prop := ∀ (e : Ex) (a : Option Addr) (c : Nat) (w : World), e.fit → e.wt ≤ 1048576 → KidsAt w d a c e.kids →
  Calls Tryz.prog 113 #[.agg #[.int .i64 e.kind, .string e.text, .int .i64 e.num, .slice a e.kids.length c]] w (NewO w d e)

/-- What has been copied of a row of expressions. -/
structure DoneO (w : World) (d : Nat) (kids : List Ex) (done : List Es) (bss : List (List Nat)) (wr : World) : Prop where
  le : done.length ≤ kids.length
  len : bss.length = done.length
  kid : ∀ (j : Nat) (h : j < done.length) (h' : j < kids.length) (h2 : j < bss.length), done[j].e = kids[j] ∧ KidsO wr d done[j].a done[j].c kids[j].kids bss[j]
  nodup : bss.flatten.Nodup
  range : ∀ b ∈ bss.flatten, w.heap.size + 1 ≤ b ∧ b < wr.heap.size
  own : wr.ownsRow w.heap.size 162 4 (.slice (some ⟨w.heap.size, 0, none⟩) kids.length kids.length) kids.length (efill done kids.length)
  lt : w.heap.size < wr.heap.size
  bel : Below w.heap.size w wr

theorem DoneO.end {w wr : World} {d : Nat} {kids : List Ex} {done : List Es} {bss : List (List Nat)} (h : DoneO w d kids done bss wr) (hn : done.length = kids.length) (hm : kids.length ≤ maxLen) (hfit : ∀ e ∈ kids, e.fit) :
    ∃ bs, KidsO wr (d + 1) (some ⟨w.heap.size, 0, none⟩) kids.length kids bs ∧ bs.Nodup ∧ ∀ b ∈ bs, w.heap.size ≤ b := by
  have hk : kids = done.map Es.e := by
    refine List.ext_getElem (by simp [hn]) fun i h1 h2 => ?_
    have h3 : i < done.length := by simpa using h2
    rw [List.getElem_map, (h.kid i h3 h1 (by rw [h.len]; exact h3)).1]
  by_cases h0 : kids.length = 0
  · have : kids = [] := List.eq_nil_of_length_eq_zero h0
    subst this
    exact ⟨[], ⟨by simp [maxLen], Nat.le_refl _, (fun h => by cases h), .inl ⟨rfl, rfl⟩⟩, by simp, by simp⟩
  · refine ⟨w.heap.size :: bss.flatten, ⟨hm, Nat.le_refl _, (fun h => by cases h), .inr ⟨w.heap.size, done, bss, rfl, hk, h.len, by omega, rfl, ?_, fun i hi hi' => ?_⟩⟩, ?_, ?_⟩
    · have := h.own
      rw [← hn, efill_all] at this
      rw [hn] at this ⊢
      exact this
    · obtain ⟨he, hko⟩ := h.kid i hi (by omega) hi'
      rw [he]
      exact ⟨hfit _ (List.getElem_mem _), hko⟩
    · exact List.nodup_cons.2 ⟨fun hm => by have := (h.range _ hm).1; omega, h.nodup⟩
    · intro b hb
      rcases List.mem_cons.1 hb with rfl | hb
      · exact Nat.le_refl _
      · have := (h.range b hb).1; omega

theorem DoneO.step {w wr w2 w3 : World} {d : Nat} {kids : List Ex} {done : List Es} {bss : List (List Nat)} (h : DoneO w d kids done bss wr) (hlt : done.length < kids.length) {a : Option Addr} {c : Nat} {nb : List Nat}
    (hk : KidsO w2 d a c kids[done.length].kids nb) (hnd : nb.Nodup) (hnb : ∀ b ∈ nb, wr.heap.size ≤ b) (hb2 : Below wr.heap.size wr w2)
    (h3 : w3 = (((w2.setCell ⟨w.heap.size, done.length * 4, none⟩ (.int .i64 kids[done.length].kind)).setCell ⟨w.heap.size, done.length * 4 + 1, none⟩ (.string kids[done.length].text)).setCell ⟨w.heap.size, done.length * 4 + 2, none⟩ (.int .i64 kids[done.length].num)).setCell ⟨w.heap.size, done.length * 4 + 3, none⟩ (.slice a kids[done.length].kids.length c)) :
    DoneO w d kids (done ++ [⟨kids[done.length], a, c⟩]) (bss ++ [nb]) w3 := by
  have hlw := h.lt
  have hown2 : w2.ownsRow w.heap.size 162 4 (.slice (some ⟨w.heap.size, 0, none⟩) kids.length kids.length) kids.length (efill done kids.length) := ownsRow_block h.own fun g hg => by cases hg; exact hb2.block _ hlw
  have R0 := hown2.stored (done.length * 4) (.int .i64 kids[done.length].kind)
  have R1 := R0.1.stored (done.length * 4 + 1) (.string kids[done.length].text)
  have R2 := R1.1.stored (done.length * 4 + 2) (.int .i64 kids[done.length].num)
  have R3 := R2.1.stored (done.length * 4 + 3) (.slice a kids[done.length].kids.length c)
  have hset := efill_set done kids.length ⟨kids[done.length], a, c⟩ hlt
  unfold Es.k Es.t Es.n Es.s at hset
  simp only at hset
  rw [hset] at R3
  have hbw2 : Below w.heap.size w w2 := h.bel.trans (hb2.mono h.bel.size)
  have RB := (((hbw2.setCell (p := ⟨w.heap.size, done.length * 4, none⟩) (Nat.le_refl _) (.int .i64 kids[done.length].kind)).setCell (p := ⟨w.heap.size, done.length * 4 + 1, none⟩) (Nat.le_refl _) (.string kids[done.length].text)).setCell (p := ⟨w.heap.size, done.length * 4 + 2, none⟩) (Nat.le_refl _) (.int .i64 kids[done.length].num)).setCell (p := ⟨w.heap.size, done.length * 4 + 3, none⟩) (Nat.le_refl _) (.slice a kids[done.length].kids.length c)
  have hsz : w3.heap.size = w2.heap.size := by subst h3; simp [World.setCell]
  have hbl : ∀ b, b ≠ w.heap.size → w3.heap[b]? = w2.heap[b]? := by
    intro b hb
    subst h3
    rw [Below.heap_setCell _ _ _ _ hb, Below.heap_setCell _ _ _ _ hb, Below.heap_setCell _ _ _ _ hb, Below.heap_setCell _ _ _ _ hb]
  have hs2 := hb2.size
  have hll := h.len
  have hfl : (bss ++ [nb]).flatten = bss.flatten ++ nb := by simp
  refine ⟨by simp; omega, by simp [hll], fun j hj hj' hj2 => ?_, ?_, ?_, by subst h3; exact R3.1, by omega, by subst h3; exact RB⟩
  · by_cases hjl : j < done.length
    · have hjb : j < bss.length := by omega
      rw [List.getElem_append_left hjl, List.getElem_append_left hjb]
      obtain ⟨h1, h2⟩ := h.kid j hjl hj' hjb
      refine ⟨h1, h2.agree fun b hb => ?_⟩
      have hr := h.range b (List.mem_flatten.2 ⟨_, List.getElem_mem hjb, hb⟩)
      rw [hbl b (by omega), hb2.block b hr.2]
    · have hje : j = done.length := by simp at hj; omega
      subst hje
      rw [List.getElem_append_right (Nat.le_refl _), List.getElem_append_right (by omega)]
      simp only [Nat.sub_self, hll, List.getElem_cons_zero]
      refine ⟨by first | rfl | trivial, hk.agree fun b hb => hbl b (by have := hnb b hb; omega)⟩
  · rw [hfl, List.nodup_append]
    refine ⟨h.nodup, hnd, fun x hx y hy e => ?_⟩
    have := (h.range x hx).2
    have := hnb y hy
    omega
  · intro b hb
    rw [hfl] at hb
    rcases List.mem_append.1 hb with hb | hb
    · have := h.range b hb; omega
    · have := hnb b hb
      have := hk.lt b hb
      omega

set_option maxHeartbeats 1000000 in
theorem toKidsO (d : Nat) (ih : ToO d) (a : Option Addr) (c : Nat) (xs : List Ex) (w : World) (hx : KidsAt w (d + 1) a c xs) (hn : xs.length + wtL xs ≤ 1048576) :
    Calls Tryz.prog 99 #[.slice a xs.length c] w (NewKidsO w (d + 1) xs) := by
  obtain ⟨i0, hi0, hz0, hz1, hz2⟩ := info_parts Tryz.infoExpr
  have hb16 : i0.bytes * xs.length ≤ 281474976710656 := by rw [hz2]; omega
  have hfits := Lib.hid hx.fits
  have hl := hx.len
  go_enter Tryz.func99, Tryz.ntmps99
  go_wp2_with (at_make; refine wpList_make_full _ rfl _ _ 58 rfl w.heap.size 162 i0 (.agg #[.int .i64 0, .string ByteArray.empty, .int .i64 0, .slice none 0 0]) 4 Tryz.underlying58 hi0 hz0 hz1 .i64 .i64 _ _ xs.length rfl rfl rfl rfl hb16 (by unfold maxLen; omega) (Nat.le_refl _) ?_; intro w1 hown hg)
  have hown1 : DoneO w d xs [] [] w1 := by
    refine ⟨Nat.zero_le _, rfl, fun j h => by simp at h, by simp, by simp, ?_, ?_, (Below.refl _ _).grown hg (Nat.le_refl _) (fun k hk => by cases hk)⟩
    · unfold efill
      rw [List.nil_append, List.length_nil, Nat.sub_zero, ecells_none]
      exact hown
    · rcases hown.2 with ⟨h, _⟩ | ⟨g, cap, cur, hv, _, hgg, _⟩
      · cases h
      · simp only [Value.slice.injEq, Option.some.injEq, Addr.mk.injEq] at hv
        rcases Nat.lt_or_ge w.heap.size w1.heap.size with h | h
        · exact h
        · rw [← hv.1.1, Array.getElem?_eq_none h] at hgg; cases hgg
  clear hown hg
  go_loopw [4] (fun i wr => ∃ (done : List Es) (bss : List (List Nat)), i = .int .i64 done.length ∧ DoneO w d xs done bss wr) (fun i _ => xs.length - (intOf i).toNat)
  case atStart => exact ⟨[], [], rfl, hown1⟩
  case round =>
    obtain ⟨done, bss, rfl, hd⟩ := hrel
    by_cases hlt : done.length < xs.length
    · obtain ⟨b, off, rfl, hbl, hc0, hc1, hc2, hfit, a', c', hc3, hkid⟩ := (hx.below hd.bel).spot hlt
      have HK := Lib.hid hkid
      have HD := Lib.hid hd
      clear hkid hx hd
      go_wp2_with fail
      refine (ih xs[done.length] a' c' _ hfit (Nat.le_trans (wtL_get hlt) (by omega)) HK.out).mono ?_
      rintro e w2 ⟨a2, c2, nb, rfl, hk2, hnd2, hnb2, hb2⟩
      have hown2 : w2.ownsRow w.heap.size 162 4 (.slice (some ⟨w.heap.size, 0, none⟩) xs.length xs.length) xs.length (efill done xs.length) := ownsRow_block HD.out.own fun g hg => by cases hg; exact hb2.block _ HD.out.lt
      obtain ⟨hs0, hs1, hs2, hs3⟩ := efill_at done xs.length hlt
      have hd0 : w2.cell? ⟨w.heap.size, done.length * 4, none⟩ = some (.int .i64 0) := (hown2.cellAt _ (by omega)).trans hs0
      have hd1 : w2.cell? ⟨w.heap.size, done.length * 4 + 1, none⟩ = some (.string ByteArray.empty) := (hown2.cellAt _ (by omega)).trans hs1
      have hd2 : w2.cell? ⟨w.heap.size, done.length * 4 + 2, none⟩ = some (.int .i64 0) := (hown2.cellAt _ (by omega)).trans hs2
      have hd3 : w2.cell? ⟨w.heap.size, done.length * 4 + 3, none⟩ = some (.slice none 0 0) := (hown2.cellAt _ (by omega)).trans hs3
      have hf0 : w2.frozen? ⟨w.heap.size, done.length * 4, none⟩ = false := hown2.frozenAt _
      have hf1 : w2.frozen? ⟨w.heap.size, done.length * 4 + 1, none⟩ = false := hown2.frozenAt _
      have hf2 : w2.frozen? ⟨w.heap.size, done.length * 4 + 2, none⟩ = false := hown2.frozenAt _
      have hf3 : w2.frozen? ⟨w.heap.size, done.length * 4 + 3, none⟩ = false := hown2.frozenAt _
      have HS := Lib.hid (HD.out.step hlt hk2 hnd2 hnb2 hb2 rfl)
      clear hown2 hs0 hs1 hs2 hs3 hc0 hc1 hc2 hc3 hbl hk2 hnd2 hnb2 hb2 HD HK
      go_wp2_with fail
      go_roundw
      case rel => exact ⟨done ++ [⟨xs[done.length], a2, c2⟩], bss ++ [nb], by simp, HS.out⟩
      case measure => simp [intOf]; omega
    · have hle := hd.le
      have hee : done.length = xs.length := by omega
      have HE := Lib.hid (hd.end hee (by unfold maxLen; omega) hfits.out)
      have hbl := hd.bel
      clear hd
      go_wp2_with fail
      go_ret
      obtain ⟨bs, h1, h2, h3⟩ := HE.out
      exact ⟨_, _, bs, rfl, h1, h2, h3, hbl⟩

set_option maxHeartbeats 1000000 in
theorem toO : ∀ d, ToO d
  | 0 => fun _ _ _ _ _ _ h => h.elim
  | d + 1 => by
    intro e a c w hfit hwt hk
    have hks := toKidsO d (toO d) a c e.kids
    have hw := Ex.wt_eq e
    have HK := Lib.hid (fun w' (hb : Below w.heap.size w w') => hk.below hb)
    clear hk
    go_enter Tryz.func113, Tryz.ntmps113
    go_wp2_with fail
    refine (hks _ (HK.out _ ?_) (by omega)).mono ?_
    · exact (((Below.refl _ _).alloc (Nat.le_refl _) _).alloc (by simp) _).alloc (by simp; omega) _
    rintro x w2 ⟨a2, c2, bs, rfl, hk2, hnd2, hnb2, hb2⟩
    have hB : Below w.heap.size w w2 := ((((Below.refl _ _).alloc (Nat.le_refl _) _).alloc (by simp) _).alloc (by simp; omega) _).trans (hb2.mono (by simp; omega))
    obtain ⟨hcw, hfw⟩ := bcellE hb2
    have g0 : w2.cell? ⟨w.heap.size + 1 + 1, 0, none⟩ = some (.int .i64 e.kind) := (hcw _ _ (by simp)).trans (by simp [go_sem])
    have g1 : w2.cell? ⟨w.heap.size + 1 + 1, 1, none⟩ = some (.string e.text) := (hcw _ _ (by simp)).trans (by simp [go_sem])
    have g2 : w2.cell? ⟨w.heap.size + 1 + 1, 2, none⟩ = some (.int .i64 e.num) := (hcw _ _ (by simp)).trans (by simp [go_sem])
    have g3 : w2.cell? ⟨w.heap.size + 1 + 1, 3, none⟩ = some (.slice none 0 0) := (hcw _ _ (by simp)).trans (by simp [go_sem])
    have z3 : w2.frozen? ⟨w.heap.size + 1 + 1, 3, none⟩ = false := (hfw _ _ (by simp)).trans (by simp [go_sem])
    have y0 : w2.cell? ⟨w.heap.size + 1, 0, none⟩ = some (.int .i64 0) := (hcw _ _ (by simp)).trans (by simp [go_sem])
    have y1 : w2.cell? ⟨w.heap.size + 1, 1, none⟩ = some (.string ByteArray.empty) := (hcw _ _ (by simp)).trans (by simp [go_sem]; rfl)
    have y2 : w2.cell? ⟨w.heap.size + 1, 2, none⟩ = some (.int .i64 0) := (hcw _ _ (by simp)).trans (by simp [go_sem])
    have y3 : w2.cell? ⟨w.heap.size + 1, 3, none⟩ = some (.slice none 0 0) := (hcw _ _ (by simp)).trans (by simp [go_sem])
    have x0 : w2.frozen? ⟨w.heap.size + 1, 0, none⟩ = false := (hfw _ _ (by simp)).trans (by simp [go_sem])
    have x1 : w2.frozen? ⟨w.heap.size + 1, 1, none⟩ = false := (hfw _ _ (by simp)).trans (by simp [go_sem])
    have x2 : w2.frozen? ⟨w.heap.size + 1, 2, none⟩ = false := (hfw _ _ (by simp)).trans (by simp [go_sem])
    have x3 : w2.frozen? ⟨w.heap.size + 1, 3, none⟩ = false := (hfw _ _ (by simp)).trans (by simp [go_sem])
    have HE : Hid ((∀ w5 : World, (∀ b, w.heap.size + 3 ≤ b → w5.heap[b]? = w2.heap[b]?) → KidsO w5 (d + 1) a2 c2 e.kids bs) ∧ bs.Nodup ∧ ∀ b ∈ bs, w.heap.size + 3 ≤ b) := by
      have hr : ∀ b ∈ bs, w.heap.size + 3 ≤ b := fun b hb => by have := hnb2 b hb; simp at this; omega
      exact ⟨fun w5 h2 => hk2.agree fun b hb => h2 b (hr b hb), hnd2, hr⟩
    have HB := Lib.hid hB
    clear hk2 hb2 hB hcw hfw hnd2 hnb2
    go_wp2_with fail
    refine bodyPost_ret (v := .agg #[.int .i64 e.kind, .string e.text, .int .i64 e.num, .slice a2 e.kids.length c2]) (by simp [results, Tryz.results113, go_sem, *]) rfl ⟨_, _, bs, rfl, HE.out.1 _ ?_, HE.out.2.1, fun b hb => by have := HE.out.2.2 b hb; omega, ?_⟩
    · intro b hb
      have ho : ∀ (wv : World) (q : Addr) (v : Value), q.block < w.heap.size + 3 → (wv.setCell q v).heap[b]? = wv.heap[b]? := fun wv q v hq => Below.heap_setCell _ _ _ _ (by omega)
      exact (ho _ _ _ (by simp)).trans ((ho _ _ _ (by simp)).trans ((ho _ _ _ (by simp)).trans ((ho _ _ _ (by simp)).trans (ho _ _ _ (by simp)))))
    · exact ((((HB.out.setCell (by simp; omega) _).setCell (by simp) _).setCell (by simp) _).setCell (by simp) _).setCell (by simp) _

end Go.Proofs.YtjjdcdnaonfnmaaGreat
