/- impl.eachNode with the function that collects the columns. -/
import Derived.Test.YtdggcgipchijjaaExWalk
import Derived.Test.YtdggcgipchijjaaColsP
import Derived.Test.YtdggcgipchijjaaExOwn
import Derived.Test.YtdggcgipchijjaaAppend
namespace Go.Proofs.Ytdggcgipchijjaa
open Go.RowKit

/-- What has turned: the block wb, the block of one row, and new ones. -/
def Turn2 (w w' : World) (wb : Nat) (row : Option Nat) : Prop :=
  w'.os = w.os ∧ w'.tape = w.tape ∧ w'.output = w.output ∧ w.heap.size ≤ w'.heap.size ∧ ∀ k, k < w.heap.size → k ≠ wb → some k ≠ row → w'.heap[k]? = w.heap[k]?

/-- The texts collected so far lie in a row of their own, to which the cell of block wb points. -/
structure Coll (wb B : Nat) (a : Option Addr) (c : Nat) (outs : List ByteArray) (w : World) : Prop where
  cell : w.cell? ⟨wb, 0, none⟩ = some (.slice a outs.length c)
  frozen : w.frozen? ⟨wb, 0, none⟩ = false
  own : Own w B a c outs
  lt : wb < B
  le : B ≤ w.heap.size

theorem Coll.wlt {wb B : Nat} {a : Option Addr} {c : Nat} {outs : List ByteArray} {w : World} (h : Coll wb B a c outs w) : wb < w.heap.size := Nat.lt_of_lt_of_le h.lt h.le

theorem Coll.below {wb B : Nat} {a : Option Addr} {c : Nat} {outs : List ByteArray} {w w' : World} (h : Coll wb B a c outs w) (hb : Below w.heap.size w w') : Coll wb B a c outs w' :=
  ⟨(hb.cell (p := ⟨wb, 0, none⟩) h.wlt).trans h.cell, (hb.frozen (p := ⟨wb, 0, none⟩) h.wlt).trans h.frozen, h.own.below hb, h.lt, Nat.le_trans h.le hb.size⟩

/-- One text more. -/
theorem coll_more {wb B : Nat} {a a' : Option Addr} {c c' : Nat} {outs : List ByteArray} {s : ByteArray} {w w1 w2 w3 : World} (h : Coll wb B a c outs w) (hb : Below w.heap.size w w1)
    (hown : Own w2 B a' c' (outs ++ [s])) (hg : w1.grownBy w2 (Value.slice a outs.length c).ownBlock) (hat : (Value.slice a' (outs ++ [s]).length c').ownBlock = (Value.slice a outs.length c).ownBlock ∨ (Value.slice a' (outs ++ [s]).length c').ownBlock = some w1.heap.size)
    {n : Nat} (hn : n = (outs ++ [s]).length) (h3 : w3 = w2.setCell ⟨wb, 0, none⟩ (.slice a' n c')) :
    Coll wb B a' c' (outs ++ [s]) w3 ∧ Turn2 w w3 wb (Value.slice a outs.length c).ownBlock ∧ ((Value.slice a' (outs ++ [s]).length c').ownBlock = (Value.slice a outs.length c).ownBlock ∨ ∃ g, (Value.slice a' (outs ++ [s]).length c').ownBlock = some g ∧ w.heap.size ≤ g) := by
  subst hn h3
  have hlt := h.lt
  have hle := h.le
  have h1s := hb.size
  have h2s := hg.size
  have hne : some wb ≠ (Value.slice a outs.length c).ownBlock := fun e => by have := (h.own.lt e.symm).1; omega
  have hne' : ∀ g, (Value.slice a' (outs ++ [s]).length c').ownBlock = some g → g ≠ wb := fun g e => by have := (hown.lt e).1; omega
  have hcell : w2.cell? ⟨wb, 0, none⟩ = some (.slice a outs.length c) := (hg.cell_far ⟨wb, 0, none⟩ (by show wb < _; omega) hne).trans ((hb.cell (p := ⟨wb, 0, none⟩) h.wlt).trans h.cell)
  have hfz : w2.frozen? ⟨wb, 0, none⟩ = false := (hg.frozen_far ⟨wb, 0, none⟩ (by show wb < _; omega) hne).trans ((hb.frozen (p := ⟨wb, 0, none⟩) h.wlt).trans h.frozen)
  refine ⟨⟨World.cell?_setCell_same _ _ _ hcell, by rw [World.frozen?_setCell]; exact hfz, ?_, hlt, by simp [World.setCell]; omega⟩, ⟨?_, ?_, ?_, by simp [World.setCell]; omega, fun k hk hkw hkr => ?_⟩, ?_⟩
  · exact ownsRow_block hown fun g hg' => Below.heap_setCell _ _ _ _ (hne' g hg')
  · rw [← hb.os, ← hg.os]; rfl
  · rw [← hb.tape, ← hg.tape]; rfl
  · rw [← hb.output, ← hg.output]; rfl
  · rw [Below.heap_setCell _ _ _ _ hkw, hg.block k (by omega) hkr, hb.block k hk]
  · rcases hat with e | e
    · exact .inl e
    · exact .inr ⟨_, e, hb.size⟩

def SeesC (w : World) (wb B : Nat) (a : Option Addr) (c : Nat) (outs : List ByteArray) (e : Ex) (x : Ending) (w' : World) : Prop :=
  x = .returned (.tuple #[]) ∧ ∃ a' c', Coll wb B a' c' (outs ++ own1 e) w' ∧ Turn2 w w' wb (Value.slice a outs.length c).ownBlock ∧
    ((Value.slice a' (outs ++ own1 e).length c').ownBlock = (Value.slice a outs.length c).ownBlock ∨ ∃ g, (Value.slice a' (outs ++ own1 e).length c').ownBlock = some g ∧ w.heap.size ≤ g)

theorem below_turn2 {w w' : World} (hb : Below w.heap.size w w') (wb : Nat) (row : Option Nat) : Turn2 w w' wb row := ⟨hb.os, hb.tape, hb.output, hb.size, fun k hk _ _ => hb.block k hk⟩

/-- append of one text, and where the new row lies. -/
theorem wpAppendOne {w : World} {ops : Array Oper} {rest : List Oper} {o : Oper} {A : Act} {Q : Exit → Act → World → Prop} (hgd : o.guard = none) (s x : Operand)
    (ho : o.op = .call { callee := .builtin .append, args := #[s, x], argTypes := #[28, 28] })
    (i0 : TypeInfo) (hi0 : Try.prog.info? 9 = some i0) (hz0 : i0.zero = some (.string ByteArray.empty)) (hz1 : i0.size = 1) (hz2 : i0.bytes = 16)
    (B : Nat) (a : Option Addr) (c : Nat) (xs : List ByteArray) (y : ByteArray) (w0 : World) (hw : w = w0.alloc (.cells #[.string y] 9))
    (hs : A.eval s = .slice a xs.length c) (hown : Own w0 B a c xs) (hx : A.eval x = .slice (some ⟨w0.heap.size, 0, none⟩) 1 1)
    (hn : xs.length + 1 ≤ 8388608) (hB : B ≤ w0.heap.size)
    (h : ∀ a' c' w', Hid (Own w' B a' c' (xs ++ [y]) ∧ w.grownBy w' (Value.slice a xs.length c).ownBlock ∧ ((Value.slice a' (xs ++ [y]).length c').ownBlock = (Value.slice a xs.length c).ownBlock ∨ (Value.slice a' (xs ++ [y]).length c').ownBlock = some w.heap.size)) → wpList Try.prog ops Q rest (A.put o.dst (.slice a' (xs.length + 1) c')) w') :
    wpList Try.prog ops Q (o :: rest) A w := by
  subst hw
  have hown1 : Own (w0.alloc (.cells #[.string y] 9)) B a c xs := hown.alloc _
  refine wpList_append_own_at _ hgd s x 28 ho B 9 i0 (.string ByteArray.empty) 1 16 Try.underlying28 hi0 hz0 hz1 hz2 rfl (by decide) (.slice a xs.length c) xs.length (xs.map Value.string) hs hown1
    ⟨w0.heap.size, 0, none⟩ 1 1 [.string y] hx rfl (cell_one_new _ _ _) (fun u hu => by simp at hu; subst hu; rfl) (by unfold maxLen; omega) (by omega) (by simp; omega) ?_
  intro v' w' hown' hg _ hat
  obtain ⟨a', c', rfl⟩ : ∃ a' c', v' = .slice a' (xs.length + 1) c' := by
    rcases hown'.2 with ⟨_, h0⟩ | ⟨g, cap, cur, rfl, _⟩
    · omega
    · exact ⟨_, _, rfl⟩
  refine h a' c' w' ⟨?_, hg, ?_⟩
  · unfold Own; simpa using hown'
  · simpa using hat

set_option maxRecDepth 100000 in
set_option maxHeartbeats 1000000 in
theorem colSees (wb B : Nat) (a : Option Addr) (c : Nat) (outs : List ByteArray) (e : Ex) (ak : Option Addr) (ck : Nat) (w : World) (hC : Coll wb B a c outs w) (hn : outs.length + 1 ≤ 8388608) :
    Calls Try.prog 31 #[.agg #[.int .i64 e.kind, .string e.text, .int .i64 e.num, .slice ak e.kids.length ck], .pointer (some ⟨wb, 0, none⟩)] w (SeesC w wb B a c outs e) := by
  obtain ⟨i0, hi0, hz0, hz1, hz2⟩ := info_parts Try.infoString
  have hc := hC.cell
  have hz := hC.frozen
  have hwl := hC.wlt
  have hB0 := fun o => (Below.refl w.heap.size w).alloc (Nat.le_refl _) o
  have HB0 := Lib.hid hB0
  have HC := Lib.hid hC
  clear hC hB0
  by_cases h0 : e.kind = 0
  · have hk0 : (e.kind == 0) = true := by simp [h0]
    have HO : Hid (own1 e = [e.text]) := by unfold Hid own1; rw [if_pos h0]
    clear h0
    go_enter Try.func31, Try.ntmps31
    have hbb : Below w.heap.size w ((w.alloc (.cells #[.int .i64 e.kind, .string e.text, .int .i64 e.num, .slice ak e.kids.length ck] 26)).alloc (.cells #[.string e.text] 9)) := (HB0.out _).alloc (by simp) _
    have HBB := Lib.hid hbb
    have HOA := Lib.hid (HC.out.own.alloc (.cells #[.int .i64 e.kind, .string e.text, .int .i64 e.num, .slice ak e.kids.length ck] 26))
    have HBl : Hid (B ≤ (w.alloc (.cells #[.int .i64 e.kind, .string e.text, .int .i64 e.num, .slice ak e.kids.length ck] 26)).heap.size) := by have := HC.out.le; unfold Hid; simp; omega
    clear hbb
    go_wp2_with (at_builtin; (refine wpAppendOne rfl (.tmp 6) (.tmp 9) rfl i0 hi0 hz0 hz1 hz2 B a c outs e.text (w.alloc (.cells #[.int .i64 e.kind, .string e.text, .int .i64 e.num, .slice ak e.kids.length ck] 26)) rfl rfl HOA.out (by simp [Act.eval]) hn HBl.out ?_; intro a2 c2 w2 H2; have hcw : w2.cell? ⟨wb, 0, none⟩ = some (.slice a outs.length c) := (H2.out.2.1.cell_far ⟨wb, 0, none⟩ (Nat.lt_of_lt_of_le hwl HBB.out.size) (fun e => by have := (HC.out.own.lt e.symm).1; have := HC.out.lt; simp only at *; omega)).trans ((HBB.out.cell (p := ⟨wb, 0, none⟩) hwl).trans hc); have hfw : w2.frozen? ⟨wb, 0, none⟩ = false := (H2.out.2.1.frozen_far ⟨wb, 0, none⟩ (Nat.lt_of_lt_of_le hwl HBB.out.size) (fun e => by have := (HC.out.own.lt e.symm).1; have := HC.out.lt; simp only at *; omega)).trans ((HBB.out.frozen (p := ⟨wb, 0, none⟩) hwl).trans hz)))
    refine bodyPost_end (results_none rfl _ _ _) rfl ?_
    have := coll_more HC.out HBB.out H2.out.1 H2.out.2.1 H2.out.2.2 (n := outs.length + 1) (by simp) rfl
    rw [← HO.out] at this
    exact ⟨rfl, a2, c2, this.1, this.2.1, this.2.2⟩
  · have hk0 : (e.kind == 0) = false := by simp [h0]
    have HO : Hid (own1 e = []) := by unfold Hid own1; rw [if_neg h0]
    clear h0
    go_enter Try.func31, Try.ntmps31
    go_wp2_with fail
    refine bodyPost_end (results_none rfl _ _ _) rfl ?_
    exact ⟨rfl, a, c, by rw [HO.out, List.append_nil]; exact HC.out.below (HB0.out _), below_turn2 (HB0.out _) _ _, .inl (by rw [HO.out, List.append_nil])⟩

end Go.Proofs.Ytdggcgipchijjaa
