/- Trees of expressions that own their blocks: what the laws' copies are, and what a marking turns. -/
/- impl.eachNode with the function that collects the columns. -/
import Derived.Test.YthebkfanpnbanaaDoorMBytes1
import Derived.Test.YthebkfanpnbanaaDoorMExWalk
import Derived.Test.YthebkfanpnbanaaDoorMPlain
namespace Go.Proofs.YthebkfanpnbanaaDoor
open Go.RowKit

/-- As KidsAt, and every list of kids is a row of its own, in the blocks bs. -/
def KidsO (w : World) : Nat → Option Addr → Nat → List Ex → List Nat → Prop
  | 0, _, _, _, _ => False
  | d + 1, a, c, kids, bs => c ≤ maxLen ∧ kids.length ≤ c ∧ (a = none → c = 0) ∧
    ((kids = [] ∧ bs = []) ∨ ∃ (b : Nat) (es : List Es) (bss : List (List Nat)), a = some ⟨b, 0, none⟩ ∧ kids = es.map Es.e ∧ bss.length = es.length ∧ 0 < es.length ∧ bs = b :: bss.flatten ∧
      w.ownsRow b 26 4 (.slice (some ⟨b, 0, none⟩) es.length c) es.length (ecells es) ∧
      ∀ (i : Nat) (h : i < es.length) (h' : i < bss.length), es[i].e.fit ∧ KidsO w d es[i].a es[i].c es[i].e.kids bss[i])

theorem ownsRow_block {w w' : World} {base : Nat} {e : TypeId} {size : Nat} {v : Value} {n : Nat} {xs : List Value} (h : w.ownsRow base e size v n xs) (hb : ∀ g, v.ownBlock = some g → w'.heap[g]? = w.heap[g]?) : w'.ownsRow base e size v n xs := by
  refine ⟨h.1, ?_⟩
  rcases h.2 with h2 | ⟨g, cap, cur, hv, hB, hg, r⟩
  · exact .inl h2
  · exact .inr ⟨g, cap, cur, hv, hB, by rw [hb g (by rw [hv]; rfl)]; exact hg, r⟩

theorem ownsRow_lt {w : World} {base : Nat} {e : TypeId} {size : Nat} {g n c : Nat} {xs : List Value} (h : w.ownsRow base e size (.slice (some ⟨g, 0, none⟩) n c) n xs) : g < w.heap.size := (h.lt g rfl).2

theorem KidsO.agree {w w' : World} : ∀ {d : Nat} {a : Option Addr} {c : Nat} {kids : List Ex} {bs : List Nat}, (∀ b ∈ bs, w'.heap[b]? = w.heap[b]?) → KidsO w d a c kids bs → KidsO w' d a c kids bs
  | 0, _, _, _, _, _, h => h
  | d + 1, a, c, kids, bs, hc, h => by
    obtain ⟨h1, h2, h3, h4⟩ := h
    refine ⟨h1, h2, h3, ?_⟩
    rcases h4 with h4 | ⟨b, es, bss, ha, hk, hl, hp, rfl, hown, hkid⟩
    · exact .inl h4
    · refine .inr ⟨b, es, bss, ha, hk, hl, hp, rfl, ownsRow_block hown fun g hg => by cases hg; exact hc b (List.mem_cons_self ..), fun i hi hi' => ?_⟩
      obtain ⟨hf, hk⟩ := hkid i hi hi'
      exact ⟨hf, KidsO.agree (fun g hg => hc g (List.mem_cons_of_mem _ (List.mem_flatten.2 ⟨_, List.getElem_mem hi', hg⟩))) hk⟩

theorem KidsO.at {w : World} : ∀ {d : Nat} {a : Option Addr} {c : Nat} {kids : List Ex} {bs : List Nat}, KidsO w d a c kids bs → KidsAt w d a c kids
  | 0, _, _, _, _, h => h
  | d + 1, a, c, kids, bs, h => by
    obtain ⟨h1, h2, h3, h4⟩ := h
    refine ⟨h2, h1, h3, fun hp => ?_⟩
    rcases h4 with ⟨rfl, _⟩ | ⟨b, es, bss, ha, rfl, hl, hp, rfl, hown, hkid⟩
    · simp at hp
    · refine ⟨b, 0, ha, ownsRow_lt hown, fun i hi => ?_⟩
      have hi' : i < es.length := by simpa using hi
      obtain ⟨hf, hk⟩ := hkid i hi' (by omega)
      obtain ⟨c0, c1, c2, c3⟩ := ecells_at es i hi'
      have e0 := (World.ownsRow.cellAt (w := w) hown (i * 4) (by omega)).trans c0
      have e1 := (World.ownsRow.cellAt (w := w) hown (i * 4 + 1) (by omega)).trans c1
      have e2 := (World.ownsRow.cellAt (w := w) hown (i * 4 + 2) (by omega)).trans c2
      have e3 := (World.ownsRow.cellAt (w := w) hown (i * 4 + 3) (by omega)).trans c3
      rw [Nat.zero_add]
      simp only [List.getElem_map]
      exact ⟨e0, e1, e2, hf, _, _, e3, hk.at⟩

theorem KidsO.lt {w : World} : ∀ {d : Nat} {a : Option Addr} {c : Nat} {kids : List Ex} {bs : List Nat}, KidsO w d a c kids bs → ∀ b ∈ bs, b < w.heap.size
  | 0, _, _, _, _, h => h.elim
  | d + 1, a, c, kids, bs, h => by
    obtain ⟨_, _, _, h4⟩ := h
    intro b hb
    rcases h4 with ⟨_, rfl⟩ | ⟨b0, es, bss, ha, rfl, hl, hp, rfl, hown, hkid⟩
    · simp at hb
    · rcases List.mem_cons.1 hb with rfl | hb
      · exact ownsRow_lt hown
      · obtain ⟨l, hl', hbl⟩ := List.mem_flatten.1 hb
        obtain ⟨i, hi, rfl⟩ := List.mem_iff_getElem.1 hl'
        exact (hkid i (by omega) hi).2.lt b hbl

theorem KidsO.below {w w' : World} {d : Nat} {a : Option Addr} {c : Nat} {kids : List Ex} {bs : List Nat} (h : KidsO w d a c kids bs) (hb : Below w.heap.size w w') : KidsO w' d a c kids bs :=
  h.agree fun b hm => hb.block b (h.lt b hm)

theorem KidsO.nil (w : World) (d : Nat) : KidsO w (d + 1) none 0 [] [] := ⟨by unfold maxLen; omega, Nat.le_refl _, fun _ => rfl, .inl ⟨rfl, rfl⟩⟩

/-- What a copy of an expression answers: the same tree, in blocks of its own. -/
def NewO (w : World) (d : Nat) (e : Ex) (x : Ending) (w' : World) : Prop :=
  ∃ a c bs, x = .returned (.agg #[.int .i64 e.kind, .string e.text, .int .i64 e.num, .slice a e.kids.length c]) ∧ KidsO w' d a c e.kids bs ∧ bs.Nodup ∧ (∀ b ∈ bs, w.heap.size ≤ b) ∧ Below w.heap.size w w'

def NewKidsO (w : World) (d : Nat) (kids : List Ex) (x : Ending) (w' : World) : Prop :=
  ∃ a c bs, x = .returned (.slice a kids.length c) ∧ KidsO w' d a c kids bs ∧ bs.Nodup ∧ (∀ b ∈ bs, w.heap.size ≤ b) ∧ Below w.heap.size w w'

/-- What has been copied of a row of expressions. -/
structure DoneO (w : World) (d : Nat) (kids : List Ex) (done : List Es) (bss : List (List Nat)) (wr : World) : Prop where
  le : done.length ≤ kids.length
  len : bss.length = done.length
  kid : ∀ (j : Nat) (h : j < done.length) (h' : j < kids.length) (h2 : j < bss.length), done[j].e = kids[j] ∧ KidsO wr d done[j].a done[j].c kids[j].kids bss[j]
  nodup : bss.flatten.Nodup
  range : ∀ b ∈ bss.flatten, w.heap.size + 1 ≤ b ∧ b < wr.heap.size
  own : wr.ownsRow w.heap.size 26 4 (.slice (some ⟨w.heap.size, 0, none⟩) kids.length kids.length) kids.length (efill done kids.length)
  lt : w.heap.size < wr.heap.size
  bel : Below w.heap.size w wr

theorem DoneO.end {w wr : World} {d : Nat} {kids : List Ex} {done : List Es} {bss : List (List Nat)} (h : DoneO w d kids done bss wr) (hn : done.length = kids.length) (hm : kids.length ≤ maxLen) (hfit : ∀ e ∈ kids, e.fit) :
    ∃ bs, KidsO wr (d + 1) (some ⟨w.heap.size, 0, none⟩) kids.length kids bs ∧ bs.Nodup ∧ ∀ b ∈ bs, w.heap.size ≤ b := by
  have hk : kids = done.map Es.e := by
    refine List.ext_getElem (by simp [hn]) fun i h1 h2 => ?_
    have h3 : i < done.length := by simpa using h2
    rw [List.getElem_map, (h.kid i h3 h1 (by rw [h.len]; exact h3)).1]
  by_cases h0 : kids.length = 0
  · have : kids = [] := List.eq_nil_of_length_eq_zero h0
    subst this
    exact ⟨[], ⟨by simp [maxLen], Nat.le_refl _, (fun h => by cases h), .inl ⟨rfl, rfl⟩⟩, by simp, by simp⟩
  · refine ⟨w.heap.size :: bss.flatten, ⟨hm, Nat.le_refl _, (fun h => by cases h), .inr ⟨w.heap.size, done, bss, rfl, hk, h.len, by omega, rfl, ?_, fun i hi hi' => ?_⟩⟩, ?_, ?_⟩
    · have := h.own
      rw [← hn, efill_all] at this
      rw [hn] at this ⊢
      exact this
    · obtain ⟨he, hko⟩ := h.kid i hi (by omega) hi'
      rw [he]
      exact ⟨hfit _ (List.getElem_mem _), hko⟩
    · exact List.nodup_cons.2 ⟨fun hm => by have := (h.range _ hm).1; omega, h.nodup⟩
    · intro b hb
      rcases List.mem_cons.1 hb with rfl | hb
      · exact Nat.le_refl _
      · have := (h.range b hb).1; omega

theorem DoneO.step {w wr w2 w3 : World} {d : Nat} {kids : List Ex} {done : List Es} {bss : List (List Nat)} (h : DoneO w d kids done bss wr) (hlt : done.length < kids.length) {a : Option Addr} {c : Nat} {nb : List Nat}
    (hk : KidsO w2 d a c kids[done.length].kids nb) (hnd : nb.Nodup) (hnb : ∀ b ∈ nb, wr.heap.size ≤ b) (hb2 : Below wr.heap.size wr w2)
    (h3 : w3 = (((w2.setCell ⟨w.heap.size, done.length * 4, none⟩ (.int .i64 kids[done.length].kind)).setCell ⟨w.heap.size, done.length * 4 + 1, none⟩ (.string kids[done.length].text)).setCell ⟨w.heap.size, done.length * 4 + 2, none⟩ (.int .i64 kids[done.length].num)).setCell ⟨w.heap.size, done.length * 4 + 3, none⟩ (.slice a kids[done.length].kids.length c)) :
    DoneO w d kids (done ++ [⟨kids[done.length], a, c⟩]) (bss ++ [nb]) w3 := by
  have hlw := h.lt
  have hown2 : w2.ownsRow w.heap.size 26 4 (.slice (some ⟨w.heap.size, 0, none⟩) kids.length kids.length) kids.length (efill done kids.length) := ownsRow_block h.own fun g hg => by cases hg; exact hb2.block _ hlw
  have R0 := hown2.stored (done.length * 4) (.int .i64 kids[done.length].kind)
  have R1 := R0.1.stored (done.length * 4 + 1) (.string kids[done.length].text)
  have R2 := R1.1.stored (done.length * 4 + 2) (.int .i64 kids[done.length].num)
  have R3 := R2.1.stored (done.length * 4 + 3) (.slice a kids[done.length].kids.length c)
  have hset := efill_set done kids.length ⟨kids[done.length], a, c⟩ hlt
  unfold Es.k Es.t Es.n Es.s at hset
  simp only at hset
  rw [hset] at R3
  have hbw2 : Below w.heap.size w w2 := h.bel.trans (hb2.mono h.bel.size)
  have RB := (((hbw2.setCell (p := ⟨w.heap.size, done.length * 4, none⟩) (Nat.le_refl _) (.int .i64 kids[done.length].kind)).setCell (p := ⟨w.heap.size, done.length * 4 + 1, none⟩) (Nat.le_refl _) (.string kids[done.length].text)).setCell (p := ⟨w.heap.size, done.length * 4 + 2, none⟩) (Nat.le_refl _) (.int .i64 kids[done.length].num)).setCell (p := ⟨w.heap.size, done.length * 4 + 3, none⟩) (Nat.le_refl _) (.slice a kids[done.length].kids.length c)
  have hsz : w3.heap.size = w2.heap.size := by subst h3; simp [World.setCell]
  have hbl : ∀ b, b ≠ w.heap.size → w3.heap[b]? = w2.heap[b]? := by
    intro b hb
    subst h3
    rw [Below.heap_setCell _ _ _ _ hb, Below.heap_setCell _ _ _ _ hb, Below.heap_setCell _ _ _ _ hb, Below.heap_setCell _ _ _ _ hb]
  have hs2 := hb2.size
  have hll := h.len
  have hfl : (bss ++ [nb]).flatten = bss.flatten ++ nb := by simp
  refine ⟨by simp; omega, by simp [hll], fun j hj hj' hj2 => ?_, ?_, ?_, by subst h3; exact R3.1, by omega, by subst h3; exact RB⟩
  · by_cases hjl : j < done.length
    · have hjb : j < bss.length := by omega
      rw [List.getElem_append_left hjl, List.getElem_append_left hjb]
      obtain ⟨h1, h2⟩ := h.kid j hjl hj' hjb
      refine ⟨h1, h2.agree fun b hb => ?_⟩
      have hr := h.range b (List.mem_flatten.2 ⟨_, List.getElem_mem hjb, hb⟩)
      rw [hbl b (by omega), hb2.block b hr.2]
    · have hje : j = done.length := by simp at hj; omega
      subst hje
      rw [List.getElem_append_right (Nat.le_refl _), List.getElem_append_right (by omega)]
      simp only [Nat.sub_self, hll, List.getElem_cons_zero]
      refine ⟨by first | rfl | trivial, hk.agree fun b hb => hbl b (by have := hnb b hb; omega)⟩
  · rw [hfl, List.nodup_append]
    refine ⟨h.nodup, hnd, fun x hx y hy e => ?_⟩
    have := (h.range x hx).2
    have := hnb y hy
    omega
  · intro b hb
    rw [hfl] at hb
    rcases List.mem_append.1 hb with hb | hb
    · have := h.range b hb; omega
    · have := hnb b hb
      have := hk.lt b hb
      omega

end Go.Proofs.YthebkfanpnbanaaDoor

namespace Go.Proofs.YthebkfanpnbanaaDoor
open Go.RowKit

/-- What has turned: the block wb, the block of one row, and new ones. -/
def Turn2 (w w' : World) (wb : Nat) (row : Option Nat) : Prop :=
  w'.os = w.os ∧ w'.tape = w.tape ∧ w'.output = w.output ∧ w.heap.size ≤ w'.heap.size ∧ ∀ k, k < w.heap.size → k ≠ wb → some k ≠ row → w'.heap[k]? = w.heap[k]?

/-- The texts collected so far lie in a row of their own, to which the cell of block wb points. -/
structure Coll (wb B : Nat) (a : Option Addr) (c : Nat) (outs : List ByteArray) (w : World) : Prop where
  cell : w.cell? ⟨wb, 0, none⟩ = some (.slice a outs.length c)
  frozen : w.frozen? ⟨wb, 0, none⟩ = false
  own : Own w B a c outs
  lt : wb < B
  le : B ≤ w.heap.size

theorem Coll.wlt {wb B : Nat} {a : Option Addr} {c : Nat} {outs : List ByteArray} {w : World} (h : Coll wb B a c outs w) : wb < w.heap.size := Nat.lt_of_lt_of_le h.lt h.le

theorem Coll.below {wb B : Nat} {a : Option Addr} {c : Nat} {outs : List ByteArray} {w w' : World} (h : Coll wb B a c outs w) (hb : Below w.heap.size w w') : Coll wb B a c outs w' :=
  ⟨(hb.cell (p := ⟨wb, 0, none⟩) h.wlt).trans h.cell, (hb.frozen (p := ⟨wb, 0, none⟩) h.wlt).trans h.frozen, h.own.below hb, h.lt, Nat.le_trans h.le hb.size⟩

/-- One text more. -/
theorem coll_more {wb B : Nat} {a a' : Option Addr} {c c' : Nat} {outs : List ByteArray} {s : ByteArray} {w w1 w2 w3 : World} (h : Coll wb B a c outs w) (hb : Below w.heap.size w w1)
    (hown : Own w2 B a' c' (outs ++ [s])) (hg : w1.grownBy w2 (Value.slice a outs.length c).ownBlock) (hat : (Value.slice a' (outs ++ [s]).length c').ownBlock = (Value.slice a outs.length c).ownBlock ∨ (Value.slice a' (outs ++ [s]).length c').ownBlock = some w1.heap.size)
    {n : Nat} (hn : n = (outs ++ [s]).length) (h3 : w3 = w2.setCell ⟨wb, 0, none⟩ (.slice a' n c')) :
    Coll wb B a' c' (outs ++ [s]) w3 ∧ Turn2 w w3 wb (Value.slice a outs.length c).ownBlock ∧ ((Value.slice a' (outs ++ [s]).length c').ownBlock = (Value.slice a outs.length c).ownBlock ∨ ∃ g, (Value.slice a' (outs ++ [s]).length c').ownBlock = some g ∧ w.heap.size ≤ g) := by
  subst hn h3
  have hlt := h.lt
  have hle := h.le
  have h1s := hb.size
  have h2s := hg.size
  have hne : some wb ≠ (Value.slice a outs.length c).ownBlock := fun e => by have := (h.own.lt e.symm).1; omega
  have hne' : ∀ g, (Value.slice a' (outs ++ [s]).length c').ownBlock = some g → g ≠ wb := fun g e => by have := (hown.lt e).1; omega
  have hcell : w2.cell? ⟨wb, 0, none⟩ = some (.slice a outs.length c) := (hg.cell_far ⟨wb, 0, none⟩ (by show wb < _; omega) hne).trans ((hb.cell (p := ⟨wb, 0, none⟩) h.wlt).trans h.cell)
  have hfz : w2.frozen? ⟨wb, 0, none⟩ = false := (hg.frozen_far ⟨wb, 0, none⟩ (by show wb < _; omega) hne).trans ((hb.frozen (p := ⟨wb, 0, none⟩) h.wlt).trans h.frozen)
  refine ⟨⟨World.cell?_setCell_same _ _ _ hcell, by rw [World.frozen?_setCell]; exact hfz, ?_, hlt, by simp [World.setCell]; omega⟩, ⟨?_, ?_, ?_, by simp [World.setCell]; omega, fun k hk hkw hkr => ?_⟩, ?_⟩
  · exact ownsRow_block hown fun g hg' => Below.heap_setCell _ _ _ _ (hne' g hg')
  · rw [← hb.os, ← hg.os]; rfl
  · rw [← hb.tape, ← hg.tape]; rfl
  · rw [← hb.output, ← hg.output]; rfl
  · rw [Below.heap_setCell _ _ _ _ hkw, hg.block k (by omega) hkr, hb.block k hk]
  · rcases hat with e | e
    · exact .inl e
    · exact .inr ⟨_, e, hb.size⟩

def SeesC (w : World) (wb B : Nat) (a : Option Addr) (c : Nat) (outs : List ByteArray) (e : Ex) (x : Ending) (w' : World) : Prop :=
  x = .returned (.tuple #[]) ∧ ∃ a' c', Coll wb B a' c' (outs ++ own1 e) w' ∧ Turn2 w w' wb (Value.slice a outs.length c).ownBlock ∧
    ((Value.slice a' (outs ++ own1 e).length c').ownBlock = (Value.slice a outs.length c).ownBlock ∨ ∃ g, (Value.slice a' (outs ++ own1 e).length c').ownBlock = some g ∧ w.heap.size ≤ g)

theorem below_turn2 {w w' : World} (hb : Below w.heap.size w w') (wb : Nat) (row : Option Nat) : Turn2 w w' wb row := ⟨hb.os, hb.tape, hb.output, hb.size, fun k hk _ _ => hb.block k hk⟩

/-- append of one text, and where the new row lies. -/
theorem wpAppendOne {w : World} {ops : Array Oper} {rest : List Oper} {o : Oper} {A : Act} {Q : Exit → Act → World → Prop} (hgd : o.guard = none) (s x : Operand)
    (ho : o.op = .call { callee := .builtin .append, args := #[s, x], argTypes := #[33, 33] })
    (i0 : TypeInfo) (hi0 : Tryd.prog.info? 9 = some i0) (hz0 : i0.zero = some (.string ByteArray.empty)) (hz1 : i0.size = 1) (hz2 : i0.bytes = 16)
    (B : Nat) (a : Option Addr) (c : Nat) (xs : List ByteArray) (y : ByteArray) (w0 : World) (hw : w = w0.alloc (.cells #[.string y] 9))
    (hs : A.eval s = .slice a xs.length c) (hown : Own w0 B a c xs) (hx : A.eval x = .slice (some ⟨w0.heap.size, 0, none⟩) 1 1)
    (hn : xs.length + 1 ≤ 8388608) (hB : B ≤ w0.heap.size)
    (h : ∀ a' c' w', Hid (Own w' B a' c' (xs ++ [y]) ∧ w.grownBy w' (Value.slice a xs.length c).ownBlock ∧ ((Value.slice a' (xs ++ [y]).length c').ownBlock = (Value.slice a xs.length c).ownBlock ∨ (Value.slice a' (xs ++ [y]).length c').ownBlock = some w.heap.size)) → wpList Tryd.prog ops Q rest (A.put o.dst (.slice a' (xs.length + 1) c')) w') :
    wpList Tryd.prog ops Q (o :: rest) A w := by
  subst hw
  have hown1 : Own (w0.alloc (.cells #[.string y] 9)) B a c xs := hown.alloc _
  refine wpList_append_own_at _ hgd s x 33 ho B 9 i0 (.string ByteArray.empty) 1 16 Tryd.underlying33 hi0 hz0 hz1 hz2 rfl (by decide) (.slice a xs.length c) xs.length (xs.map Value.string) hs hown1
    ⟨w0.heap.size, 0, none⟩ 1 1 [.string y] hx rfl (cell_one_new _ _ _) (fun u hu => by simp at hu; subst hu; rfl) (by unfold maxLen; omega) (by omega) (by simp; omega) ?_
  intro v' w' hown' hg _ hat
  obtain ⟨a', c', rfl⟩ : ∃ a' c', v' = .slice a' (xs.length + 1) c' := by
    rcases hown'.2 with ⟨_, h0⟩ | ⟨g, cap, cur, rfl, _⟩
    · omega
    · exact ⟨_, _, rfl⟩
  refine h a' c' w' ⟨?_, hg, ?_⟩
  · unfold Own; simpa using hown'
  · simpa using hat

set_option maxRecDepth 100000 in
set_option maxHeartbeats 1000000 in
theorem colSees (wb B : Nat) (a : Option Addr) (c : Nat) (outs : List ByteArray) (e : Ex) (ak : Option Addr) (ck : Nat) (w : World) (hC : Coll wb B a c outs w) (hn : outs.length + 1 ≤ 8388608) :
    Calls Tryd.prog 22 #[.agg #[.int .i64 e.kind, .string e.text, .int .i64 e.num, .slice ak e.kids.length ck], .pointer (some ⟨wb, 0, none⟩)] w (SeesC w wb B a c outs e) := by
  obtain ⟨i0, hi0, hz0, hz1, hz2⟩ := info_parts Tryd.infoString
  have hc := hC.cell
  have hz := hC.frozen
  have hwl := hC.wlt
  have hB0 := fun o => (Below.refl w.heap.size w).alloc (Nat.le_refl _) o
  have HB0 := Lib.hid hB0
  have HC := Lib.hid hC
  clear hC hB0
  by_cases h0 : e.kind = 0
  · have hk0 : (e.kind == 0) = true := by simp [h0]
    have HO : Hid (own1 e = [e.text]) := by unfold Hid own1; rw [if_pos h0]
    clear h0
    go_enter Tryd.func22, Tryd.ntmps22
    have hbb : Below w.heap.size w ((w.alloc (.cells #[.int .i64 e.kind, .string e.text, .int .i64 e.num, .slice ak e.kids.length ck] 26)).alloc (.cells #[.string e.text] 9)) := (HB0.out _).alloc (by simp) _
    have HBB := Lib.hid hbb
    have HOA := Lib.hid (HC.out.own.alloc (.cells #[.int .i64 e.kind, .string e.text, .int .i64 e.num, .slice ak e.kids.length ck] 26))
    have HBl : Hid (B ≤ (w.alloc (.cells #[.int .i64 e.kind, .string e.text, .int .i64 e.num, .slice ak e.kids.length ck] 26)).heap.size) := by have := HC.out.le; unfold Hid; simp; omega
    clear hbb
    go_wp2_with (at_builtin; (refine wpAppendOne rfl (.tmp 6) (.tmp 9) rfl i0 hi0 hz0 hz1 hz2 B a c outs e.text (w.alloc (.cells #[.int .i64 e.kind, .string e.text, .int .i64 e.num, .slice ak e.kids.length ck] 26)) rfl rfl HOA.out (by simp [Act.eval]) hn HBl.out ?_; intro a2 c2 w2 H2; have hcw : w2.cell? ⟨wb, 0, none⟩ = some (.slice a outs.length c) := (H2.out.2.1.cell_far ⟨wb, 0, none⟩ (Nat.lt_of_lt_of_le hwl HBB.out.size) (fun e => by have := (HC.out.own.lt e.symm).1; have := HC.out.lt; simp only at *; omega)).trans ((HBB.out.cell (p := ⟨wb, 0, none⟩) hwl).trans hc); have hfw : w2.frozen? ⟨wb, 0, none⟩ = false := (H2.out.2.1.frozen_far ⟨wb, 0, none⟩ (Nat.lt_of_lt_of_le hwl HBB.out.size) (fun e => by have := (HC.out.own.lt e.symm).1; have := HC.out.lt; simp only at *; omega)).trans ((HBB.out.frozen (p := ⟨wb, 0, none⟩) hwl).trans hz)))
    refine bodyPost_end (results_none rfl _ _ _) rfl ?_
    have := coll_more HC.out HBB.out H2.out.1 H2.out.2.1 H2.out.2.2 (n := outs.length + 1) (by simp) rfl
    rw [← HO.out] at this
    exact ⟨rfl, a2, c2, this.1, this.2.1, this.2.2⟩
  · have hk0 : (e.kind == 0) = false := by simp [h0]
    have HO : Hid (own1 e = []) := by unfold Hid own1; rw [if_neg h0]
    clear h0
    go_enter Tryd.func22, Tryd.ntmps22
    go_wp2_with fail
    refine bodyPost_end (results_none rfl _ _ _) rfl ?_
    exact ⟨rfl, a, c, by rw [HO.out, List.append_nil]; exact HC.out.below (HB0.out _), below_turn2 (HB0.out _) _ _, .inl (by rw [HO.out, List.append_nil])⟩

end Go.Proofs.YthebkfanpnbanaaDoor
