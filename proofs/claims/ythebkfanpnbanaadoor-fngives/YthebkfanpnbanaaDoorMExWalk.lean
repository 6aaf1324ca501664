/- impl.eachNode: a walk over all nodes of an expression, for any function that sees them. -/
/- The draws: a cursor over bytes; what it draws is within bounds, and it turns its own block alone. -/
/- A pick out of a list of texts that the call lays. -/
/- Rows of bytes that the call itself makes; texts out of them. -/
import Derived.Test.YthebkfanpnbanaaDoorMMem
import Derived.Deep.RegionHeld3
import Derived.Deep.Light
import Derived.Lib.AppendStr
import Derived.Laws.BytesString
import Derived.Laws.Cells
namespace Go.Proofs.YthebkfanpnbanaaDoor
open Go.RowKit

/-- As KidsAt, and every block of the tree is one of q. -/
def KidsQ (q : Nat → Prop) (w : World) : Nat → Option Addr → Nat → List Ex → Prop
  | 0, _, _, _ => False
  | d + 1, a, c, kids => kids.length ≤ c ∧ c ≤ maxLen ∧ (a = none → c = 0) ∧
    (0 < kids.length → ∃ b off, a = some ⟨b, off, none⟩ ∧ q b ∧ b < w.heap.size ∧ ∀ (i : Nat) (h : i < kids.length), At1 w b (off + i * 4) kids[i] (fun a' c' => KidsQ q w d a' c' kids[i].kids))

theorem KidsQ.agree {q : Nat → Prop} {w w' : World} (hs : w.heap.size ≤ w'.heap.size) (hc : ∀ b, q b → b < w.heap.size → ∀ o, w'.cell? ⟨b, o, none⟩ = w.cell? ⟨b, o, none⟩) :
    ∀ {d : Nat} {a : Option Addr} {c : Nat} {kids : List Ex}, KidsQ q w d a c kids → KidsQ q w' d a c kids
  | 0, _, _, _, h => h
  | d + 1, a, c, kids, h => by
    obtain ⟨h1, h2, h3, h4⟩ := h
    refine ⟨h1, h2, h3, fun hp => ?_⟩
    obtain ⟨b, off, ha, hlo, hlt, hcs⟩ := h4 hp
    refine ⟨b, off, ha, hlo, Nat.lt_of_lt_of_le hlt hs, fun i hi => ?_⟩
    obtain ⟨c1, c2, c3, hf, a', c', c4, hk⟩ := hcs i hi
    have e := hc b hlo hlt
    exact ⟨(e _).trans c1, (e _).trans c2, (e _).trans c3, hf, a', c', (e _).trans c4, KidsQ.agree hs hc hk⟩

theorem KidsQ.imp {q q' : Nat → Prop} {w : World} (hq : ∀ b, q b → b < w.heap.size → q' b) : ∀ {d : Nat} {a : Option Addr} {c : Nat} {kids : List Ex}, KidsQ q w d a c kids → KidsQ q' w d a c kids
  | 0, _, _, _, h => h
  | d + 1, a, c, kids, h => by
    obtain ⟨h1, h2, h3, h4⟩ := h
    refine ⟨h1, h2, h3, fun hp => ?_⟩
    obtain ⟨b, off, ha, hlo, hlt, hcs⟩ := h4 hp
    exact ⟨b, off, ha, hq b hlo hlt, hlt, fun i hi => (hcs i hi).mono fun a' c' hk => KidsQ.imp hq hk⟩

theorem KidsAt.q {w : World} : ∀ {d : Nat} {a : Option Addr} {c : Nat} {kids : List Ex}, KidsAt w d a c kids → KidsQ (fun b => b < w.heap.size) w d a c kids
  | 0, _, _, _, h => h
  | d + 1, a, c, kids, h => by
    obtain ⟨h1, h2, h3, h4⟩ := h
    refine ⟨h1, h2, h3, fun hp => ?_⟩
    obtain ⟨b, off, ha, hlt, hcs⟩ := h4 hp
    exact ⟨b, off, ha, hlt, hlt, fun i hi => (hcs i hi).mono fun a' c' hk => hk.q⟩

theorem KidsQ.at {q : Nat → Prop} {w : World} : ∀ {d : Nat} {a : Option Addr} {c : Nat} {kids : List Ex}, KidsQ q w d a c kids → KidsAt w d a c kids
  | 0, _, _, _, h => h
  | d + 1, a, c, kids, h => by
    obtain ⟨h1, h2, h3, h4⟩ := h
    refine ⟨h1, h2, h3, fun hp => ?_⟩
    obtain ⟨b, off, ha, _, hlt, hcs⟩ := h4 hp
    exact ⟨b, off, ha, hlt, fun i hi => (hcs i hi).mono fun a' c' hk => hk.at⟩

theorem KidsQ.spot {q : Nat → Prop} {w : World} {d : Nat} {a : Option Addr} {c : Nat} {kids : List Ex} (h : KidsQ q w (d + 1) a c kids) {i : Nat} (hi : i < kids.length) :
    ∃ b off, a = some ⟨b, off, none⟩ ∧ q b ∧ b < w.heap.size ∧ At1 w b (off + i * 4) kids[i] (fun a' c' => KidsQ q w d a' c' kids[i].kids) := by
  obtain ⟨_, _, _, h4⟩ := h
  obtain ⟨b, off, ha, hq, hlt, hc⟩ := h4 (by omega)
  exact ⟨b, off, ha, hq, hlt, hc i hi⟩

mutual
/-- Every node is right. -/
def Ex.all (chk : Ex → Bool) : Ex → Bool
  | .mk k t n kids => chk (.mk k t n kids) && allL chk kids
def allL (chk : Ex → Bool) : List Ex → Bool
  | [] => true
  | e :: r => e.all chk && allL chk r
end

theorem Ex.all_eq (chk : Ex → Bool) (e : Ex) : e.all chk = (chk e && allL chk e.kids) := by
  cases e; rw [Ex.all]; rfl

theorem allL_drop (chk : Ex → Bool) (l : List Ex) (k : Nat) (h : k < l.length) : allL chk (l.drop k) = (l[k].all chk && allL chk (l.drop (k + 1))) := by
  rw [List.drop_eq_getElem_cons h, allL]

theorem nodesL_drop (l : List Ex) (k : Nat) (h : k < l.length) : nodesL (l.drop k) = l[k].nodes + nodesL (l.drop (k + 1)) := by
  rw [List.drop_eq_getElem_cons h, nodesL]

/-- A list of kids that waits. -/
structure Pd where
  a : Option Addr
  c : Nat
  kids : List Ex

def Pd.v (p : Pd) : Value := .slice p.a p.kids.length p.c
def sumP (ps : List Pd) : Nat := (ps.map fun p => nodesL p.kids).sum
def allP (chk : Ex → Bool) (ps : List Pd) : Bool := ps.all fun p => allL chk p.kids

theorem sumP_snoc (ps : List Pd) (p : Pd) : sumP (ps ++ [p]) = sumP ps + nodesL p.kids := by simp [sumP]
theorem allP_snoc (chk : Ex → Bool) (ps : List Pd) (p : Pd) : allP chk (ps ++ [p]) = (allP chk ps && allL chk p.kids) := by simp [allP]

theorem nodesL_len : (l : List Ex) → l.length ≤ nodesL l
  | [] => by simp [nodesL]
  | e :: r => by rw [nodesL, List.length_cons]; have := nodesL_len r; have := Ex.nodes_eq e; omega

theorem sumP_len (ps : List Pd) (h : ∀ p ∈ ps, 0 < p.kids.length) : ps.length ≤ sumP ps := by
  induction ps with
  | nil => simp
  | cons p r ih =>
    have h1 := h p (List.mem_cons_self ..)
    have h2 := nodesL_len p.kids
    have h3 := ih fun q hq => h q (List.mem_cons_of_mem _ hq)
    simp only [sumP, List.map_cons, List.sum_cons, List.length_cons] at h3 ⊢
    omega

def SeeX (good : Bool) (pc : List PanicEntry) : Ending := if good then .returned (.tuple #[]) else .panicked pc

/-- How a function sees one node: it counts in the cell of block wb, and panics with pv where the node is not right. -/
def Sees (J : World → Prop) (k wb : Nat) (chk : Ex → Bool) (lim : Nat) (pc : List PanicEntry) : Prop := ∀ (e : Ex) (a : Option Addr) (c d m : Nat) (w : World), J w → e.fit → KidsAt w d a c e.kids →
  w.cell? ⟨wb, 0, none⟩ = some (.int .i64 m) → w.frozen? ⟨wb, 0, none⟩ = false → m ≤ 1073741824 →
  Calls Tryd.prog k #[.pointer (some ⟨wb, 0, none⟩), .agg #[.int .i64 e.kind, .string e.text, .int .i64 e.num, .slice a e.kids.length c]] w fun x w' =>
    w.grownBy w' (some wb) ∧ w'.cell? ⟨wb, 0, none⟩ = some (.int .i64 (m + 1 : Nat)) ∧ w'.frozen? ⟨wb, 0, none⟩ = false ∧
    x = SeeX (chk e && decide (m + 1 ≤ lim)) pc

/-- What a walk over all nodes answers. -/
def EachP (w : World) (wb : Nat) (chk : Ex → Bool) (lim : Nat) (pc : List PanicEntry) (e : Ex) (m : Nat) (x : Ending) (w' : World) : Prop :=
  w.grownBy w' (some wb) ∧ x = SeeX (e.all chk && decide (m + e.nodes ≤ lim)) pc ∧ (e.all chk = true → m + e.nodes ≤ lim → w'.cell? ⟨wb, 0, none⟩ = some (.int .i64 (m + e.nodes : Nat)))

theorem Tryd.infoKidsS : (Tryd.prog.info? 24).map (fun i => (i.zero, i.size, i.bytes)) = some (some (.slice none 0 0), 1, 24) := by kernel_rfl

/-- Where the trees lie that the walk reads. -/
def InQ (w : World) (wb b : Nat) : Prop := b = w.heap.size + 1 ∨ (b < w.heap.size ∧ b ≠ wb)

/-- What waits, and what has been counted. -/
structure WInv (w : World) (wb : Nat) (ps : List Pd) (v : Value) (mm : Nat) (wr : World) : Prop where
  row : wr.ownsRow (w.heap.size + 2) 24 1 v ps.length (ps.map Pd.v)
  kids : ∀ p ∈ ps, 0 < p.kids.length ∧ ∃ d, KidsQ (InQ w wb) wr d p.a p.c p.kids
  grown : w.grownBy wr (some wb)
  size : w.heap.size + 2 < wr.heap.size
  lt : wb < w.heap.size
  cell : wr.cell? ⟨wb, 0, none⟩ = some (.int .i64 mm)
  frozen : wr.frozen? ⟨wb, 0, none⟩ = false

theorem cell_grown {w w' : World} {row : Option Nat} (hg : w.grownBy w' row) {b : Nat} (hb : b < w.heap.size) (hne : row ≠ some b) (o : Nat) : w'.cell? ⟨b, o, none⟩ = w.cell? ⟨b, o, none⟩ :=
  hg.cell_far ⟨b, o, none⟩ hb (fun h => hne h.symm)

theorem kids_grown {w wr w2 : World} {wb : Nat} {row : Option Nat} (hsz : w.heap.size + 2 < wr.heap.size) (hg : wr.grownBy w2 row) (hrow : ∀ b, row = some b → b = wb ∨ w.heap.size + 2 ≤ b) (hwb : wb < w.heap.size) {d : Nat} {a : Option Addr} {c : Nat} {kids : List Ex}
    (h : KidsQ (InQ w wb) wr d a c kids) : KidsQ (InQ w wb) w2 d a c kids := by
  refine h.agree hg.size fun b hq hb o => cell_grown hg hb ?_ o
  intro e
  rcases hrow b e with h1 | h1
  · rcases hq with h2 | h2 <;> omega
  · rcases hq with h2 | h2 <;> omega

theorem WInv.next {w wr w2 : World} {wb mm mm' : Nat} {ps : List Pd} {v : Value} {row : Option Nat} (h : WInv w wb ps v mm wr) (hg : wr.grownBy w2 row) (hrow : row = none ∨ row = some wb) (hc : w2.cell? ⟨wb, 0, none⟩ = some (.int .i64 mm')) (hz : w2.frozen? ⟨wb, 0, none⟩ = false) : WInv w wb ps v mm' w2 := by
  have hl := h.lt
  refine ⟨h.row.kept hg ?_, fun p hp => ⟨(h.kids p hp).1, ?_⟩, ?_, Nat.lt_of_lt_of_le h.size hg.size, h.lt, hc, hz⟩
  · cases ho : v.ownBlock with
    | none => exact .inl rfl
    | some g =>
      right
      have := (h.row.lt g ho).1
      rcases hrow with rfl | rfl
      · simp
      · intro e; cases e; omega
  · obtain ⟨d, hk⟩ := (h.kids p hp).2
    exact ⟨d, kids_grown h.size hg (by rintro b rfl; rcases hrow with h1 | h1 <;> cases h1; exact .inl rfl) h.lt hk⟩
  · exact h.grown.andThen hg (by rintro j rfl; rcases hrow with h1 | h1 <;> cases h1; exact .inr rfl)

theorem WInv.alloc {w wr : World} {wb mm : Nat} {ps : List Pd} {v : Value} (h : WInv w wb ps v mm wr) (o : Obj) : WInv w wb ps v mm (wr.alloc o) := by
  have hlt : wb < wr.heap.size := Nat.lt_of_lt_of_le h.lt h.grown.size
  have hb : Below wr.heap.size wr (wr.alloc o) := (Below.refl _ _).alloc (Nat.le_refl _) o
  have hg : wr.grownBy (wr.alloc o) none := ⟨hb.os, hb.tape, hb.output, hb.size, fun k hk _ => hb.block k hk⟩
  exact h.next hg (.inl rfl) ((hg.cell_far ⟨wb, 0, none⟩ hlt (by simp)).trans h.cell) ((hg.frozen_far ⟨wb, 0, none⟩ hlt (by simp)).trans h.frozen)

theorem WInv.push {w wr w2 : World} {wb mm : Nat} {ps : List Pd} {v v' : Value} (h : WInv w wb ps v mm wr) (p : Pd) (hp : 0 < p.kids.length) {d : Nat} (hk : KidsQ (InQ w wb) wr d p.a p.c p.kids)
    (hrow : w2.ownsRow (w.heap.size + 2) 24 1 v' (ps.length + 1) (ps.map Pd.v ++ [p.v])) (hg : wr.grownBy w2 v.ownBlock) : WInv w wb (ps ++ [p]) v' mm w2 := by
  have hl := h.lt
  have hlt : wb < wr.heap.size := Nat.lt_of_lt_of_le h.lt h.grown.size
  have hown : ∀ b, v.ownBlock = some b → w.heap.size + 2 ≤ b := fun b hb => (h.row.lt b hb).1
  have hne : some wb ≠ v.ownBlock := fun e => by have := hown wb e.symm; omega
  refine ⟨by simpa using hrow, fun q hq => ?_, ?_, Nat.lt_of_lt_of_le h.size hg.size, h.lt, (hg.cell_far ⟨wb, 0, none⟩ hlt hne).trans h.cell, (hg.frozen_far ⟨wb, 0, none⟩ hlt hne).trans h.frozen⟩
  · rcases List.mem_append.1 hq with hq | hq
    · obtain ⟨d, hk⟩ := (h.kids q hq).2
      exact ⟨(h.kids q hq).1, d, kids_grown h.size hg (fun b hb => .inr (hown b hb)) h.lt hk⟩
    · rw [List.mem_singleton] at hq
      subst hq
      exact ⟨hp, d, kids_grown h.size hg (fun b hb => .inr (hown b hb)) h.lt hk⟩
  · exact h.grown.andThen hg fun j hj => .inl (by have := hown j hj; omega)

theorem WInv.form {w wr : World} {wb mm : Nat} {ps : List Pd} {v : Value} (h : WInv w wb ps v mm wr) : ∃ a c, v = .slice a ps.length c := by
  rcases h.row.2 with ⟨hv, hn⟩ | ⟨g, cap, cur, hv, _⟩
  · exact ⟨none, 0, by rw [hv, hn]⟩
  · exact ⟨_, _, hv⟩

theorem WInv.pop {w wr : World} {wb mm : Nat} {ps : List Pd} {p : Pd} {v : Value} (h : WInv w wb (ps ++ [p]) v mm wr) :
    ∃ g cap, v = .slice (some ⟨g, 0, none⟩) (ps.length + 1) cap ∧ ps.length + 1 ≤ cap ∧ cap ≤ maxLen ∧ wr.cell? ⟨g, ps.length, none⟩ = some p.v ∧ WInv w wb ps (.slice (some ⟨g, 0, none⟩) ps.length cap) mm wr ∧ 0 < p.kids.length ∧ ∃ d, KidsQ (InQ w wb) wr d p.a p.c p.kids := by
  obtain ⟨hp, hk⟩ := h.kids p (List.mem_append_right _ (List.mem_singleton.2 rfl))
  have hr := h.row
  rcases h.row.2 with ⟨_, hn⟩ | ⟨g, cap, cur, hv, hB, hg, hnc, hcm, hcs, ht⟩
  · simp at hn
  · subst hv
    refine ⟨g, cap, by simp, by simpa using hnc, hcm, ?_, ⟨?_, fun q hq => h.kids q (List.mem_append_left _ hq), h.grown, h.size, h.lt, h.cell, h.frozen⟩, hp, hk⟩
    · rw [hr.cellAt ps.length (by simp)]
      simp
    · refine ⟨by simp, .inr ⟨g, cap, cur, rfl, hB, hg, by simp at hnc; omega, hcm, hcs, ?_⟩⟩
      have := congrArg (List.take (ps.length * 1)) ht
      simpa [List.take_take, Nat.min_eq_left] using this

/-- One list put behind those that wait. -/
theorem wpPush {w wr : World} {wb mm : Nat} {ps : List Pd} {ops : Array Oper} {rest : List Oper} {o : Oper} {A : Act} {Q : Exit → Act → World → Prop} (hgd : o.guard = none) (s x : Operand)
    (ho : o.op = .call { callee := .builtin .append, args := #[s, x], argTypes := #[80, 80] }) (a0 : Option Addr) (c0 : Nat) (p : Pd) (d : Nat) (o1 : Obj)
    (hI : WInv w wb ps (.slice a0 ps.length c0) mm wr) (hp : 0 < p.kids.length) (hk : KidsQ (InQ w wb) wr d p.a p.c p.kids) (hn : ps.length + 1 ≤ 1073741824)
    (hs : A.eval s = .slice a0 ps.length c0) (hx : A.eval x = .slice (some ⟨wr.heap.size, 0, none⟩) 1 1) (ho1 : o1 = .cells #[.slice p.a p.kids.length p.c] 24)
    (h : ∀ a' c' w', Hid (WInv w wb (ps ++ [p]) (.slice a' (ps.length + 1) c') mm w' ∧ wr.grownBy w' (Value.slice a0 ps.length c0).ownBlock) → wpList Tryd.prog ops Q rest (A.put o.dst (.slice a' (ps.length + 1) c')) w') :
    wpList Tryd.prog ops Q (o :: rest) A (wr.alloc o1) := by
  subst ho1
  obtain ⟨i0, hi0, hz0, hz1, hz2⟩ := info_parts Tryd.infoKidsS
  have hI2 := hI.alloc (.cells #[.slice p.a p.kids.length p.c] 24)
  refine wpList_append_own_at _ hgd s x 80 ho (w.heap.size + 2) 24 i0 (.slice none 0 0) 1 24 Tryd.underlying80 hi0 hz0 hz1 hz2 rfl (by decide) (.slice a0 ps.length c0) ps.length (ps.map Pd.v) hs hI2.row
    ⟨wr.heap.size, 0, none⟩ 1 1 [p.v] hx rfl ?_ (fun u hu => by simp at hu; subst hu; rfl) (by unfold maxLen; omega) (by omega) (by have := hI2.size; omega) ?_
  · intro j u hu
    cases j with
    | zero => simp at hu; subst hu; simp [go_sem, Addr.add, Pd.v]
    | succ j => simp at hu
  · intro v' w' hown' hg _ _
    have hb : Below wr.heap.size wr (wr.alloc (.cells #[.slice p.a p.kids.length p.c] 24)) := (Below.refl _ _).alloc (Nat.le_refl _) _
    have hg0 : wr.grownBy (wr.alloc (.cells #[.slice p.a p.kids.length p.c] 24)) none := ⟨hb.os, hb.tape, hb.output, hb.size, fun k hk _ => hb.block k hk⟩
    have hk2 := kids_grown hI.size hg0 (by simp) hI.lt hk
    obtain ⟨a', c', rfl⟩ : ∃ a' c', v' = .slice a' (ps.length + 1) c' := by
      rcases hown'.2 with ⟨_, h0⟩ | ⟨g', cap, cur, rfl, _⟩
      · omega
      · exact ⟨_, _, rfl⟩
    exact h a' c' w' ⟨hI2.push p hp hk2 hown' hg, (hg0.but _).trans hg⟩

def cellN (wr : World) (wb : Nat) : Nat := match wr.cell? ⟨wb, 0, none⟩ with | some v => (intOf v).toNat | none => 0

theorem WInv.cellN {w wr : World} {wb mm : Nat} {ps : List Pd} {v : Value} (h : WInv w wb ps v mm wr) : cellN wr wb = mm := by
  unfold Go.Proofs.YthebkfanpnbanaaDoor.cellN
  rw [h.cell]
  simp [intOf]

theorem WInv.start {w : World} {wb m : Nat} {e : Ex} {a : Option Addr} {c d : Nat} (hfit : e.fit) (hk : KidsQ (fun b => b ≠ wb) w d a c e.kids) (hwb : wb < w.heap.size) (hm : w.cell? ⟨wb, 0, none⟩ = some (.int .i64 m)) (hz : w.frozen? ⟨wb, 0, none⟩ = false) (o : Obj) {W : World}
    (hW : W = ((w.alloc o).alloc (.cells #[.int .i64 e.kind, .string e.text, .int .i64 e.num, .slice a e.kids.length c] 26)).alloc (.cells #[.slice (some ⟨w.heap.size + 1, 0, none⟩) 1 1] 24)) :
    WInv w wb [⟨some ⟨w.heap.size + 1, 0, none⟩, 1, [e]⟩] (.slice (some ⟨w.heap.size + 1 + 1, 0, none⟩) 1 1) m W := by
  have hb : Below w.heap.size w W := by
    subst hW
    exact (((Below.refl _ _).alloc (Nat.le_refl _) _).alloc (by simp) _).alloc (by simp; omega) _
  have hg : w.grownBy W none := ⟨hb.os, hb.tape, hb.output, hb.size, fun k hk _ => hb.block k hk⟩
  have hsz : W.heap.size = w.heap.size + 3 := by subst hW; simp
  refine ⟨?_, fun p hp => ?_, hg.but _, by omega, hwb, (hg.cell_far ⟨wb, 0, none⟩ hwb (by simp)).trans hm, (hg.frozen_far ⟨wb, 0, none⟩ hwb (by simp)).trans hz⟩
  · subst hW
    have := World.ownsRow_lit (base := w.heap.size + 2) (e := 24) (size := 1) ((w.alloc o).alloc (.cells #[.int .i64 e.kind, .string e.text, .int .i64 e.num, .slice a e.kids.length c] 26)) #[.slice (some ⟨w.heap.size + 1, 0, none⟩) 1 1] 1 (by simp) (by unfold maxLen; omega) rfl
    simpa [Pd.v] using this
  · rw [List.mem_singleton] at hp
    subst hp
    refine ⟨by simp, d + 1, by simp, by show 1 ≤ maxLen; unfold maxLen; omega, (fun h => by cases h), fun _ => ⟨w.heap.size + 1, 0, rfl, .inl rfl, by omega, fun i hi => ?_⟩⟩
    have : i = 0 := by simpa using hi
    subst this
    have hk' : KidsQ (InQ w wb) W d a c e.kids := (hk.imp (q' := InQ w wb) fun b h1 h2 => .inr ⟨h2, h1⟩).agree hb.size fun b _ h o => hb.cell (p := ⟨b, o, none⟩) h
    refine ⟨?_, ?_, ?_, hfit, a, c, ?_, hk'⟩ <;> subst hW <;> simp [go_sem]

end Go.Proofs.YthebkfanpnbanaaDoor

namespace Go.Proofs.YthebkfanpnbanaaDoor
open Go.RowKit

/-- The slice (a, length of l, c) reads as the bytes l. -/
def Bytes (w : World) (a : Option Addr) (c : Nat) (l : List UInt8) : Prop :=
  l.length ≤ c ∧ c ≤ maxLen ∧ (a = none → c = 0) ∧
  (0 < l.length → ∃ b off, a = some ⟨b, off, none⟩ ∧ b < w.heap.size ∧ ∀ (i : Nat) (h : i < l.length), w.cell? ⟨b, off + i, none⟩ = some (.int .u8 (l[i].toNat : Int)))

theorem Bytes.below {w w' : World} {a : Option Addr} {c : Nat} {l : List UInt8} (h : Bytes w a c l) (hb : Below w.heap.size w w') : Bytes w' a c l := by
  obtain ⟨h1, h2, h3, h4⟩ := h
  refine ⟨h1, h2, h3, fun hp => ?_⟩
  obtain ⟨b, off, ha, hlt, hc⟩ := h4 hp
  exact ⟨b, off, ha, Nat.lt_of_lt_of_le hlt hb.size, fun i hi => (hb.cell (p := ⟨b, off + i, none⟩) hlt).trans (hc i hi)⟩

theorem Bytes.len {w : World} {a : Option Addr} {c : Nat} {l : List UInt8} (h : Bytes w a c l) : l.length ≤ 9223372036854775807 := by
  have h1 := h.1
  have h2 := h.2.1
  unfold maxLen at h2
  omega

/-- The cursor in block g, over the bytes (a, n, c). -/
def Cur (w : World) (g : Nat) (a : Option Addr) (n c : Nat) : Prop :=
  ∃ i h : Int, 0 ≤ i ∧ i ≤ n ∧ w.heap[g]? = some (.cells #[.slice a n c, .int .i64 i, .int .i64 h] 64 (0, 0))

/-- A cursor on the way: the bytes came in with the world w0. -/
structure Deck (w0 : World) (a : Option Addr) (c : Nat) (l : List UInt8) (g : Nat) (w : World) : Prop where
  bytes : Bytes w0 a c l
  short : l.length ≤ 1048576
  below : Below w0.heap.size w0 w
  new : w0.heap.size ≤ g
  cur : Cur w g a l.length c

theorem Deck.lt {w0 : World} {a : Option Addr} {c : Nat} {l : List UInt8} {g : Nat} {w : World} (h : Deck w0 a c l g w) : g < w.heap.size := by
  obtain ⟨i, hh, _, _, hg⟩ := h.cur
  rcases Nat.lt_or_ge g w.heap.size with hlt | hge
  · exact hlt
  · rw [Array.getElem?_eq_none hge] at hg; cases hg

/-- The cursor stays while other blocks turn. -/
theorem Deck.kept {w0 : World} {a : Option Addr} {c : Nat} {l : List UInt8} {g : Nat} {w w' : World} (h : Deck w0 a c l g w) {row : Option Nat} (hg : w.grownBy w' row) (hr : ∀ k, row = some k → w0.heap.size ≤ k ∧ k ≠ g) : Deck w0 a c l g w' := by
  refine ⟨h.bytes, h.short, h.below.grown hg h.below.size (fun k hk => (hr k hk).1), h.new, ?_⟩
  obtain ⟨i, hh, h1, h2, h3⟩ := h.cur
  exact ⟨i, hh, h1, h2, (hg.block g h.lt (fun e => (hr g e.symm).2 rfl)).trans h3⟩

theorem Deck.belowed {w0 : World} {a : Option Addr} {c : Nat} {l : List UInt8} {g : Nat} {w w' : World} (h : Deck w0 a c l g w) (hb : Below w.heap.size w w') : Deck w0 a c l g w' :=
  h.kept (row := none) ⟨hb.os, hb.tape, hb.output, hb.size, fun k hk _ => hb.block k hk⟩ (fun k hk => by cases hk)

/-- What a call that draws leaves. -/
def Drawn (w0 : World) (a : Option Addr) (c : Nat) (l : List UInt8) (g : Nat) (w : World) (P : Value → Prop) (e : Ending) (w' : World) : Prop :=
  ∃ v, P v ∧ e = .returned v ∧ Deck w0 a c l g w' ∧ w.grownBy w' (some g)

def IntIn (lo hi : Int) (v : Value) : Prop := ∃ x : Int, v = .int .i64 x ∧ lo ≤ x ∧ x ≤ hi

theorem i64_low8 (n : Int) : bits .and .i64 n 255 = n % 256 := by
  have hm : (BitVec.ofInt 64 255).toNat = 2 ^ 8 - 1 := by decide
  have key : (BitVec.ofInt 64 n &&& BitVec.ofInt 64 255).toNat = (n % ((2 ^ 64 : Nat) : Int)).toNat % 2 ^ 8 := by
    rw [BitVec.toNat_and, BitVec.toNat_ofInt, hm, Nat.and_two_pow_sub_one_eq_mod]
  show IntKind.i64.wrap ((BitVec.ofInt 64 n &&& BitVec.ofInt 64 255).toNat : Nat) = n % 256
  rw [key, IntKind.wrap_i64]
  omega

theorem i64_low30 (n : Int) : bits .and .i64 n 1073741823 = n % 1073741824 := by
  have hm : (BitVec.ofInt 64 1073741823).toNat = 2 ^ 30 - 1 := by decide
  have key : (BitVec.ofInt 64 n &&& BitVec.ofInt 64 1073741823).toNat = (n % ((2 ^ 64 : Nat) : Int)).toNat % 2 ^ 30 := by
    rw [BitVec.toNat_and, BitVec.toNat_ofInt, hm, Nat.and_two_pow_sub_one_eq_mod]
  show IntKind.i64.wrap ((BitVec.ofInt 64 n &&& BitVec.ofInt 64 1073741823).toNat : Nat) = n % 1073741824
  rw [key, IntKind.wrap_i64]
  omega

/-- Behind two stores into the cursor. -/
theorem Deck.turned {w0 : World} {a : Option Addr} {c : Nat} {l : List UInt8} {g : Nat} {w : World} (hd : Deck w0 a c l g w) {i h : Int} (hg : w.heap[g]? = some (.cells #[.slice a l.length c, .int .i64 i, .int .i64 h] 64 (0, 0)))
    {w' : World} (hw : w.grownBy w' (some g)) {i' h' : Int} (h0 : 0 ≤ i') (h1 : i' ≤ l.length) (hg' : w'.heap[g]? = some (.cells #[.slice a l.length c, .int .i64 i', .int .i64 h'] 64 (0, 0))) : Deck w0 a c l g w' :=
  ⟨hd.bytes, hd.short, hd.below.grown hw hd.below.size (fun k hk => by cases hk; exact hd.new), hd.new, ⟨i', h', h0, h1, hg'⟩⟩

theorem grown_set (w : World) (g j : Nat) (v : Value) : w.grownBy (w.setCell ⟨g, j, none⟩ v) (some g) :=
  ⟨rfl, rfl, rfl, by simp [World.setCell], fun k _ hne => Below.heap_setCell _ _ _ _ (fun e => hne (by rw [e]))⟩

theorem grown_trans {a b c : World} {row : Option Nat} (h : a.grownBy b row) (k : b.grownBy c row) : a.grownBy c row :=
  ⟨k.os.trans h.os, k.tape.trans h.tape, k.output.trans h.output, Nat.le_trans h.size k.size, fun i hi hne => (k.block i (Nat.lt_of_lt_of_le hi h.size) hne).trans (h.block i hi hne)⟩

theorem grown_drewN {a b : World} {row : Option Nat} (h : a.grownBy b row) (n : Nat) : a.grownBy (b.drewN n) row := ⟨h.os, h.tape, h.output, h.size, h.block⟩

set_option maxHeartbeats 1000000 in
theorem l01Byte {w0 : World} {a : Option Addr} {c : Nat} {l : List UInt8} {g : Nat} {w : World} (hd : Deck w0 a c l g w) :
    Calls Tryd.prog 26 #[.pointer (some ⟨g, 0, none⟩)] w (Drawn w0 a c l g w (IntIn 0 255)) := by
  obtain ⟨i, h, hi0, hi1, hg⟩ := hd.cur
  have c0 : w.cell? ⟨g, 0, none⟩ = some (.slice a l.length c) := by rw [cell_of_row _ _ _ _ _ _ hg]; rfl
  have c1 : w.cell? ⟨g, 1, none⟩ = some (.int .i64 i) := by rw [cell_of_row _ _ _ _ _ _ hg]; rfl
  have c2 : w.cell? ⟨g, 2, none⟩ = some (.int .i64 h) := by rw [cell_of_row _ _ _ _ _ _ hg]; rfl
  have f0 : ∀ j, w.frozen? ⟨g, j, none⟩ = false := fun j => frozen_of_row _ _ _ _ _ hg
  have f1 := f0 1
  have f2 := f0 2
  have hs := hd.short
  have hset : ∀ v, (w.setCell ⟨g, 2, none⟩ v).heap[g]? = some (.cells #[.slice a l.length c, .int .i64 i, v] 64 (0, 0)) := fun v => by
    rw [heap_setCell_same w g 2 _ _ _ hg]; rfl
  have HS := Lib.hid hset
  by_cases hlt : i < l.length
  · obtain ⟨k, rfl⟩ := Int.eq_ofNat_of_zero_le hi0
    have hk : k < l.length := by omega
    obtain ⟨b, off, rfl, hbl, hcs⟩ := hd.bytes.2.2.2 (by omega)
    have hbg : ¬ b = g := by have := hd.new; omega
    have hcb : w.cell? ⟨b, off + k, none⟩ = some (.int .u8 (l[k].toNat : Int)) := (hd.below.cell (p := ⟨b, off + k, none⟩) hbl).trans (hcs k hk)
    have HD := Lib.hid hd
    have HG := Lib.hid hg
    clear f0 hd hg hcs hset
    have hby : (l[k].toNat : Int) ≤ 255 := by have := UInt8.toNat_lt l[k]; omega
    go_enter Tryd.func26, Tryd.ntmps26
    go_wp2
    generalize wrap64 (wrap64 (h * 6364136223846793005) + 1442695040888963407) = h1
    go_quiet (fail)
    go_wp2
    generalize hx0 : bits BinOp.and IntKind.i64 (bits BinOp.xor IntKind.i64 (h1 / 8589934592) (h1 / 35184372088832)) 255 = x0
    have hb0 : 0 ≤ x0 ∧ x0 ≤ 255 := by rw [← hx0, i64_low8]; omega
    obtain ⟨hb1, hb2⟩ := hb0
    clear hx0
    go_quiet (fail)
    go_wp2
    go_quiet (fail)
    go_wp2
    go_ret
    have hW : ∀ m, w.grownBy (((w.setCell ⟨g, 2, none⟩ (.int .i64 h1)).drewN m).setCell ⟨g, 1, none⟩ (.int .i64 ((k : Int) + 1))) (some g) := fun m => grown_trans (grown_drewN (grown_set _ _ _ _) m) (grown_set _ _ _ _)
    have hH : ∀ m, (((w.setCell ⟨g, 2, none⟩ (.int .i64 h1)).drewN m).setCell ⟨g, 1, none⟩ (.int .i64 ((k : Int) + 1))).heap[g]? = some (.cells #[.slice (some ⟨b, off, none⟩) l.length c, .int .i64 ((k : Int) + 1), .int .i64 h1] 64 (0, 0)) := by
      intro m; rw [heap_setCell_same _ g 1 _ _ _ (show ((w.setCell ⟨g, 2, none⟩ (.int .i64 h1)).drewN m).heap[g]? = _ from HS.out _)]; rfl
    refine ⟨_, ⟨_, rfl, by rw [i64_low8]; omega, by rw [i64_low8]; omega⟩, rfl, ?_, ?_⟩
    · exact Deck.turned HD.out HG.out (hW _) (by omega) (by omega) (hH _)
    · exact hW _
  · have HD := Lib.hid hd
    have HG := Lib.hid hg
    clear f0 hd hg hset
    go_enter Tryd.func26, Tryd.ntmps26
    go_wp2
    generalize wrap64 (wrap64 (h * 6364136223846793005) + 1442695040888963407) = h1
    go_quiet (fail)
    go_wp2
    generalize hx0 : bits BinOp.and IntKind.i64 (bits BinOp.xor IntKind.i64 (h1 / 8589934592) (h1 / 35184372088832)) 255 = x0
    have hb0 : 0 ≤ x0 ∧ x0 ≤ 255 := by rw [← hx0, i64_low8]; omega
    clear hx0
    go_quiet (fail)
    go_wp2
    go_ret
    have hW : w.grownBy (w.setCell ⟨g, 2, none⟩ (.int .i64 h1)) (some g) := grown_set _ _ _ _
    refine ⟨_, ⟨_, rfl, hb0.1, hb0.2⟩, rfl, ?_, ?_⟩
    · exact Deck.turned HD.out HG.out (grown_drewN (grown_drewN hW _) _) hi0 hi1 (HS.out _)
    · exact grown_drewN (grown_drewN hW _) _

set_option maxRecDepth 100000 in
set_option maxHeartbeats 1000000 in
theorem l01New (a : Option Addr) (c : Nat) (l : List UInt8) (w : World) (hb : Bytes w a c l) (hs : l.length ≤ 1048576) :
    Calls Tryd.prog 9 #[.slice a l.length c] w fun e w' => e = .returned (.pointer (some ⟨w.heap.size, 0, none⟩)) ∧ Deck w a c l w.heap.size w' ∧ Below w.heap.size w w' ∧ w'.heap.size = w.heap.size + 1 := by
  have hl := hb.len
  go_enter Tryd.func9, Tryd.ntmps9
  go_wp2
  go_loop [3, 4] (fun q i => ∃ (k : Nat) (h : Int), k ≤ l.length ∧ i = .int .i64 k ∧ q = .int .i64 h ∧ 0 ≤ h ∧ h ≤ 1073741823) (fun _ i => l.length - (intOf i).toNat)
  case atStart => exact ⟨0, _, Nat.zero_le _, rfl, rfl, by omega, by omega⟩
  case round =>
    obtain ⟨k, h, hk, rfl, rfl, h0, h1⟩ := hrel
    by_cases hlt : k < l.length
    · obtain ⟨b, off, rfl, hbl, hcs⟩ := hb.2.2.2 (by omega)
      have hcb := hcs k hlt
      have hby : (l[k].toNat : Int) ≤ 255 := by have := UInt8.toNat_lt l[k]; omega
      clear hcs
      by_cases h4 : k < 4000
      · go_wp2
        go_round
        case rel => exact ⟨k + 1, _, by omega, by go_num, rfl, by rw [i64_low30]; omega, by rw [i64_low30]; omega⟩
        case measure => simp [intOf]; omega
      · go_wp2
        go_ret
        refine ⟨rfl, ⟨hb, hs, (Below.refl _ _).alloc (Nat.le_refl _) _, Nat.le_refl _, 0, h, by omega, by omega, heap_alloc_new _ _⟩, (Below.refl _ _).alloc (Nat.le_refl _) _, by simp⟩
    · go_wp2
      go_ret
      refine ⟨rfl, ⟨hb, hs, (Below.refl _ _).alloc (Nat.le_refl _) _, Nat.le_refl _, 0, h, by omega, by omega, heap_alloc_new _ _⟩, (Below.refl _ _).alloc (Nat.le_refl _) _, by simp⟩

theorem lawsBig (a : Option Addr) (c n : Nat) (w : World) : Calls Tryd.prog 4 #[.slice a n c] w fun e w' => e = .returned (.bool (decide (1048576 < n))) ∧ w = w' := by
  go_enter Tryd.func4, Tryd.ntmps4
  go_wp2
  go_ret
  exact ⟨by simp; omega, rfl⟩

set_option maxHeartbeats 1000000 in
theorem l01Below {w0 : World} {a : Option Addr} {c : Nat} {l : List UInt8} {g : Nat} {w : World} (hd : Deck w0 a c l g w) (n : Int) (hn0 : 1 ≤ n) (hn1 : n ≤ 4294967296) :
    Calls Tryd.prog 11 #[.pointer (some ⟨g, 0, none⟩), .int .i64 n] w (Drawn w0 a c l g w (IntIn 0 (n - 1))) := by
  have hne : ¬ n = 0 := by omega
  by_cases h : n ≤ 256
  · go_enter Tryd.func11, Tryd.ntmps11
    go_wp2_with (go_at_call 26; refine (l01Byte hd).mono ?_; rintro e w1 ⟨v, ⟨x, rfl, hx0, hx1⟩, rfl, hd1, hg1⟩)
    go_ret
    exact ⟨_, ⟨_, rfl, Int.emod_nonneg _ hne, by have := Int.emod_lt_of_pos x (show 0 < n by omega); omega⟩, rfl, hd1, hg1⟩
  · go_enter Tryd.func11, Tryd.ntmps11
    go_wp2_with fail
    refine (l01Byte hd).mono ?_
    rintro e w1 ⟨v, ⟨x, rfl, hx0, hx1⟩, rfl, hd1, hg1⟩
    go_wp2_with fail
    refine (l01Byte hd1).mono ?_
    rintro e w2 ⟨v, ⟨y, rfl, hy0, hy1⟩, rfl, hd2, hg2⟩
    go_wp2_with fail
    refine (l01Byte hd2).mono ?_
    rintro e w3 ⟨v, ⟨z, rfl, hz0, hz1⟩, rfl, hd3, hg3⟩
    go_wp2_with fail
    refine (l01Byte hd3).mono ?_
    rintro e w4 ⟨v, ⟨u, rfl, hu0, hu1⟩, rfl, hd4, hg4⟩
    go_wp2_with fail
    go_ret
    refine ⟨_, ⟨_, rfl, Int.emod_nonneg _ hne, ?_⟩, rfl, hd4, grown_trans (grown_trans (grown_trans hg1 hg2) hg3) hg4⟩
    have := Int.emod_lt_of_pos (x * 16777216 + y * 65536 + z * 256 + u) (show 0 < n by omega)
    omega

end Go.Proofs.YthebkfanpnbanaaDoor

namespace Go.Proofs.YthebkfanpnbanaaDoor
open Go.RowKit

def TextIn (xs : List ByteArray) (v : Value) : Prop := ∃ s, v = .string s ∧ s ∈ xs

theorem Strs.grown {w w' : World} {a : Option Addr} {c : Nat} {xs : List ByteArray} (h : Strs w a c xs) {g : Nat} (hg : w.grownBy w' (some g)) (hne : ∀ b off, a = some ⟨b, off, none⟩ → b ≠ g) : Strs w' a c xs := by
  obtain ⟨h1, h2, h3, h3', h4⟩ := h
  refine ⟨h1, h2, h3, h3', fun hp => ?_⟩
  obtain ⟨b, off, ha, hlt, hc⟩ := h4 hp
  refine ⟨b, off, ha, Nat.lt_of_lt_of_le hlt hg.size, fun i hi => ?_⟩
  rw [World.cell?_of_block (w := w) (w' := w') (a := ⟨b, off + i, none⟩) (hg.block b hlt (fun e => hne b off ha (by cases e; rfl)))]
  exact hc i hi

set_option maxHeartbeats 1000000 in
theorem l01Pick {w0 : World} {a : Option Addr} {c : Nat} {l : List UInt8} {g : Nat} {w : World} (hd : Deck w0 a c l g w) (b : Nat) (cx : Nat) (xs : List ByteArray) (hx : Strs w (some ⟨b, 0, none⟩) cx xs) (hb : b ≠ g) (h0 : 1 ≤ xs.length) (h1 : xs.length ≤ 1000000) :
    Calls Tryd.prog 14 #[.pointer (some ⟨g, 0, none⟩), .slice (some ⟨b, 0, none⟩) xs.length cx] w (Drawn w0 a c l g w (TextIn xs)) := by
  go_enter Tryd.func14, Tryd.ntmps14
  go_wp2_with fail
  refine (l01Below hd (xs.length : Int) (by omega) (by omega)).mono ?_
  rintro e w1 ⟨v, ⟨x, rfl, hx0, hx1⟩, rfl, hd1, hg1⟩
  obtain ⟨k, rfl⟩ := Int.eq_ofNat_of_zero_le hx0
  have hk : k < xs.length := by omega
  have hs1 := hx.grown hg1 (fun b' off' e => by cases e; exact hb)
  have hc2 : w1.cell? ⟨b, k, none⟩ = some (.string xs[k]) := by
    obtain ⟨b', off', e, _, h⟩ := hs1.spot hk
    cases e
    simpa using h
  go_wp2_with fail
  go_ret
  exact ⟨_, ⟨_, rfl, List.getElem_mem hk⟩, rfl, hd1, hg1⟩

/-- A new row of texts that is laid in one go. -/
theorem strsLit (w : World) (xs : List ByteArray) (hs : ∀ s ∈ xs, s.size ≤ maxLen) (hn : xs.length ≤ 1000000) :
    Strs (w.alloc (.cells (xs.map Value.string).toArray 9)) (some ⟨w.heap.size, 0, none⟩) xs.length xs := by
  refine ⟨Nat.le_refl _, by unfold maxLen; omega, hs, (fun h => by cases h), fun _ => ⟨w.heap.size, 0, rfl, by simp, fun i hi => ?_⟩⟩
  rw [cell_of_row _ _ _ _ _ _ (heap_alloc_new w _)]
  simp [hi]

theorem Deck.alloc {w0 : World} {a : Option Addr} {c : Nat} {l : List UInt8} {g : Nat} {w : World} (h : Deck w0 a c l g w) (o : Obj) : Deck w0 a c l g (w.alloc o) :=
  h.belowed ((Below.refl _ _).alloc (Nat.le_refl _) _)

/-- The call draws out of a list that it lays. -/
theorem pickLit {w0 : World} {a : Option Addr} {c : Nat} {l : List UInt8} {g : Nat} {w : World} (hd : Deck w0 a c l g w) (xs : List ByteArray) (n : Nat) (hl : n = xs.length) (hs : ∀ s ∈ xs, s.size ≤ maxLen) (h0 : 1 ≤ xs.length) (h1 : xs.length ≤ 1000000) (cs : Array Value) (hcs : cs = (xs.map Value.string).toArray) :
    Calls Tryd.prog 14 #[.pointer (some ⟨g, 0, none⟩), .slice (some ⟨w.heap.size, 0, none⟩) n n] (w.alloc (.cells cs 9)) (Drawn w0 a c l g (w.alloc (.cells cs 9)) (TextIn xs)) := by
  subst hl hcs
  exact l01Pick (hd.alloc _) w.heap.size xs.length xs (strsLit w xs hs h1) (by have := hd.lt; omega) h0 h1

theorem Own.draw {w w' : World} {lo g : Nat} {a : Option Addr} {c : Nat} {xs : List ByteArray} (h : Own w lo a c xs) (hg : w.grownBy w' (some g)) (hlt : g < lo) : Own w' lo a c xs :=
  h.kept hg (fun k hk e => by cases e; have := (h.lt hk).1; omega)

/-- A row of the call's own grows while the cursor stands. -/
theorem grown_any {a b c : World} {g : Nat} {row : Option Nat} (h : a.grownBy b (some g)) (k : b.grownBy c row) (hr : ∀ j, row = some j → a.heap.size ≤ j) : a.grownBy c (some g) :=
  ⟨k.os.trans h.os, k.tape.trans h.tape, k.output.trans h.output, Nat.le_trans h.size k.size, fun i hi hne => (k.block i (Nat.lt_of_lt_of_le hi h.size) (fun e => by have := hr i e.symm; omega)).trans (h.block i hi hne)⟩

theorem grown_below {a b c : World} {g : Nat} (h : a.grownBy b (some g)) (k : Below b.heap.size b c) : a.grownBy c (some g) :=
  grown_any h (row := none) ⟨k.os, k.tape, k.output, k.size, fun i hi _ => k.block i hi⟩ (fun j e => by cases e)

theorem grown_alloc {a b : World} {g : Nat} (h : a.grownBy b (some g)) (o : Obj) : a.grownBy (b.alloc o) (some g) := grown_below h ((Below.refl _ _).alloc (Nat.le_refl _) _)

end Go.Proofs.YthebkfanpnbanaaDoor

namespace Go.Proofs.YthebkfanpnbanaaDoor
open Go.RowKit

def bcells (l : List UInt8) : List Value := l.map fun b => Value.int .u8 b.toNat

def OwnB (w : World) (B : Nat) (a : Option Addr) (c : Nat) (l : List UInt8) : Prop :=
  w.ownsRow B 5 1 (.slice a l.length c) l.length (bcells l)

theorem Tryd.infoByte : (Tryd.prog.info? 5).map (fun i => (i.zero, i.size, i.bytes)) = some (some (.int .u8 0), 1, 1) := by kernel_rfl

theorem OwnB.lt {w : World} {B : Nat} {a : Option Addr} {c : Nat} {l : List UInt8} (h : OwnB w B a c l) {g : Nat} (hg : (Value.slice a l.length c).ownBlock = some g) : B ≤ g ∧ g < w.heap.size :=
  World.ownsRow.lt h g hg

theorem OwnB.below {w w' : World} {B : Nat} {a : Option Addr} {c : Nat} {l : List UInt8} (h : OwnB w B a c l) (hb : Below w.heap.size w w') : OwnB w' B a c l := by
  unfold OwnB at h ⊢
  refine ⟨h.1, ?_⟩
  rcases h.2 with h2 | ⟨g, cap, cur, hv, hB, hg, r⟩
  · exact .inl h2
  · refine .inr ⟨g, cap, cur, hv, hB, ?_, r⟩
    have : g < w.heap.size := by
      rcases Nat.lt_or_ge g w.heap.size with hlt | hge
      · exact hlt
      · rw [Array.getElem?_eq_none hge] at hg; cases hg
    rw [hb.block g this, hg]

theorem ownBEmpty (w : World) : OwnB (w.alloc (.cells #[] 5)) w.heap.size (some ⟨w.heap.size, 0, none⟩) 0 [] :=
  World.ownsRow_lit (base := w.heap.size) (e := 5) (size := 1) w #[] 0 (Nat.le_refl _) (by unfold maxLen; omega) rfl

theorem strCells_eq (s : ByteArray) : Lib.strCells s = bcells s.data.toList := rfl

/-- append of a text's bytes to a row of the call's own. -/
theorem wpAppendText {w : World} {ops : Array Oper} {rest : List Oper} {o : Oper} {A : Act} {Q : Exit → Act → World → Prop} (hgd : o.guard = none) (sl x : Operand)
    (ho : o.op = .call { callee := .builtin .append, args := #[sl, x], argTypes := #[22, 9] })
    (i0 : TypeInfo) (hi0 : Tryd.prog.info? 5 = some i0) (hz0 : i0.zero = some (.int .u8 0)) (hz1 : i0.size = 1) (hz2 : i0.bytes = 1)
    (B : Nat) (a : Option Addr) (c : Nat) (l : List UInt8) (s : ByteArray) (hs : A.eval sl = .slice a l.length c) (hown : OwnB w B a c l) (hx : A.eval x = .string s)
    (hn : l.length + s.size ≤ 140737488355328) (hB : B ≤ w.heap.size)
    (h : ∀ a' c' w', OwnB w' B a' c' (l ++ s.data.toList) → w.grownBy w' (Value.slice a l.length c).ownBlock → wpList Tryd.prog ops Q rest (A.put o.dst (.slice a' (l ++ s.data.toList).length c')) w') :
    wpList Tryd.prog ops Q (o :: rest) A w := by
  refine Lib.wpList_append_own_string _ hgd sl x 22 9 ho B 5 i0 Tryd.underlying22 Tryd.underlying9 hi0 hz0 hz1 hz2 (.slice a l.length c) l.length (bcells l) hs hown s hx (by unfold maxLen; omega) hn hB ?_
  intro v' w' hown' hg _
  have hl : s.size = s.data.toList.length := by simp
  have hf : ∃ a' c', v' = .slice a' (l.length + s.size) c' := by
    rcases hown'.2 with ⟨rfl, h0⟩ | ⟨g, cap, cur, rfl, _⟩
    · exact ⟨none, 0, by rw [h0]⟩
    · exact ⟨_, _, rfl⟩
  obtain ⟨a', c', rfl⟩ := hf
  have hb : bcells l ++ Lib.strCells s = bcells (l ++ s.data.toList) := by rw [strCells_eq]; simp [bcells]
  rw [hb] at hown'
  have := h a' c' w' (by unfold OwnB; rw [List.length_append, ← hl]; exact hown') hg
  rw [List.length_append, ← hl] at this
  exact this

theorem foldl_push (l : List UInt8) (r : ByteArray) : (l.map fun b => (b.toNat : Int)).foldl (fun r n => r.push (UInt8.ofNat n.toNat)) r = ⟨(r.data.toList ++ l).toArray⟩ := by
  induction l generalizing r with
  | nil => simp
  | cons b l ih =>
    rw [List.map_cons, List.foldl_cons, ih]
    simp [ByteArray.push]

theorem convBytes {W : World} {B : Nat} {a : Option Addr} {c : Nat} {l : List UInt8} (h : OwnB W B a c l) :
    (convert 22 9 (.slice a l.length c)).run Tryd.prog W = .ok (.string ⟨l.toArray⟩) W := by
  rw [run_convert_bytes_string W _ _ _ _ _ _ Tryd.underlying22 Tryd.underlying5 Tryd.underlying9]
  unfold OwnB at h
  rcases h.2 with ⟨hv, hn⟩ | ⟨g, cap, cur, hv, hb, hg, hnc, hcm, hcs, ht⟩
  · simp only [Value.slice.injEq] at hv
    obtain ⟨rfl, _, rfl⟩ := hv
    have : l = [] := List.eq_nil_of_length_eq_zero hn
    subst this
    simp [Conv.bytesToString]
    rfl
  · simp only [Value.slice.injEq] at hv
    obtain ⟨rfl, _, rfl⟩ := hv
    rw [run_bytesToString W ⟨g, 0, none⟩ l.length c (l.map fun b => (b.toNat : Int))]
    · rw [foldl_push]; rfl
    · have hl : l.length = (bcells l).length := by simp [bcells]
      rw [hl, run_loadCells_list (P := Tryd.prog) W ⟨g, 0, none⟩ (bcells l) (h.cells rfl)]
      simp [bcells]

end Go.Proofs.YthebkfanpnbanaaDoor
