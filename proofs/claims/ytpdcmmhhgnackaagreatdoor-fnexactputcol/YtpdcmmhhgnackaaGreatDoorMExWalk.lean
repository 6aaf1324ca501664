/- impl.eachNode: a walk over all nodes of an expression, for any function that sees them. -/
/- impl.eachNode with (*impl.nodeWalk).check. -/
/- impl.eachNode with (*impl.nodeWalk).count. -/
/- impl.Nodes counts the nodes. -/
/- impl.ExprOk: the walk over the nodes leaves by a panic where one is not right. -/
/- impl.listFits over expressions. Written by tools/gen_every.py. -/
import Derived.Test.YtpdcmmhhgnackaaGreatDoorMMem
import Derived.Test.YtpdcmmhhgnackaaGreatDoorMExNodes
import Derived.Deep.RegionHeld3
import Derived.Deep.Light
import Derived.Deep.Upon
import Derived.Test.YtpdcmmhhgnackaaGreatDoorMOkI
import Derived.Defers
import Derived.Recover
namespace Go.Proofs.YtpdcmmhhgnackaaGreatDoor
open Go.RowKit

/-- As KidsAt, and every block of the tree is one of q. -/
def KidsQ (q : Nat → Prop) (w : World) : Nat → Option Addr → Nat → List Ex → Prop
  | 0, _, _, _ => False
  | d + 1, a, c, kids => kids.length ≤ c ∧ c ≤ maxLen ∧ (a = none → c = 0) ∧
    (0 < kids.length → ∃ b off, a = some ⟨b, off, none⟩ ∧ q b ∧ b < w.heap.size ∧ ∀ (i : Nat) (h : i < kids.length), At1 w b (off + i * 4) kids[i] (fun a' c' => KidsQ q w d a' c' kids[i].kids))

theorem KidsQ.agree {q : Nat → Prop} {w w' : World} (hs : w.heap.size ≤ w'.heap.size) (hc : ∀ b, q b → b < w.heap.size → ∀ o, w'.cell? ⟨b, o, none⟩ = w.cell? ⟨b, o, none⟩) :
    ∀ {d : Nat} {a : Option Addr} {c : Nat} {kids : List Ex}, KidsQ q w d a c kids → KidsQ q w' d a c kids
  | 0, _, _, _, h => h
  | d + 1, a, c, kids, h => by
    obtain ⟨h1, h2, h3, h4⟩ := h
    refine ⟨h1, h2, h3, fun hp => ?_⟩
    obtain ⟨b, off, ha, hlo, hlt, hcs⟩ := h4 hp
    refine ⟨b, off, ha, hlo, Nat.lt_of_lt_of_le hlt hs, fun i hi => ?_⟩
    obtain ⟨c1, c2, c3, hf, a', c', c4, hk⟩ := hcs i hi
    have e := hc b hlo hlt
    exact ⟨(e _).trans c1, (e _).trans c2, (e _).trans c3, hf, a', c', (e _).trans c4, KidsQ.agree hs hc hk⟩

theorem KidsQ.imp {q q' : Nat → Prop} {w : World} (hq : ∀ b, q b → b < w.heap.size → q' b) : ∀ {d : Nat} {a : Option Addr} {c : Nat} {kids : List Ex}, KidsQ q w d a c kids → KidsQ q' w d a c kids
  | 0, _, _, _, h => h
  | d + 1, a, c, kids, h => by
    obtain ⟨h1, h2, h3, h4⟩ := h
    refine ⟨h1, h2, h3, fun hp => ?_⟩
    obtain ⟨b, off, ha, hlo, hlt, hcs⟩ := h4 hp
    exact ⟨b, off, ha, hq b hlo hlt, hlt, fun i hi => (hcs i hi).mono fun a' c' hk => KidsQ.imp hq hk⟩

theorem KidsAt.q {w : World} : ∀ {d : Nat} {a : Option Addr} {c : Nat} {kids : List Ex}, KidsAt w d a c kids → KidsQ (fun b => b < w.heap.size) w d a c kids
  | 0, _, _, _, h => h
  | d + 1, a, c, kids, h => by
    obtain ⟨h1, h2, h3, h4⟩ := h
    refine ⟨h1, h2, h3, fun hp => ?_⟩
    obtain ⟨b, off, ha, hlt, hcs⟩ := h4 hp
    exact ⟨b, off, ha, hlt, hlt, fun i hi => (hcs i hi).mono fun a' c' hk => hk.q⟩

theorem KidsQ.at {q : Nat → Prop} {w : World} : ∀ {d : Nat} {a : Option Addr} {c : Nat} {kids : List Ex}, KidsQ q w d a c kids → KidsAt w d a c kids
  | 0, _, _, _, h => h
  | d + 1, a, c, kids, h => by
    obtain ⟨h1, h2, h3, h4⟩ := h
    refine ⟨h1, h2, h3, fun hp => ?_⟩
    obtain ⟨b, off, ha, _, hlt, hcs⟩ := h4 hp
    exact ⟨b, off, ha, hlt, fun i hi => (hcs i hi).mono fun a' c' hk => hk.at⟩

theorem KidsQ.spot {q : Nat → Prop} {w : World} {d : Nat} {a : Option Addr} {c : Nat} {kids : List Ex} (h : KidsQ q w (d + 1) a c kids) {i : Nat} (hi : i < kids.length) :
    ∃ b off, a = some ⟨b, off, none⟩ ∧ q b ∧ b < w.heap.size ∧ At1 w b (off + i * 4) kids[i] (fun a' c' => KidsQ q w d a' c' kids[i].kids) := by
  obtain ⟨_, _, _, h4⟩ := h
  obtain ⟨b, off, ha, hq, hlt, hc⟩ := h4 (by omega)
  exact ⟨b, off, ha, hq, hlt, hc i hi⟩

mutual
/-- Every node is right. -/
def Ex.all (chk : Ex → Bool) : Ex → Bool
  | .mk k t n kids => chk (.mk k t n kids) && allL chk kids
def allL (chk : Ex → Bool) : List Ex → Bool
  | [] => true
  | e :: r => e.all chk && allL chk r
end

theorem Ex.all_eq (chk : Ex → Bool) (e : Ex) : e.all chk = (chk e && allL chk e.kids) := by
  cases e; rw [Ex.all]; rfl

theorem allL_drop (chk : Ex → Bool) (l : List Ex) (k : Nat) (h : k < l.length) : allL chk (l.drop k) = (l[k].all chk && allL chk (l.drop (k + 1))) := by
  rw [List.drop_eq_getElem_cons h, allL]

theorem nodesL_drop (l : List Ex) (k : Nat) (h : k < l.length) : nodesL (l.drop k) = l[k].nodes + nodesL (l.drop (k + 1)) := by
  rw [List.drop_eq_getElem_cons h, nodesL]

/-- A list of kids that waits. -/
structure Pd where
  a : Option Addr
  c : Nat
  kids : List Ex

def Pd.v (p : Pd) : Value := .slice p.a p.kids.length p.c
def sumP (ps : List Pd) : Nat := (ps.map fun p => nodesL p.kids).sum
def allP (chk : Ex → Bool) (ps : List Pd) : Bool := ps.all fun p => allL chk p.kids

theorem sumP_snoc (ps : List Pd) (p : Pd) : sumP (ps ++ [p]) = sumP ps + nodesL p.kids := by simp [sumP]
theorem allP_snoc (chk : Ex → Bool) (ps : List Pd) (p : Pd) : allP chk (ps ++ [p]) = (allP chk ps && allL chk p.kids) := by simp [allP]

theorem nodesL_len : (l : List Ex) → l.length ≤ nodesL l
  | [] => by simp [nodesL]
  | e :: r => by rw [nodesL, List.length_cons]; have := nodesL_len r; have := Ex.nodes_eq e; omega

theorem sumP_len (ps : List Pd) (h : ∀ p ∈ ps, 0 < p.kids.length) : ps.length ≤ sumP ps := by
  induction ps with
  | nil => simp
  | cons p r ih =>
    have h1 := h p (List.mem_cons_self ..)
    have h2 := nodesL_len p.kids
    have h3 := ih fun q hq => h q (List.mem_cons_of_mem _ hq)
    simp only [sumP, List.map_cons, List.sum_cons, List.length_cons] at h3 ⊢
    omega

def SeeX (good : Bool) (pc : List PanicEntry) : Ending := if good then .returned (.tuple #[]) else .panicked pc

/-- How a function sees one node: it counts in the cell of block wb, and panics with pv where the node is not right. -/
def Sees (J : World → Prop) (k wb : Nat) (chk : Ex → Bool) (lim : Nat) (pc : List PanicEntry) : Prop := ∀ (e : Ex) (a : Option Addr) (c d m : Nat) (w : World), J w → e.fit → KidsAt w d a c e.kids →
  w.cell? ⟨wb, 0, none⟩ = some (.int .i64 m) → w.frozen? ⟨wb, 0, none⟩ = false → m ≤ 1073741824 →
  Calls Tryz.prog k #[.pointer (some ⟨wb, 0, none⟩), .agg #[.int .i64 e.kind, .string e.text, .int .i64 e.num, .slice a e.kids.length c]] w fun x w' =>
    w.grownBy w' (some wb) ∧ w'.cell? ⟨wb, 0, none⟩ = some (.int .i64 (m + 1 : Nat)) ∧ w'.frozen? ⟨wb, 0, none⟩ = false ∧
    x = SeeX (chk e && decide (m + 1 ≤ lim)) pc

/-- What a walk over all nodes answers. -/
def EachP (w : World) (wb : Nat) (chk : Ex → Bool) (lim : Nat) (pc : List PanicEntry) (e : Ex) (m : Nat) (x : Ending) (w' : World) : Prop :=
  w.grownBy w' (some wb) ∧ x = SeeX (e.all chk && decide (m + e.nodes ≤ lim)) pc ∧ (e.all chk = true → m + e.nodes ≤ lim → w'.cell? ⟨wb, 0, none⟩ = some (.int .i64 (m + e.nodes : Nat)))

theorem Tryz.infoKidsS : (Tryz.prog.info? 30).map (fun i => (i.zero, i.size, i.bytes)) = some (some (.slice none 0 0), 1, 24) := by kernel_rfl

/-- Where the trees lie that the walk reads. -/
def InQ (w : World) (wb b : Nat) : Prop := b = w.heap.size + 1 ∨ (b < w.heap.size ∧ b ≠ wb)

/-- What waits, and what has been counted. -/
structure WInv (w : World) (wb : Nat) (ps : List Pd) (v : Value) (mm : Nat) (wr : World) : Prop where
  row : wr.ownsRow (w.heap.size + 2) 30 1 v ps.length (ps.map Pd.v)
  kids : ∀ p ∈ ps, 0 < p.kids.length ∧ ∃ d, KidsQ (InQ w wb) wr d p.a p.c p.kids
  grown : w.grownBy wr (some wb)
  size : w.heap.size + 2 < wr.heap.size
  lt : wb < w.heap.size
  cell : wr.cell? ⟨wb, 0, none⟩ = some (.int .i64 mm)
  frozen : wr.frozen? ⟨wb, 0, none⟩ = false

theorem cell_grown {w w' : World} {row : Option Nat} (hg : w.grownBy w' row) {b : Nat} (hb : b < w.heap.size) (hne : row ≠ some b) (o : Nat) : w'.cell? ⟨b, o, none⟩ = w.cell? ⟨b, o, none⟩ :=
  hg.cell_far ⟨b, o, none⟩ hb (fun h => hne h.symm)

theorem kids_grown {w wr w2 : World} {wb : Nat} {row : Option Nat} (hsz : w.heap.size + 2 < wr.heap.size) (hg : wr.grownBy w2 row) (hrow : ∀ b, row = some b → b = wb ∨ w.heap.size + 2 ≤ b) (hwb : wb < w.heap.size) {d : Nat} {a : Option Addr} {c : Nat} {kids : List Ex}
    (h : KidsQ (InQ w wb) wr d a c kids) : KidsQ (InQ w wb) w2 d a c kids := by
  refine h.agree hg.size fun b hq hb o => cell_grown hg hb ?_ o
  intro e
  rcases hrow b e with h1 | h1
  · rcases hq with h2 | h2 <;> omega
  · rcases hq with h2 | h2 <;> omega

theorem WInv.next {w wr w2 : World} {wb mm mm' : Nat} {ps : List Pd} {v : Value} {row : Option Nat} (h : WInv w wb ps v mm wr) (hg : wr.grownBy w2 row) (hrow : row = none ∨ row = some wb) (hc : w2.cell? ⟨wb, 0, none⟩ = some (.int .i64 mm')) (hz : w2.frozen? ⟨wb, 0, none⟩ = false) : WInv w wb ps v mm' w2 := by
  have hl := h.lt
  refine ⟨h.row.kept hg ?_, fun p hp => ⟨(h.kids p hp).1, ?_⟩, ?_, Nat.lt_of_lt_of_le h.size hg.size, h.lt, hc, hz⟩
  · cases ho : v.ownBlock with
    | none => exact .inl rfl
    | some g =>
      right
      have := (h.row.lt g ho).1
      rcases hrow with rfl | rfl
      · simp
      · intro e; cases e; omega
  · obtain ⟨d, hk⟩ := (h.kids p hp).2
    exact ⟨d, kids_grown h.size hg (by rintro b rfl; rcases hrow with h1 | h1 <;> cases h1; exact .inl rfl) h.lt hk⟩
  · exact h.grown.andThen hg (by rintro j rfl; rcases hrow with h1 | h1 <;> cases h1; exact .inr rfl)

theorem WInv.alloc {w wr : World} {wb mm : Nat} {ps : List Pd} {v : Value} (h : WInv w wb ps v mm wr) (o : Obj) : WInv w wb ps v mm (wr.alloc o) := by
  have hlt : wb < wr.heap.size := Nat.lt_of_lt_of_le h.lt h.grown.size
  have hb : Below wr.heap.size wr (wr.alloc o) := (Below.refl _ _).alloc (Nat.le_refl _) o
  have hg : wr.grownBy (wr.alloc o) none := ⟨hb.os, hb.tape, hb.output, hb.size, fun k hk _ => hb.block k hk⟩
  exact h.next hg (.inl rfl) ((hg.cell_far ⟨wb, 0, none⟩ hlt (by simp)).trans h.cell) ((hg.frozen_far ⟨wb, 0, none⟩ hlt (by simp)).trans h.frozen)

theorem WInv.push {w wr w2 : World} {wb mm : Nat} {ps : List Pd} {v v' : Value} (h : WInv w wb ps v mm wr) (p : Pd) (hp : 0 < p.kids.length) {d : Nat} (hk : KidsQ (InQ w wb) wr d p.a p.c p.kids)
    (hrow : w2.ownsRow (w.heap.size + 2) 30 1 v' (ps.length + 1) (ps.map Pd.v ++ [p.v])) (hg : wr.grownBy w2 v.ownBlock) : WInv w wb (ps ++ [p]) v' mm w2 := by
  have hl := h.lt
  have hlt : wb < wr.heap.size := Nat.lt_of_lt_of_le h.lt h.grown.size
  have hown : ∀ b, v.ownBlock = some b → w.heap.size + 2 ≤ b := fun b hb => (h.row.lt b hb).1
  have hne : some wb ≠ v.ownBlock := fun e => by have := hown wb e.symm; omega
  refine ⟨by simpa using hrow, fun q hq => ?_, ?_, Nat.lt_of_lt_of_le h.size hg.size, h.lt, (hg.cell_far ⟨wb, 0, none⟩ hlt hne).trans h.cell, (hg.frozen_far ⟨wb, 0, none⟩ hlt hne).trans h.frozen⟩
  · rcases List.mem_append.1 hq with hq | hq
    · obtain ⟨d, hk⟩ := (h.kids q hq).2
      exact ⟨(h.kids q hq).1, d, kids_grown h.size hg (fun b hb => .inr (hown b hb)) h.lt hk⟩
    · rw [List.mem_singleton] at hq
      subst hq
      exact ⟨hp, d, kids_grown h.size hg (fun b hb => .inr (hown b hb)) h.lt hk⟩
  · exact h.grown.andThen hg fun j hj => .inl (by have := hown j hj; omega)

theorem WInv.form {w wr : World} {wb mm : Nat} {ps : List Pd} {v : Value} (h : WInv w wb ps v mm wr) : ∃ a c, v = .slice a ps.length c := by
  rcases h.row.2 with ⟨hv, hn⟩ | ⟨g, cap, cur, hv, _⟩
  · exact ⟨none, 0, by rw [hv, hn]⟩
  · exact ⟨_, _, hv⟩

theorem WInv.pop {w wr : World} {wb mm : Nat} {ps : List Pd} {p : Pd} {v : Value} (h : WInv w wb (ps ++ [p]) v mm wr) :
    ∃ g cap, v = .slice (some ⟨g, 0, none⟩) (ps.length + 1) cap ∧ ps.length + 1 ≤ cap ∧ cap ≤ maxLen ∧ wr.cell? ⟨g, ps.length, none⟩ = some p.v ∧ WInv w wb ps (.slice (some ⟨g, 0, none⟩) ps.length cap) mm wr ∧ 0 < p.kids.length ∧ ∃ d, KidsQ (InQ w wb) wr d p.a p.c p.kids := by
  obtain ⟨hp, hk⟩ := h.kids p (List.mem_append_right _ (List.mem_singleton.2 rfl))
  have hr := h.row
  rcases h.row.2 with ⟨_, hn⟩ | ⟨g, cap, cur, hv, hB, hg, hnc, hcm, hcs, ht⟩
  · simp at hn
  · subst hv
    refine ⟨g, cap, by simp, by simpa using hnc, hcm, ?_, ⟨?_, fun q hq => h.kids q (List.mem_append_left _ hq), h.grown, h.size, h.lt, h.cell, h.frozen⟩, hp, hk⟩
    · rw [hr.cellAt ps.length (by simp)]
      simp
    · refine ⟨by simp, .inr ⟨g, cap, cur, rfl, hB, hg, by simp at hnc; omega, hcm, hcs, ?_⟩⟩
      have := congrArg (List.take (ps.length * 1)) ht
      simpa [List.take_take, Nat.min_eq_left] using this

/-- One list put behind those that wait. -/
theorem wpPush {w wr : World} {wb mm : Nat} {ps : List Pd} {ops : Array Oper} {rest : List Oper} {o : Oper} {A : Act} {Q : Exit → Act → World → Prop} (hgd : o.guard = none) (s x : Operand)
    (ho : o.op = .call { callee := .builtin .append, args := #[s, x], argTypes := #[152, 152] }) (a0 : Option Addr) (c0 : Nat) (p : Pd) (d : Nat) (o1 : Obj)
    (hI : WInv w wb ps (.slice a0 ps.length c0) mm wr) (hp : 0 < p.kids.length) (hk : KidsQ (InQ w wb) wr d p.a p.c p.kids) (hn : ps.length + 1 ≤ 1073741824)
    (hs : A.eval s = .slice a0 ps.length c0) (hx : A.eval x = .slice (some ⟨wr.heap.size, 0, none⟩) 1 1) (ho1 : o1 = .cells #[.slice p.a p.kids.length p.c] 30)
    (h : ∀ a' c' w', Hid (WInv w wb (ps ++ [p]) (.slice a' (ps.length + 1) c') mm w' ∧ wr.grownBy w' (Value.slice a0 ps.length c0).ownBlock) → wpList Tryz.prog ops Q rest (A.put o.dst (.slice a' (ps.length + 1) c')) w') :
    wpList Tryz.prog ops Q (o :: rest) A (wr.alloc o1) := by
  subst ho1
  obtain ⟨i0, hi0, hz0, hz1, hz2⟩ := info_parts Tryz.infoKidsS
  have hI2 := hI.alloc (.cells #[.slice p.a p.kids.length p.c] 30)
  refine wpList_append_own_at _ hgd s x 152 ho (w.heap.size + 2) 30 i0 (.slice none 0 0) 1 24 Tryz.underlying152 hi0 hz0 hz1 hz2 rfl (by decide) (.slice a0 ps.length c0) ps.length (ps.map Pd.v) hs hI2.row
    ⟨wr.heap.size, 0, none⟩ 1 1 [p.v] hx rfl ?_ (fun u hu => by simp at hu; subst hu; rfl) (by unfold maxLen; omega) (by omega) (by have := hI2.size; omega) ?_
  · intro j u hu
    cases j with
    | zero => simp at hu; subst hu; simp [go_sem, Addr.add, Pd.v]
    | succ j => simp at hu
  · intro v' w' hown' hg _ _
    have hb : Below wr.heap.size wr (wr.alloc (.cells #[.slice p.a p.kids.length p.c] 30)) := (Below.refl _ _).alloc (Nat.le_refl _) _
    have hg0 : wr.grownBy (wr.alloc (.cells #[.slice p.a p.kids.length p.c] 30)) none := ⟨hb.os, hb.tape, hb.output, hb.size, fun k hk _ => hb.block k hk⟩
    have hk2 := kids_grown hI.size hg0 (by simp) hI.lt hk
    obtain ⟨a', c', rfl⟩ : ∃ a' c', v' = .slice a' (ps.length + 1) c' := by
      rcases hown'.2 with ⟨_, h0⟩ | ⟨g', cap, cur, rfl, _⟩
      · omega
      · exact ⟨_, _, rfl⟩
    exact h a' c' w' ⟨hI2.push p hp hk2 hown' hg, (hg0.but _).trans hg⟩

def cellN (wr : World) (wb : Nat) : Nat := match wr.cell? ⟨wb, 0, none⟩ with | some v => (intOf v).toNat | none => 0

theorem WInv.cellN {w wr : World} {wb mm : Nat} {ps : List Pd} {v : Value} (h : WInv w wb ps v mm wr) : cellN wr wb = mm := by
  unfold Go.Proofs.YtpdcmmhhgnackaaGreatDoor.cellN
  rw [h.cell]
  simp [intOf]

theorem WInv.start {w : World} {wb m : Nat} {e : Ex} {a : Option Addr} {c d : Nat} (hfit : e.fit) (hk : KidsQ (fun b => b ≠ wb) w d a c e.kids) (hwb : wb < w.heap.size) (hm : w.cell? ⟨wb, 0, none⟩ = some (.int .i64 m)) (hz : w.frozen? ⟨wb, 0, none⟩ = false) (o : Obj) {W : World}
    (hW : W = ((w.alloc o).alloc (.cells #[.int .i64 e.kind, .string e.text, .int .i64 e.num, .slice a e.kids.length c] 66)).alloc (.cells #[.slice (some ⟨w.heap.size + 1, 0, none⟩) 1 1] 30)) :
    WInv w wb [⟨some ⟨w.heap.size + 1, 0, none⟩, 1, [e]⟩] (.slice (some ⟨w.heap.size + 1 + 1, 0, none⟩) 1 1) m W := by
  have hb : Below w.heap.size w W := by
    subst hW
    exact (((Below.refl _ _).alloc (Nat.le_refl _) _).alloc (by simp) _).alloc (by simp; omega) _
  have hg : w.grownBy W none := ⟨hb.os, hb.tape, hb.output, hb.size, fun k hk _ => hb.block k hk⟩
  have hsz : W.heap.size = w.heap.size + 3 := by subst hW; simp
  refine ⟨?_, fun p hp => ?_, hg.but _, by omega, hwb, (hg.cell_far ⟨wb, 0, none⟩ hwb (by simp)).trans hm, (hg.frozen_far ⟨wb, 0, none⟩ hwb (by simp)).trans hz⟩
  · subst hW
    have := World.ownsRow_lit (base := w.heap.size + 2) (e := 30) (size := 1) ((w.alloc o).alloc (.cells #[.int .i64 e.kind, .string e.text, .int .i64 e.num, .slice a e.kids.length c] 66)) #[.slice (some ⟨w.heap.size + 1, 0, none⟩) 1 1] 1 (by simp) (by unfold maxLen; omega) rfl
    simpa [Pd.v] using this
  · rw [List.mem_singleton] at hp
    subst hp
    refine ⟨by simp, d + 1, by simp, by show 1 ≤ maxLen; unfold maxLen; omega, (fun h => by cases h), fun _ => ⟨w.heap.size + 1, 0, rfl, .inl rfl, by omega, fun i hi => ?_⟩⟩
    have : i = 0 := by simpa using hi
    subst this
    have hk' : KidsQ (InQ w wb) W d a c e.kids := (hk.imp (q' := InQ w wb) fun b h1 h2 => .inr ⟨h2, h1⟩).agree hb.size fun b _ h o => hb.cell (p := ⟨b, o, none⟩) h
    refine ⟨?_, ?_, ?_, hfit, a, c, ?_, hk'⟩ <;> subst hW <;> simp [go_sem]

end Go.Proofs.YtpdcmmhhgnackaaGreatDoor

namespace Go.Proofs.YtpdcmmhhgnackaaGreatDoor
open Go.RowKit

set_option maxHeartbeats 2000000 in
theorem eachCheck {wb : Nat} {chk : Ex → Bool} {lim : Nat} {pc : List PanicEntry} {J : World → Prop} (hsee : Sees J 117 wb chk lim pc) (e : Ex) (a : Option Addr) (c d m : Nat) (w : World) (hJ : ∀ w', w.grownBy w' (some wb) → J w') (hfit : e.fit) (hk : KidsQ (fun b => b ≠ wb) w d a c e.kids)
    (hwb : wb < w.heap.size) (hm : w.cell? ⟨wb, 0, none⟩ = some (.int .i64 m)) (hz : w.frozen? ⟨wb, 0, none⟩ = false) (hn : m + e.nodes ≤ 1073741824) :
    Calls Tryz.prog 116 #[.agg #[.int .i64 e.kind, .string e.text, .int .i64 e.num, .slice a e.kids.length c], .func (.func 117) #[.pointer (some ⟨wb, 0, none⟩)] #[]] w (EachP w wb chk lim pc e m) := by
  obtain ⟨i0, hi0, hz0, hz1, hz2⟩ := info_parts Tryz.infoKidsS
  have HST := Lib.hid (WInv.start hfit hk hwb hm hz)
  clear hk hfit hm hz
  go_enter Tryz.func116, Tryz.ntmps116
  go_wp2_with fail
  go_loopw [4] (fun v wr => ∃ ps mm, WInv w wb ps v mm wr ∧ mm + sumP ps = m + e.nodes ∧ e.all chk = allP chk ps ∧ (m < mm → mm ≤ lim)) (fun _ wr => m + e.nodes - cellN wr wb)
  case atStart => exact ⟨_, m, HST.out _ rfl, by simp [sumP, nodesL], by simp [allP, allL], fun h => absurd h (Nat.lt_irrefl _)⟩
  case round =>
    obtain ⟨ps, mm, hI, hsum, hall, hlim⟩ := hrel
    rcases List.eq_nil_or_concat ps with rfl | ⟨qs, ⟨pa, pcp, pk⟩, rfl⟩
    · obtain ⟨a0, c0, rfl⟩ := hI.form
      have HI := Lib.hid hI
      have HS := Lib.hid hsum
      have HA := Lib.hid hall
      clear hI hsum hall
      go_wp2_with fail
      refine bodyPost_end (results_none rfl _ _ _) rfl ?_
      have hmm : mm = m + e.nodes := by have := HS.out; simpa [sumP] using this
      subst hmm
      have hall : e.all chk = true := by rw [HA.out]; rfl
      have hnp := Ex.nodes_eq e
      have hle := hlim (by omega)
      exact ⟨HI.out.grown, by rw [hall, decide_eq_true hle]; rfl, fun _ _ => HI.out.cell⟩
    · obtain ⟨g, cap, rfl, hcap, hcapm, hcell, hI2, hpk, d2, hk2⟩ := WInv.pop (by simpa using hI)
      unfold Pd.v at hcell
      simp only at hcell hpk hk2
      unfold maxLen at hcapm
      have HI := Lib.hid hI2
      have HK2 := Lib.hid hk2
      rw [List.concat_eq_append, sumP_snoc] at hsum
      rw [List.concat_eq_append, allP_snoc] at hall
      have HS := Lib.hid hsum
      have HA := Lib.hid hall
      clear hI hI2 hk2 hsum hall
      go_wp2_with fail
      go_loopw [4, 27] (fun v i wr => ∃ (ps : List Pd) (k : Nat), i = .int .i64 k ∧ k ≤ pk.length ∧ WInv w wb ps v (mm + k) wr ∧ KidsQ (InQ w wb) wr d2 pa pcp pk ∧ mm + k + sumP ps + nodesL (pk.drop k) = m + e.nodes ∧ e.all chk = (allP chk ps && allL chk (pk.drop k)) ∧ (m < mm + k → mm + k ≤ lim)) (fun _ i _ => pk.length - (intOf i).toNat)
      case atStart => exact ⟨qs, 0, rfl, Nat.zero_le _, HI.out, HK2.out, by have := HS.out; simp only [List.drop_zero] at this ⊢; omega, HA.out, hlim⟩
      case round =>
        obtain ⟨ps, k, rfl, hk, hI3, hk3, hsum3, hall3, hlim3⟩ := hrel
        obtain ⟨a0, c0, rfl⟩ := hI3.form
        by_cases hlt : k < pk.length
        · obtain ⟨d3, rfl⟩ : ∃ q, d2 = q + 1 := ⟨d2 - 1, by cases d2 with | zero => exact hk3.elim | succ n => omega⟩
          obtain ⟨b, off, rfl, hq, hbl, hc0, hc1, hc2, hfit, a', c', hc3, hkid⟩ := hk3.spot hlt
          have hxl := hkid.at.len
          have hmb : mm + k ≤ 1073741824 := by omega
          have HI3 := Lib.hid hI3
          have HK3 := Lib.hid hk3
          have HX := Lib.hid hkid
          have HS3 := Lib.hid hsum3
          have HA3 := Lib.hid hall3
          have hsz3 := hI3.size
          clear hI3 hsum3 hall3 hk3 hkid
          go_wp2_with fail
          refine (hsee pk[k] a' c' d3 (mm + k) _ (hJ _ (HI3.out.alloc _).grown) hfit ((HX.out.at.below ((Below.refl _ _).alloc (Nat.le_refl _) _))) (HI3.out.alloc _).cell (HI3.out.alloc _).frozen hmb).mono ?_
          rintro x w2 ⟨hg2, hc, hz, rfl⟩
          have hI4 := (HI3.out.alloc _).next hg2 (.inr rfl) hc hz
          have hbox : w2.cell? ⟨wr.heap.size, 3, none⟩ = some (.slice a' pk[k].kids.length c') := hg2.cell (a := ⟨wr.heap.size, 3, none⟩) (by simp [go_sem]) (by intro h; have h' := Option.some.inj h; simp only at h'; omega)
          have hkeep : KidsQ (InQ w wb) w2 (d3 + 1) (some ⟨b, off, none⟩) pcp pk ∧ KidsQ (InQ w wb) w2 d3 a' c' pk[k].kids := by
            have hb1 := (Below.refl wr.heap.size wr).alloc (Nat.le_refl _) (.cells #[.int .i64 pk[k].kind, .string pk[k].text, .int .i64 pk[k].num, .slice a' pk[k].kids.length c'] 66)
            have hg1 : wr.grownBy _ none := ⟨hb1.os, hb1.tape, hb1.output, hb1.size, fun k hk _ => hb1.block k hk⟩
            have hI5 := HI3.out.alloc (.cells #[.int .i64 pk[k].kind, .string pk[k].text, .int .i64 pk[k].num, .slice a' pk[k].kids.length c'] 66)
            exact ⟨kids_grown hI5.size hg2 (by rintro b h; cases h; exact .inl rfl) hI5.lt (kids_grown HI3.out.size hg1 (by simp) HI3.out.lt HK3.out), kids_grown hI5.size hg2 (by rintro b h; cases h; exact .inl rfl) hI5.lt (kids_grown HI3.out.size hg1 (by simp) HI3.out.lt HX.out)⟩
          have HI4 := Lib.hid hI4
          have HKP := Lib.hid hkeep
          have HDN := Lib.hid (nodesL_drop pk k hlt)
          have HDA := Lib.hid (allL_drop chk pk k hlt)
          have HNE := Lib.hid (Ex.nodes_eq pk[k])
          have HAE := Lib.hid (Ex.all_eq chk pk[k])
          have hsz4 := hI4.size
          clear hI4 hkeep hg2 hc0 hc1 hc2 hc3
          cases hgd : (chk pk[k] && decide (mm + k + 1 ≤ lim)) with
          | false =>
            have HG := Lib.hid hgd
            clear hgd
            simp only [SeeX, Bool.false_eq_true, if_false]
            have HF : Hid ((e.all chk && decide (m + e.nodes ≤ lim)) = false) := by
              have h1 := HG.out; have h2 := HA3.out; have h3 := HDA.out; have h4 := HAE.out; have h5 := HS3.out; have h6 := HDN.out; have h7 := HNE.out
              unfold Hid
              rw [h2, h3, h4]
              rw [Bool.and_eq_false_iff] at h1
              rcases h1 with h1 | h1
              · simp [h1]
              · have : decide (m + e.nodes ≤ lim) = false := by simp at h1 ⊢; omega
                rw [this]; simp
            go_wp2_with fail
            refine ⟨rfl, HI4.out.grown, by rw [HF.out]; rfl, fun h1 h2 => ?_⟩
            have := HF.out
            rw [h1, decide_eq_true h2] at this
            cases this
          | true =>
            have HG := Lib.hid hgd
            clear hgd
            have hle : mm + k + 1 ≤ lim := by have := HG.out; simp at this; exact this.2
            have hck : chk pk[k] = true := by have := HG.out; simp at this; exact this.1
            simp only [SeeX, if_true]
            have hpl : ps.length + 1 ≤ 1073741824 := by
              have h5 := HS3.out; have h6 := HDN.out; have h7 := HNE.out
              have h8 := sumP_len ps (fun p hp => (HI4.out.kids p hp).1)
              omega
            have HE : Hid (mm + (k + 1) + (sumP ps + nodesL pk[k].kids) + nodesL (pk.drop (k + 1)) = m + e.nodes ∧ e.all chk = (allP chk ps && allL chk pk[k].kids && allL chk (pk.drop (k + 1)))) := by
              have h2 := HA3.out; have h3 := HDA.out; have h4 := HAE.out; have h5 := HS3.out; have h6 := HDN.out; have h7 := HNE.out
              refine ⟨by omega, ?_⟩
              rw [h2, h3, h4, hck]
              simp [Bool.and_assoc]
            by_cases hpos : 0 < pk[k].kids.length
            · go_wp2_with (at_builtin; refine wpPush rfl (.tmp 38) (.tmp 41) rfl a0 c0 ⟨a', c', pk[k].kids⟩ d3 _ HI4.out hpos HKP.out.2 hpl rfl rfl rfl ?_; intro a6 c6 w6 HI6)
              go_roundw
              case rel =>
                refine ⟨ps ++ [⟨a', c', pk[k].kids⟩], k + 1, by go_num, by omega, ?_, ?_, ?_, ?_, by omega⟩
                · exact HI6.out.1
                · exact kids_grown HI4.out.size HI6.out.2 (fun b hb => .inr (HI4.out.row.lt b hb).1) HI4.out.lt HKP.out.1
                · rw [sumP_snoc]; exact HE.out.1
                · rw [allP_snoc]; exact HE.out.2
              case measure => simp [intOf]; omega
            · have h0 : pk[k].kids = [] := List.eq_nil_of_length_eq_zero (by omega)
              have hl0 : pk[k].kids.length = 0 := by rw [h0]; rfl
              go_wp2_with fail
              go_roundw
              case rel =>
                refine ⟨ps, k + 1, by go_num, by omega, HI4.out, HKP.out.1, ?_, ?_, by omega⟩
                · have := HE.out.1; rw [h0] at this; simpa [nodesL] using this
                · have := HE.out.2; rw [h0] at this; simpa [allL] using this
              case measure => simp [intOf]; omega
        · obtain rfl : k = pk.length := by omega
          have HI3 := Lib.hid hI3
          have HS3 := Lib.hid hsum3
          have HA3 := Lib.hid hall3
          clear hI3 hsum3 hall3 hk3
          go_wp2_with fail
          go_roundw
          case rel => exact ⟨ps, mm + pk.length, HI3.out, by have := HS3.out; simpa [nodesL] using this, by have := HA3.out; simpa [allL] using this, hlim3⟩
          case measure =>
            have h1 := HI3.out.cellN
            have h2 := HI.out.cellN
            have h3 := HS3.out
            rw [h1, h2]
            omega

end Go.Proofs.YtpdcmmhhgnackaaGreatDoor

namespace Go.Proofs.YtpdcmmhhgnackaaGreatDoor
open Go.RowKit

set_option maxHeartbeats 2000000 in
theorem eachCount {wb : Nat} {chk : Ex → Bool} {lim : Nat} {pc : List PanicEntry} {J : World → Prop} (hsee : Sees J 138 wb chk lim pc) (e : Ex) (a : Option Addr) (c d m : Nat) (w : World) (hJ : ∀ w', w.grownBy w' (some wb) → J w') (hfit : e.fit) (hk : KidsQ (fun b => b ≠ wb) w d a c e.kids)
    (hwb : wb < w.heap.size) (hm : w.cell? ⟨wb, 0, none⟩ = some (.int .i64 m)) (hz : w.frozen? ⟨wb, 0, none⟩ = false) (hn : m + e.nodes ≤ 1073741824) :
    Calls Tryz.prog 116 #[.agg #[.int .i64 e.kind, .string e.text, .int .i64 e.num, .slice a e.kids.length c], .func (.func 138) #[.pointer (some ⟨wb, 0, none⟩)] #[]] w (EachP w wb chk lim pc e m) := by
  obtain ⟨i0, hi0, hz0, hz1, hz2⟩ := info_parts Tryz.infoKidsS
  have HST := Lib.hid (WInv.start hfit hk hwb hm hz)
  clear hk hfit hm hz
  go_enter Tryz.func116, Tryz.ntmps116
  go_wp2_with fail
  go_loopw [4] (fun v wr => ∃ ps mm, WInv w wb ps v mm wr ∧ mm + sumP ps = m + e.nodes ∧ e.all chk = allP chk ps ∧ (m < mm → mm ≤ lim)) (fun _ wr => m + e.nodes - cellN wr wb)
  case atStart => exact ⟨_, m, HST.out _ rfl, by simp [sumP, nodesL], by simp [allP, allL], fun h => absurd h (Nat.lt_irrefl _)⟩
  case round =>
    obtain ⟨ps, mm, hI, hsum, hall, hlim⟩ := hrel
    rcases List.eq_nil_or_concat ps with rfl | ⟨qs, ⟨pa, pcp, pk⟩, rfl⟩
    · obtain ⟨a0, c0, rfl⟩ := hI.form
      have HI := Lib.hid hI
      have HS := Lib.hid hsum
      have HA := Lib.hid hall
      clear hI hsum hall
      go_wp2_with fail
      refine bodyPost_end (results_none rfl _ _ _) rfl ?_
      have hmm : mm = m + e.nodes := by have := HS.out; simpa [sumP] using this
      subst hmm
      have hall : e.all chk = true := by rw [HA.out]; rfl
      have hnp := Ex.nodes_eq e
      have hle := hlim (by omega)
      exact ⟨HI.out.grown, by rw [hall, decide_eq_true hle]; rfl, fun _ _ => HI.out.cell⟩
    · obtain ⟨g, cap, rfl, hcap, hcapm, hcell, hI2, hpk, d2, hk2⟩ := WInv.pop (by simpa using hI)
      unfold Pd.v at hcell
      simp only at hcell hpk hk2
      unfold maxLen at hcapm
      have HI := Lib.hid hI2
      have HK2 := Lib.hid hk2
      rw [List.concat_eq_append, sumP_snoc] at hsum
      rw [List.concat_eq_append, allP_snoc] at hall
      have HS := Lib.hid hsum
      have HA := Lib.hid hall
      clear hI hI2 hk2 hsum hall
      go_wp2_with fail
      go_loopw [4, 27] (fun v i wr => ∃ (ps : List Pd) (k : Nat), i = .int .i64 k ∧ k ≤ pk.length ∧ WInv w wb ps v (mm + k) wr ∧ KidsQ (InQ w wb) wr d2 pa pcp pk ∧ mm + k + sumP ps + nodesL (pk.drop k) = m + e.nodes ∧ e.all chk = (allP chk ps && allL chk (pk.drop k)) ∧ (m < mm + k → mm + k ≤ lim)) (fun _ i _ => pk.length - (intOf i).toNat)
      case atStart => exact ⟨qs, 0, rfl, Nat.zero_le _, HI.out, HK2.out, by have := HS.out; simp only [List.drop_zero] at this ⊢; omega, HA.out, hlim⟩
      case round =>
        obtain ⟨ps, k, rfl, hk, hI3, hk3, hsum3, hall3, hlim3⟩ := hrel
        obtain ⟨a0, c0, rfl⟩ := hI3.form
        by_cases hlt : k < pk.length
        · obtain ⟨d3, rfl⟩ : ∃ q, d2 = q + 1 := ⟨d2 - 1, by cases d2 with | zero => exact hk3.elim | succ n => omega⟩
          obtain ⟨b, off, rfl, hq, hbl, hc0, hc1, hc2, hfit, a', c', hc3, hkid⟩ := hk3.spot hlt
          have hxl := hkid.at.len
          have hmb : mm + k ≤ 1073741824 := by omega
          have HI3 := Lib.hid hI3
          have HK3 := Lib.hid hk3
          have HX := Lib.hid hkid
          have HS3 := Lib.hid hsum3
          have HA3 := Lib.hid hall3
          have hsz3 := hI3.size
          clear hI3 hsum3 hall3 hk3 hkid
          go_wp2_with fail
          refine (hsee pk[k] a' c' d3 (mm + k) _ (hJ _ (HI3.out.alloc _).grown) hfit ((HX.out.at.below ((Below.refl _ _).alloc (Nat.le_refl _) _))) (HI3.out.alloc _).cell (HI3.out.alloc _).frozen hmb).mono ?_
          rintro x w2 ⟨hg2, hc, hz, rfl⟩
          have hI4 := (HI3.out.alloc _).next hg2 (.inr rfl) hc hz
          have hbox : w2.cell? ⟨wr.heap.size, 3, none⟩ = some (.slice a' pk[k].kids.length c') := hg2.cell (a := ⟨wr.heap.size, 3, none⟩) (by simp [go_sem]) (by intro h; have h' := Option.some.inj h; simp only at h'; omega)
          have hkeep : KidsQ (InQ w wb) w2 (d3 + 1) (some ⟨b, off, none⟩) pcp pk ∧ KidsQ (InQ w wb) w2 d3 a' c' pk[k].kids := by
            have hb1 := (Below.refl wr.heap.size wr).alloc (Nat.le_refl _) (.cells #[.int .i64 pk[k].kind, .string pk[k].text, .int .i64 pk[k].num, .slice a' pk[k].kids.length c'] 66)
            have hg1 : wr.grownBy _ none := ⟨hb1.os, hb1.tape, hb1.output, hb1.size, fun k hk _ => hb1.block k hk⟩
            have hI5 := HI3.out.alloc (.cells #[.int .i64 pk[k].kind, .string pk[k].text, .int .i64 pk[k].num, .slice a' pk[k].kids.length c'] 66)
            exact ⟨kids_grown hI5.size hg2 (by rintro b h; cases h; exact .inl rfl) hI5.lt (kids_grown HI3.out.size hg1 (by simp) HI3.out.lt HK3.out), kids_grown hI5.size hg2 (by rintro b h; cases h; exact .inl rfl) hI5.lt (kids_grown HI3.out.size hg1 (by simp) HI3.out.lt HX.out)⟩
          have HI4 := Lib.hid hI4
          have HKP := Lib.hid hkeep
          have HDN := Lib.hid (nodesL_drop pk k hlt)
          have HDA := Lib.hid (allL_drop chk pk k hlt)
          have HNE := Lib.hid (Ex.nodes_eq pk[k])
          have HAE := Lib.hid (Ex.all_eq chk pk[k])
          have hsz4 := hI4.size
          clear hI4 hkeep hg2 hc0 hc1 hc2 hc3
          cases hgd : (chk pk[k] && decide (mm + k + 1 ≤ lim)) with
          | false =>
            have HG := Lib.hid hgd
            clear hgd
            simp only [SeeX, Bool.false_eq_true, if_false]
            have HF : Hid ((e.all chk && decide (m + e.nodes ≤ lim)) = false) := by
              have h1 := HG.out; have h2 := HA3.out; have h3 := HDA.out; have h4 := HAE.out; have h5 := HS3.out; have h6 := HDN.out; have h7 := HNE.out
              unfold Hid
              rw [h2, h3, h4]
              rw [Bool.and_eq_false_iff] at h1
              rcases h1 with h1 | h1
              · simp [h1]
              · have : decide (m + e.nodes ≤ lim) = false := by simp at h1 ⊢; omega
                rw [this]; simp
            go_wp2_with fail
            refine ⟨rfl, HI4.out.grown, by rw [HF.out]; rfl, fun h1 h2 => ?_⟩
            have := HF.out
            rw [h1, decide_eq_true h2] at this
            cases this
          | true =>
            have HG := Lib.hid hgd
            clear hgd
            have hle : mm + k + 1 ≤ lim := by have := HG.out; simp at this; exact this.2
            have hck : chk pk[k] = true := by have := HG.out; simp at this; exact this.1
            simp only [SeeX, if_true]
            have hpl : ps.length + 1 ≤ 1073741824 := by
              have h5 := HS3.out; have h6 := HDN.out; have h7 := HNE.out
              have h8 := sumP_len ps (fun p hp => (HI4.out.kids p hp).1)
              omega
            have HE : Hid (mm + (k + 1) + (sumP ps + nodesL pk[k].kids) + nodesL (pk.drop (k + 1)) = m + e.nodes ∧ e.all chk = (allP chk ps && allL chk pk[k].kids && allL chk (pk.drop (k + 1)))) := by
              have h2 := HA3.out; have h3 := HDA.out; have h4 := HAE.out; have h5 := HS3.out; have h6 := HDN.out; have h7 := HNE.out
              refine ⟨by omega, ?_⟩
              rw [h2, h3, h4, hck]
              simp [Bool.and_assoc]
            by_cases hpos : 0 < pk[k].kids.length
            · go_wp2_with (at_builtin; refine wpPush rfl (.tmp 38) (.tmp 41) rfl a0 c0 ⟨a', c', pk[k].kids⟩ d3 _ HI4.out hpos HKP.out.2 hpl rfl rfl rfl ?_; intro a6 c6 w6 HI6)
              go_roundw
              case rel =>
                refine ⟨ps ++ [⟨a', c', pk[k].kids⟩], k + 1, by go_num, by omega, ?_, ?_, ?_, ?_, by omega⟩
                · exact HI6.out.1
                · exact kids_grown HI4.out.size HI6.out.2 (fun b hb => .inr (HI4.out.row.lt b hb).1) HI4.out.lt HKP.out.1
                · rw [sumP_snoc]; exact HE.out.1
                · rw [allP_snoc]; exact HE.out.2
              case measure => simp [intOf]; omega
            · have h0 : pk[k].kids = [] := List.eq_nil_of_length_eq_zero (by omega)
              have hl0 : pk[k].kids.length = 0 := by rw [h0]; rfl
              go_wp2_with fail
              go_roundw
              case rel =>
                refine ⟨ps, k + 1, by go_num, by omega, HI4.out, HKP.out.1, ?_, ?_, by omega⟩
                · have := HE.out.1; rw [h0] at this; simpa [nodesL] using this
                · have := HE.out.2; rw [h0] at this; simpa [allL] using this
              case measure => simp [intOf]; omega
        · obtain rfl : k = pk.length := by omega
          have HI3 := Lib.hid hI3
          have HS3 := Lib.hid hsum3
          have HA3 := Lib.hid hall3
          clear hI3 hsum3 hall3 hk3
          go_wp2_with fail
          go_roundw
          case rel => exact ⟨ps, mm + pk.length, HI3.out, by have := HS3.out; simpa [nodesL] using this, by have := HA3.out; simpa [allL] using this, hlim3⟩
          case measure =>
            have h1 := HI3.out.cellN
            have h2 := HI.out.cellN
            have h3 := HS3.out
            rw [h1, h2]
            omega

end Go.Proofs.YtpdcmmhhgnackaaGreatDoor

namespace Go.Proofs.YtpdcmmhhgnackaaGreatDoor
open Go.RowKit

theorem grownBy_alloc (w : World) (o : Obj) (row : Option Nat) : w.grownBy (w.alloc o) row := by
  have hb : Below w.heap.size w (w.alloc o) := (Below.refl _ _).alloc (Nat.le_refl _) o
  exact ⟨hb.os, hb.tape, hb.output, hb.size, fun k hk _ => hb.block k hk⟩

theorem setCell_grown (w : World) (b o : Nat) (v : Value) : w.grownBy (w.setCell ⟨b, o, none⟩ v) (some b) := by
  refine ⟨rfl, rfl, rfl, by simp, fun k hk hne => ?_⟩
  exact World.heap_setCells_other w b o [v] hk (fun h => hne (by rw [h]))

/-- What the count turns. -/
theorem count_grown {w : World} {wb m : Nat} (hc : w.cell? ⟨wb, 0, none⟩ = some (.int .i64 m)) (hz : w.frozen? ⟨wb, 0, none⟩ = false) (o : Obj) {v : Value} (hv : v = .int .i64 (m + 1 : Nat)) {w' : World} (hw : w' = (w.setCell ⟨wb, 0, none⟩ v).alloc o) :
    w.grownBy w' (some wb) ∧ w'.cell? ⟨wb, 0, none⟩ = some (.int .i64 (m + 1 : Nat)) ∧ w'.frozen? ⟨wb, 0, none⟩ = false := by
  subst hv hw
  have hlt := World.block_lt_of_cell? w ⟨wb, 0, none⟩ hc
  have hg1 := setCell_grown w wb 0 (.int .i64 (m + 1 : Nat))
  have hg2 := grownBy_alloc (w.setCell ⟨wb, 0, none⟩ (.int .i64 (m + 1 : Nat))) o none
  have hlt2 : wb < (w.setCell ⟨wb, 0, none⟩ (.int .i64 (m + 1 : Nat))).heap.size := by simpa using hlt
  exact ⟨hg1.trans (hg2.but _), (hg2.cell_far ⟨wb, 0, none⟩ hlt2 (by simp)).trans (World.cell?_setCell_same _ _ _ hc), (hg2.frozen_far ⟨wb, 0, none⟩ hlt2 (by simp)).trans (by rw [World.frozen?_setCell]; exact hz)⟩

set_option maxHeartbeats 1000000 in
theorem countSees (wb : Nat) : Sees (fun _ => True) 138 wb (fun _ => true) 1073741825 [] := by
  intro e a c d m w _ hfit hk hc hz hm
  have hlt := World.block_lt_of_cell? w ⟨wb, 0, none⟩ hc
  have H := Lib.hid (count_grown hc hz)
  clear hk hfit
  go_enter Tryz.func138, Tryz.ntmps138
  go_wp2_with fail
  refine bodyPost_end (results_none rfl _ _ _) rfl ?_
  obtain ⟨h1, h2, h3⟩ := H.out _ (by go_num) rfl
  exact ⟨h1, h2, h3, by first | rfl | (rw [decide_eq_true (by omega)]; rfl)⟩

theorem allTrue : (∀ e : Ex, e.all (fun _ => true) = true) := by
  intro e
  induction hn : e.nodes using Nat.strongRecOn generalizing e with
  | ind n ih =>
    rw [Ex.all_eq, Bool.true_and]
    have hne := Ex.nodes_eq e
    have key : ∀ l : List Ex, nodesL l < n → allL (fun _ => true) l = true := by
      intro l
      induction l with
      | nil => intro _; rfl
      | cons x r ihl =>
        intro h
        rw [nodesL] at h
        rw [allL, ih x.nodes (by omega) x rfl, ihl (by omega)]
        rfl
    exact key e.kids (by omega)

end Go.Proofs.YtpdcmmhhgnackaaGreatDoor

namespace Go.Proofs.YtpdcmmhhgnackaaGreatDoor
open Go.RowKit

def chkE (e : Ex) : Bool := node1 e.kind e.text e.num e.kids.length

theorem all_shape : ∀ e : Ex, e.all chkE = shapeE e := by
  intro e
  induction hn : e.nodes using Nat.strongRecOn generalizing e with
  | ind n ih =>
    have key : ∀ l : List Ex, nodesL l < n → allL chkE l = shapeL l := by
      intro l
      induction l with
      | nil => intro _; rfl
      | cons x r ihl =>
        intro h
        rw [nodesL] at h
        rw [allL, shapeL, ih x.nodes (by omega) x rfl, ihl (by omega)]
    have hne := Ex.nodes_eq e
    obtain ⟨k, t, m, kids⟩ := e
    change (Ex.mk k t m kids).nodes = 1 + nodesL kids at hne
    have hkk := key kids (by omega)
    rw [Ex.all_eq, shapeE]
    show (node1 k t m kids.length && allL chkE kids) = _
    rw [hkk]

def noExpr : ByteArray := ⟨#[110, 111, 116, 32, 97, 110, 32, 101, 120, 112, 114, 101, 115, 115, 105, 111, 110]⟩
def noPanic : List PanicEntry := [{ v := .iface 9 (.string noExpr), recovered := false }]

set_option maxHeartbeats 1000000 in
theorem countCall (wb : Nat) (e : Ex) (a : Option Addr) (c m : Nat) (w : World) (hc : w.cell? ⟨wb, 0, none⟩ = some (.int .i64 m)) (hz : w.frozen? ⟨wb, 0, none⟩ = false) (hm : m ≤ 1073741824) :
    Calls Tryz.prog 138 #[.pointer (some ⟨wb, 0, none⟩), .agg #[.int .i64 e.kind, .string e.text, .int .i64 e.num, .slice a e.kids.length c]] w fun x w' =>
      x = .returned (.tuple #[]) ∧ w.grownBy w' (some wb) ∧ w'.cell? ⟨wb, 0, none⟩ = some (.int .i64 (m + 1 : Nat)) ∧ w'.frozen? ⟨wb, 0, none⟩ = false := by
  have hlt := World.block_lt_of_cell? w ⟨wb, 0, none⟩ hc
  have H := Lib.hid (count_grown hc hz)
  go_enter Tryz.func138, Tryz.ntmps138
  go_wp2_with fail
  refine bodyPost_end (results_none rfl _ _ _) rfl ?_
  obtain ⟨h1, h2, h3⟩ := H.out _ (by go_num) rfl
  exact ⟨rfl, h1, h2, h3⟩

theorem FormsAt.grown {w w' : World} {wb : Nat} (h : FormsAt w) (hg : w.grownBy w' (some wb)) (hne : wb ≠ 1) : FormsAt w' := by
  refine ⟨Nat.lt_of_lt_of_le h.1 hg.size, fun i hi => ?_⟩
  obtain ⟨h0, h1, h2, h3⟩ := h.2 i hi
  have e := cell_grown hg h.1 (fun h => hne (Option.some.inj h))
  exact ⟨(e _).trans h0, (e _).trans h1, (e _).trans h2, (e _).trans h3⟩

set_option maxRecDepth 100000 in
set_option maxHeartbeats 2000000 in
theorem checkSees (wb : Nat) (hwb : wb ≠ 1) : Sees FormsAt 117 wb chkE 40 noPanic := by
  intro e a c d m w hFw hfit hk hc hz hm
  have hlt := World.block_lt_of_cell? w ⟨wb, 0, none⟩ hc
  have hl := hk.len
  have hts := hfit.1
  have hg0 := fun o => grownBy_alloc w o (some wb)
  have HBX := Lib.hid (fun T => boxK_new w e.kind e.text e.num a e.kids.length c T)
  have HF := Lib.hid hFw
  clear hk hfit hFw
  have HC : Hid (∀ o, (w.alloc o).cell? ⟨wb, 0, none⟩ = some (.int .i64 m) ∧ (w.alloc o).frozen? ⟨wb, 0, none⟩ = false) := fun o =>
    ⟨((grownBy_alloc w o none).cell_far ⟨wb, 0, none⟩ hlt (by simp)).trans hc, ((grownBy_alloc w o none).frozen_far ⟨wb, 0, none⟩ hlt (by simp)).trans hz⟩
  go_enter Tryz.func117, Tryz.ntmps117
  go_wp2_with fail
  refine (countCall wb e a c m _ (HC.out _).1 (HC.out _).2 hm).mono ?_
  rintro x w2 ⟨rfl, hg2, hc2, hz2⟩
  have BX : BoxK w e.kind e.text e.num a e.kids.length c w2 ∨ True := .inr trivial
  have hcells : w2.cell? ⟨w.heap.size, 0, none⟩ = some (.int .i64 e.kind) ∧ w2.cell? ⟨w.heap.size, 1, none⟩ = some (.string e.text) ∧ w2.cell? ⟨w.heap.size, 2, none⟩ = some (.int .i64 e.num) ∧ w2.cell? ⟨w.heap.size, 3, none⟩ = some (.slice a e.kids.length c) := by
    obtain ⟨q0, q1, q2, q3, q4, _⟩ := HBX.out 66
    have e' := cell_grown hg2 q0 (fun h => by have := Option.some.inj h; omega)
    exact ⟨(e' _).trans q1, (e' _).trans q2, (e' _).trans q3, (e' _).trans q4⟩
  obtain ⟨b0, b1, b2, b3⟩ := hcells
  have HG2 := Lib.hid ((hg0 _).trans hg2)
  have HF2 := Lib.hid ((HF.out.grown (hg0 (.cells #[.int .i64 e.kind, .string e.text, .int .i64 e.num, .slice a e.kids.length c] 66)) hwb).grown hg2 hwb)
  clear hg2 BX hg0
  by_cases h40 : m + 1 ≤ 40
  · have hd : decide (40 < ((m + 1 : Nat) : Int)) = false := by simp; omega
    have hd2 : decide (m + 1 ≤ 40) = true := decide_eq_true h40
    cases hck : chkE e with
    | true =>
      have HCK := Lib.hid (show node1 e.kind e.text e.num e.kids.length = true from hck)
      clear hck
      go_wp2_with fail
      refine (implNodeOk e.kind e.text e.num a e.kids.length c _ HF2.out hts hl true HCK.out).mono ?_
      rintro x w3 ⟨rfl, hb3⟩
      have HB3 := Lib.hid hb3
      clear hb3
      go_wp2_with fail
      refine bodyPost_end (results_none rfl _ _ _) rfl ?_
      have hlt2 : wb < w2.heap.size := Nat.lt_of_lt_of_le hlt HG2.out.size
      have hb3 := HB3.out
      exact ⟨HG2.out.trans ⟨hb3.os, hb3.tape, hb3.output, hb3.size, fun k hk _ => hb3.block k hk⟩, (hb3.cell (p := ⟨wb, 0, none⟩) hlt2).trans hc2, (hb3.frozen (p := ⟨wb, 0, none⟩) hlt2).trans hz2, by rw [show chkE e = true from HCK.out]; first | rfl | (rw [hd2]; rfl)⟩
    | false =>
      have HCK := Lib.hid (show node1 e.kind e.text e.num e.kids.length = false from hck)
      clear hck
      go_wp2_with fail
      refine (implNodeOk e.kind e.text e.num a e.kids.length c _ HF2.out hts hl false HCK.out).mono ?_
      rintro x w3 ⟨rfl, hb3⟩
      have HB3 := Lib.hid hb3
      clear hb3
      go_wp2_with fail
      have hlt2 : wb < w2.heap.size := Nat.lt_of_lt_of_le hlt HG2.out.size
      have hb3 := HB3.out
      exact ⟨rfl, HG2.out.trans ⟨hb3.os, hb3.tape, hb3.output, hb3.size, fun k hk _ => hb3.block k hk⟩, (hb3.cell (p := ⟨wb, 0, none⟩) hlt2).trans hc2, (hb3.frozen (p := ⟨wb, 0, none⟩) hlt2).trans hz2, by rw [show chkE e = false from HCK.out]; rfl⟩
  · have hd : decide (40 < ((m + 1 : Nat) : Int)) = true := by simp; omega
    have hd2 : decide (m + 1 ≤ 40) = false := decide_eq_false h40
    go_wp2_with fail
    exact ⟨rfl, HG2.out, hc2, hz2, by first | rfl | (rw [hd2, Bool.and_false]; rfl)⟩

theorem catchP (p : Addr) (x : Bool) (u : TypeId) (pv : Value) (older : List PanicEntry) (w : World) (hc : w.cell? p = some (.bool x)) (hz : w.frozen? p = false) :
    CallsD Tryz.prog 115 #[.pointer (some p)] (.panicking ({ v := .iface u pv, recovered := false } :: older)) w fun e u' w' =>
      e = .returned (.tuple #[]) ∧ u' = .panicking ({ v := .iface u pv, recovered := true } :: older) ∧ w' = w.setCell p (.bool false) := by
  refine callsD_of_wpS Tryz.func115 rfl fun c₀ cs hu => ?_
  apply wpS_seq
  apply wpS_region
  simp [wpOpsS, go_sem, recoverD, hu, Tryz.ntmps115, Exit.thenS]
  refine wpS_cond (t := true) (by simp [Act.eval, Array.replicate]) ?_
  simp only [if_true]
  apply wpS_region
  simp [wpOpsS, go_sem, hc, hz, bodyPostS, results, Tryz.results115]

theorem catchI (p : Addr) (w : World) :
    CallsD Tryz.prog 115 #[.pointer (some p)] .returning w fun e u' w' => e = .returned (.tuple #[]) ∧ u' = .returning ∧ w' = w := by
  refine callsD_of_wpS Tryz.func115 rfl fun c₀ cs hu => ?_
  apply wpS_seq
  apply wpS_region
  simp [wpOpsS, go_sem, recoverD, hu, Tryz.ntmps115, Exit.thenS]
  refine wpS_cond (t := false) (by simp [Act.eval, Array.replicate]) ?_
  simp only [Bool.false_eq_true, if_false]
  refine wpS_of_wp (wp_skip ?_)
  cases c₀
  simp_all [bodyPostS, results, Tryz.results115]

set_option maxRecDepth 100000 in
set_option maxHeartbeats 2000000 in
theorem implExprOk (e : Ex) (a : Option Addr) (c d : Nat) (w : World) (hF : FormsAt w) (hfit : e.fit) (hk : KidsAt w d a c e.kids) (hn : e.nodes ≤ 1073741824) (v : Bool) (hv : (decide (e.nodes ≤ 40) && shapeE e) = v) :
    Calls Tryz.prog 75 #[.agg #[.int .i64 e.kind, .string e.text, .int .i64 e.num, .slice a e.kids.length c]] w fun x w' => x = .returned (.bool v) ∧ Below w.heap.size w w' := by
  have hmf : ∀ (fn : Fn) (first cap : Array Value) (w : World), (Instr.makeFunc fn first cap).run Tryz.prog w = .ok (.func fn first cap) w := fun _ _ _ _ => rfl
  have hGlt := hF.1
  have HB : Hid (∀ o1 o2 o3 W, W = ((w.alloc o1).alloc o2).alloc o3 → Below w.heap.size w W) := by
    intro o1 o2 o3 W hW
    subst hW; exact (((Below.refl _ _).alloc (Nat.le_refl _) _).alloc (by simp) _).alloc (by simp; omega) _
  have HK : Hid (∀ o1 o2 o3 W, W = ((w.alloc o1).alloc o2).alloc o3 → KidsQ (fun b => b ≠ w.heap.size + 2) W d a c e.kids ∧ FormsAt W) := by
    intro o1 o2 o3 W hW
    have hb := HB.out o1 o2 o3 W hW
    exact ⟨(hk.q.agree hb.size fun b h _ o => hb.cell (p := ⟨b, o, none⟩) h).imp fun b h _ => by omega, hF.below hb hGlt⟩
  have HV : Hid ((e.all chkE && decide (0 + e.nodes ≤ 40)) = v) := by unfold Hid; rw [all_shape, Nat.zero_add, Bool.and_comm]; exact hv
  clear hk hF hv
  go_enter_defers Tryz.func75, Tryz.ntmps75
  go_wp2_with fail
  refine (eachCheck (checkSees (w.heap.size + 2) (by omega)) e a c d 0 _ (fun w' hg => (HK.out _ _ _ _ rfl).2.grown hg (by omega)) hfit (HK.out _ _ _ _ rfl).1 (by simp) (by simp [go_sem]) (by simp [go_sem]) (by omega)).mono ?_
  rintro x w2 ⟨hg, rfl, _⟩
  rw [HV.out]
  have hbox : w2.cell? ⟨w.heap.size + 1, 0, none⟩ = some (.bool false) ∧ w2.frozen? ⟨w.heap.size + 1, 0, none⟩ = false := by
    refine ⟨(cell_grown hg (b := w.heap.size + 1) (by simp) (fun h => by have := Option.some.inj h; omega) 0).trans (by simp [go_sem]), (hg.frozen_far ⟨w.heap.size + 1, 0, none⟩ (by simp) (fun h => by have := Option.some.inj h; simp only at this; omega)).trans (by simp [go_sem])⟩
  obtain ⟨hbx, hbz⟩ := hbox
  have HB2 : Hid (Below w.heap.size w w2) := by
    refine Below.trans (HB.out _ _ _ _ rfl) ⟨hg.os, hg.tape, hg.output, hg.size, fun k hk => hg.block k ?_ ?_⟩
    · simp; omega
    · intro h; have := Option.some.inj h; omega
  clear hg
  cases v with
  | true =>
    simp only [SeeX, if_true]
    go_wp2_with fail
    refine leaves_cons (f := 115) (args := #[.pointer (some ⟨w.heap.size + 1, 0, none⟩)]) (by simp) (by simp [go_sem]) ?_
    refine (catchI ⟨w.heap.size + 1, 0, none⟩ _).mono ?_
    rintro e u' w'' ⟨rfl, rfl, rfl⟩
    simp [Leaves, settle, results, Tryz.results75, go_sem, hbx]
    exact HB2.out.setCell (p := ⟨w.heap.size + 1, 0, none⟩) (by simp) _
  | false =>
    simp only [SeeX, Bool.false_eq_true, if_false, noPanic]
    go_wp2_with fail
    refine leaves_cons (f := 115) (args := #[.pointer (some ⟨w.heap.size + 1, 0, none⟩)]) (by simp) (by simp [go_sem]) ?_
    refine (catchP ⟨w.heap.size + 1, 0, none⟩ false 9 _ [] _ hbx hbz).mono ?_
    rintro e u' w'' ⟨rfl, rfl, rfl⟩
    simp [Leaves, settle, results, Tryz.results75, go_sem, hbx]
    exact HB2.out.setCell (p := ⟨w.heap.size + 1, 0, none⟩) (by simp) _

end Go.Proofs.YtpdcmmhhgnackaaGreatDoor

namespace Go.Proofs.YtpdcmmhhgnackaaGreatDoor
open Go.RowKit

theorem okX1 (d : Nat) (vs : List Value) (x : Ex) (w : World) (hR : RE d 0 w vs x) (hJ : FormsAt w) (hq : x.wt ≤ 1048576) :
    Calls Tryz.prog 75 #[.agg vs.toArray] w fun e w' => e = .returned (.bool (okX x)) ∧ Below w.heap.size w w' := by
  obtain ⟨a0, c0, rfl, hfit, hk⟩ := hR
  exact implExprOk x a0 c0 d w hJ hfit hk.at (by have := nodes_wt x; omega) _ rfl

set_option maxRecDepth 100000 in
set_option maxHeartbeats 1000000 in
theorem notX (d : Nat) (vs : List Value) (x : Ex) (nb : Nat) (w : World) (hR : (RE d) 0 w vs x) (hJ : FormsAt w) (hq : x.wt ≤ 1048576) (hnb : w.cell? ⟨nb, 0, none⟩ = some (.func (.func 75) #[] #[])) (hlt : nb < w.heap.size) :
    Calls Tryz.prog 137 #[.agg vs.toArray, .pointer (some ⟨nb, 0, none⟩)] w fun e w' => e = .returned (.bool (!okX x)) ∧ Below w.heap.size w w' := by
  have HO := Lib.hid (fun w2 (hb : Below w.heap.size w w2) => okX1 d vs x w2 ((goodRE d).kept hR (Kept.below hb)) (hJ.call hb) hq)
  obtain ⟨a0, c0, rfl, _⟩ := hR
  have QN := Lib.hid ((World.cell?_alloc_lt w (.cells [.int .i64 x.kind, .string x.text, .int .i64 x.num, .slice a0 x.kids.length c0].toArray 66) ⟨nb, 0, none⟩ hlt).trans hnb)
  clear hJ
  go_enter Tryz.func137, Tryz.ntmps137
  go_wp2_with fail
  refine (HO.out _ (by ((repeat (first | refine Below.alloc ?_ (by first | omega | (simp; done) | (simp; omega)) _ | refine Below.setCell ?_ (by first | omega | (simp; done) | (simp; omega)) _)); first | exact Below.refl _ _ | exact Below.refl _ _))).mono ?_
  rintro e w2 ⟨rfl, b2⟩
  have B2 := Lib.hid (show Below w.heap.size w w2 from Below.call b2 (by ((repeat (first | refine Below.alloc ?_ (by first | omega | (simp; done) | (simp; omega)) _ | refine Below.setCell ?_ (by first | omega | (simp; done) | (simp; omega)) _)); first | exact Below.refl _ _ | exact Below.refl _ _)))
  clear b2
  go_wp2_with fail
  go_ret
  exact ⟨rfl, B2.out⟩

set_option maxRecDepth 100000 in
set_option maxHeartbeats 2000000 in
theorem idxX (d : Nat) (a : Option Addr) (c : Nat) (xs : List Ex) (nb : Nat) (w : World) (hx : Sl 4 (RE d) 0 w a c xs) (hJ : FormsAt w) (hq : ∀ x ∈ xs, x.wt ≤ 1048576) (hnb : w.cell? ⟨nb, 0, none⟩ = some (.func (.func 75) #[] #[])) (hlt0 : nb < w.heap.size) :
    Calls Tryz.prog 148 #[.slice a xs.length c, .func (.func 137) #[] #[.pointer (some ⟨nb, 0, none⟩)]] w fun e w' =>
      ∃ r : Int, e = .returned (.int .i64 r) ∧ Hid (decide (0 ≤ r) = !xs.all okX) ∧ Below w.heap.size w w' := by
  have hl := hx.len
  have HX := Lib.hid (fun w' (hb : Below w.heap.size w w') => hx.kept (goodRE d) (Kept.below hb))
  have HJ := Lib.hid (fun w' (hb : Below w.heap.size w w') => hJ.call hb)
  have HN := Lib.hid (fun w' (hb : Below w.heap.size w w') => (And.intro ((hb.cell (p := ⟨nb, 0, none⟩) hlt0).trans hnb) (Nat.lt_of_lt_of_le hlt0 hb.size)))
  have HQ := Lib.hid hq
  clear hx hJ hq
  go_enter Tryz.func148, Tryz.ntmps148
  go_wp2
  go_loopw [8] (fun i wr => ∃ k : Nat, k ≤ xs.length ∧ i = .int .i64 k ∧ Hid (∀ m (hm : m < xs.length), m < k → okX xs[m] = true) ∧ Below w.heap.size w wr) (fun i _ => xs.length - (intOf i).toNat)
  case atStart => exact ⟨0, Nat.zero_le _, rfl, fun m h hm => absurd hm (by omega), Below.refl _ _⟩
  case round =>
    obtain ⟨k, hk, rfl, hall, hb⟩ := hrel
    by_cases hlt : k < xs.length
    · obtain ⟨b, off, vs, rfl, hbl, hcs, hR⟩ := (HX.out _ hb).spot hlt
      obtain ⟨hn1, hn2⟩ := HN.out _ hb
      have HR := hR
      obtain ⟨a0, c0, rfl, _⟩ := hR
      have hc0 : wr.cell? ⟨b, off + k * 4, none⟩ = some (.int .i64 xs[k].kind) := hcs 0 (by simp)
      have hc1 : wr.cell? ⟨b, off + k * 4 + 1, none⟩ = some (.string xs[k].text) := hcs 1 (by simp)
      have hc2 : wr.cell? ⟨b, off + k * 4 + 2, none⟩ = some (.int .i64 xs[k].num) := hcs 2 (by simp)
      have hc3 : wr.cell? ⟨b, off + k * 4 + 3, none⟩ = some (.slice a0 xs[k].kids.length c0) := hcs 3 (by simp)
      have HK := Lib.hid HR
      clear HR hcs
      go_wp2_with fail
      refine (notX d _ xs[k] nb _ HK.out (HJ.out _ hb) (HQ.out _ (List.getElem_mem hlt)) hn1 hn2).mono ?_
      rintro e w2 ⟨rfl, hb2⟩
      have HB2 := Lib.hid (hb.trans (hb2.mono hb.size))
      clear hb2
      cases he : okX xs[k] with
      | false =>
        have HE := Lib.hid (all_hit okX xs k hlt he)
        clear he
        go_wp2_with fail
        go_ret
        exact ⟨k, rfl, by unfold Hid; rw [HE.out]; simp, HB2.out⟩
      | true =>
        have HE := Lib.hid he
        clear he
        go_wp2_with fail
        go_roundw
        case rel => exact ⟨k + 1, by omega, by go_num, fun m hm h1 => by
          rcases Nat.lt_or_ge m k with h2 | h2
          · exact hall.out m hm h2
          · obtain rfl : m = k := by omega
            exact HE.out, HB2.out⟩
        case measure => simp [intOf]; omega
    · have HE := Lib.hid (all_miss okX xs fun m hm => hall.out m hm (by omega))
      go_wp2_with fail
      go_ret
      exact ⟨-1, rfl, by unfold Hid; rw [HE.out]; rfl, hb⟩

set_option maxHeartbeats 1000000 in
theorem contX (d : Nat) (a : Option Addr) (c : Nat) (xs : List Ex) (nb : Nat) (w : World) (hx : Sl 4 (RE d) 0 w a c xs) (hJ : FormsAt w) (hq : ∀ x ∈ xs, x.wt ≤ 1048576) (hnb : w.cell? ⟨nb, 0, none⟩ = some (.func (.func 75) #[] #[])) (hlt0 : nb < w.heap.size) :
    Calls Tryz.prog 136 #[.slice a xs.length c, .func (.func 137) #[] #[.pointer (some ⟨nb, 0, none⟩)]] w fun e w' =>
      e = .returned (.bool (!xs.all okX)) ∧ Below w.heap.size w w' := by
  have HC := Lib.hid (idxX d a c xs nb w hx hJ hq hnb hlt0)
  clear hx hJ hq hnb
  go_enter Tryz.func136, Tryz.ntmps136
  go_wp2_with fail
  refine HC.out.mono ?_
  rintro e w2 ⟨r, rfl, hr, b2⟩
  have B2 := Lib.hid b2
  clear b2
  go_wp2_with fail
  go_ret
  exact ⟨by rw [← hr.out]; rfl, B2.out⟩

set_option maxHeartbeats 1000000 in
theorem everyX (d : Nat) (a : Option Addr) (c : Nat) (xs : List Ex) (w : World) (hx : Sl 4 (RE d) 0 w a c xs) (hJ : FormsAt w) (hq : ∀ x ∈ xs, x.wt ≤ 1048576) (v : Bool) (hv : xs.all okX = v) :
    Calls Tryz.prog 114 #[.slice a xs.length c, .func (.func 75) #[] #[]] w fun e w' => e = .returned (.bool v) ∧ Below w.heap.size w w' := by
  have hmf : ∀ (fn : Fn) (first cap : Array Value) (w : World), (Instr.makeFunc fn first cap).run Tryz.prog w = .ok (.func fn first cap) w := fun _ _ _ _ => rfl
  have HX := Lib.hid (fun w' (hb : Below w.heap.size w w') => And.intro (hx.kept (goodRE d) (Kept.below hb)) (hJ.call hb))
  have HQ := Lib.hid hq
  have HV := Lib.hid hv
  clear hx hJ hq hv
  go_enter Tryz.func114, Tryz.ntmps114
  go_wp2_with fail
  refine (contX d a c xs w.heap.size _ (HX.out _ (by ((repeat (first | refine Below.alloc ?_ (by first | omega | (simp; done) | (simp; omega)) _ | refine Below.setCell ?_ (by first | omega | (simp; done) | (simp; omega)) _)); first | exact Below.refl _ _ | exact Below.refl _ _))).1 (HX.out _ (by ((repeat (first | refine Below.alloc ?_ (by first | omega | (simp; done) | (simp; omega)) _ | refine Below.setCell ?_ (by first | omega | (simp; done) | (simp; omega)) _)); first | exact Below.refl _ _ | exact Below.refl _ _))).2 HQ.out (by simp [go_sem]) (by simp)).mono ?_
  rintro e w2 ⟨rfl, b2⟩
  have B2 := Lib.hid (show Below w.heap.size w w2 from Below.call b2 (by ((repeat (first | refine Below.alloc ?_ (by first | omega | (simp; done) | (simp; omega)) _ | refine Below.setCell ?_ (by first | omega | (simp; done) | (simp; omega)) _)); first | exact Below.refl _ _ | exact Below.refl _ _)))
  clear b2
  go_wp2_with fail
  go_ret
  exact ⟨by rw [HV.out]; cases v <;> rfl, B2.out⟩

set_option maxHeartbeats 1000000 in
theorem fitsX (d : Nat) (a : Option Addr) (c : Nat) (xs : List Ex) (lo hi : Int) (w : World) (hx : Sl 4 (RE d) 0 w a c xs) (hJ : FormsAt w) (hq : ∀ x ∈ xs, x.wt ≤ 1048576) (v : Bool) (hv : (inI xs.length lo hi && xs.all okX) = v) :
    Calls Tryz.prog 74 #[.slice a xs.length c, .agg #[.int .i64 lo, .int .i64 hi], .func (.func 75) #[] #[]] w fun e w' => e = .returned (.bool v) ∧ Below w.heap.size w w' := by
  have hl := hx.len
  have HE := Lib.hid (fun w' (hb : Below w.heap.size w w') => everyX d a c xs w' (hx.kept (goodRE d) (Kept.below hb)) (hJ.call hb) hq _ rfl)
  clear hx hJ hq
  cases h1 : inI xs.length lo hi with
  | false =>
    have HV : Hid (v = false) := by unfold Hid; rw [← hv, h1]; rfl
    have HI := Lib.hid h1
    clear hv h1
    go_enter Tryz.func74, Tryz.ntmps74
    go_wp2_with fail
    refine (spanAllows lo hi xs.length _ false HI.out).mono ?_
    rintro e w1 ⟨rfl, b1⟩
    have B1 := Lib.hid (show Below w.heap.size w w1 from Below.call b1 (by ((repeat (first | refine Below.alloc ?_ (by first | omega | (simp; done) | (simp; omega)) _ | refine Below.setCell ?_ (by first | omega | (simp; done) | (simp; omega)) _)); first | exact Below.refl _ _ | exact Below.refl _ _)))
    clear b1
    go_wp2_with fail
    go_ret
    exact ⟨by rw [HV.out] <;> rfl, B1.out⟩
  | true =>
    have HV : Hid (xs.all okX = v) := by unfold Hid; rw [← hv, h1]; rfl
    have HI := Lib.hid h1
    clear hv h1
    go_enter Tryz.func74, Tryz.ntmps74
    go_wp2_with fail
    refine (spanAllows lo hi xs.length _ true HI.out).mono ?_
    rintro e w1 ⟨rfl, b1⟩
    have B1 := Lib.hid (show Below w.heap.size w w1 from Below.call b1 (by ((repeat (first | refine Below.alloc ?_ (by first | omega | (simp; done) | (simp; omega)) _ | refine Below.setCell ?_ (by first | omega | (simp; done) | (simp; omega)) _)); first | exact Below.refl _ _ | exact Below.refl _ _)))
    clear b1
    go_wp2_with fail
    refine (HE.out _ B1.out).mono ?_
    rintro e w2 ⟨rfl, b2⟩
    have B2 := Lib.hid (show Below w.heap.size w w2 from Below.call b2 B1.out)
    clear b2
    go_wp2_with fail
    go_ret
    exact ⟨by rw [HV.out] <;> rfl, B2.out⟩

end Go.Proofs.YtpdcmmhhgnackaaGreatDoor
