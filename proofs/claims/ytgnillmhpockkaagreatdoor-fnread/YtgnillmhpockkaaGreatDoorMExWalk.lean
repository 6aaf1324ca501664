/- impl.eachNode: a walk over all nodes of an expression, for any function that sees them. -/
/- impl.eachNode with (*impl.nodeWalk).count. -/
/- impl.Nodes counts the nodes. -/
/- The program's reader of expressions: operator. -/
/- The program's reader of expressions: operator. -/
/- The draws: a cursor over bytes; what it draws is within bounds, and it turns its own block alone. -/
/- A pick out of a list of texts that the call lays. -/
import Derived.Test.YtgnillmhpockkaaGreatDoorMExprF
import Derived.Deep.RegionHeld3
import Derived.Deep.Light
import Derived.Deep.Upon
import Derived.Test.YtgnillmhpockkaaGreatDoorMMem
namespace Go.Proofs.YtgnillmhpockkaaGreatDoor
open Go.RowKit

/-- As KidsAt, and every block of the tree is one of q. -/
def KidsQ (q : Nat → Prop) (w : World) : Nat → Option Addr → Nat → List Ex → Prop
  | 0, _, _, _ => False
  | d + 1, a, c, kids => kids.length ≤ c ∧ c ≤ maxLen ∧ (a = none → c = 0) ∧
    (0 < kids.length → ∃ b off, a = some ⟨b, off, none⟩ ∧ q b ∧ b < w.heap.size ∧ ∀ (i : Nat) (h : i < kids.length), At1 w b (off + i * 4) kids[i] (fun a' c' => KidsQ q w d a' c' kids[i].kids))

theorem KidsQ.agree {q : Nat → Prop} {w w' : World} (hs : w.heap.size ≤ w'.heap.size) (hc : ∀ b, q b → b < w.heap.size → ∀ o, w'.cell? ⟨b, o, none⟩ = w.cell? ⟨b, o, none⟩) :
    ∀ {d : Nat} {a : Option Addr} {c : Nat} {kids : List Ex}, KidsQ q w d a c kids → KidsQ q w' d a c kids
  | 0, _, _, _, h => h
  | d + 1, a, c, kids, h => by
    obtain ⟨h1, h2, h3, h4⟩ := h
    refine ⟨h1, h2, h3, fun hp => ?_⟩
    obtain ⟨b, off, ha, hlo, hlt, hcs⟩ := h4 hp
    refine ⟨b, off, ha, hlo, Nat.lt_of_lt_of_le hlt hs, fun i hi => ?_⟩
    obtain ⟨c1, c2, c3, hf, a', c', c4, hk⟩ := hcs i hi
    have e := hc b hlo hlt
    exact ⟨(e _).trans c1, (e _).trans c2, (e _).trans c3, hf, a', c', (e _).trans c4, KidsQ.agree hs hc hk⟩

theorem KidsQ.imp {q q' : Nat → Prop} {w : World} (hq : ∀ b, q b → b < w.heap.size → q' b) : ∀ {d : Nat} {a : Option Addr} {c : Nat} {kids : List Ex}, KidsQ q w d a c kids → KidsQ q' w d a c kids
  | 0, _, _, _, h => h
  | d + 1, a, c, kids, h => by
    obtain ⟨h1, h2, h3, h4⟩ := h
    refine ⟨h1, h2, h3, fun hp => ?_⟩
    obtain ⟨b, off, ha, hlo, hlt, hcs⟩ := h4 hp
    exact ⟨b, off, ha, hq b hlo hlt, hlt, fun i hi => (hcs i hi).mono fun a' c' hk => KidsQ.imp hq hk⟩

theorem KidsAt.q {w : World} : ∀ {d : Nat} {a : Option Addr} {c : Nat} {kids : List Ex}, KidsAt w d a c kids → KidsQ (fun b => b < w.heap.size) w d a c kids
  | 0, _, _, _, h => h
  | d + 1, a, c, kids, h => by
    obtain ⟨h1, h2, h3, h4⟩ := h
    refine ⟨h1, h2, h3, fun hp => ?_⟩
    obtain ⟨b, off, ha, hlt, hcs⟩ := h4 hp
    exact ⟨b, off, ha, hlt, hlt, fun i hi => (hcs i hi).mono fun a' c' hk => hk.q⟩

theorem KidsQ.at {q : Nat → Prop} {w : World} : ∀ {d : Nat} {a : Option Addr} {c : Nat} {kids : List Ex}, KidsQ q w d a c kids → KidsAt w d a c kids
  | 0, _, _, _, h => h
  | d + 1, a, c, kids, h => by
    obtain ⟨h1, h2, h3, h4⟩ := h
    refine ⟨h1, h2, h3, fun hp => ?_⟩
    obtain ⟨b, off, ha, _, hlt, hcs⟩ := h4 hp
    exact ⟨b, off, ha, hlt, fun i hi => (hcs i hi).mono fun a' c' hk => hk.at⟩

theorem KidsQ.spot {q : Nat → Prop} {w : World} {d : Nat} {a : Option Addr} {c : Nat} {kids : List Ex} (h : KidsQ q w (d + 1) a c kids) {i : Nat} (hi : i < kids.length) :
    ∃ b off, a = some ⟨b, off, none⟩ ∧ q b ∧ b < w.heap.size ∧ At1 w b (off + i * 4) kids[i] (fun a' c' => KidsQ q w d a' c' kids[i].kids) := by
  obtain ⟨_, _, _, h4⟩ := h
  obtain ⟨b, off, ha, hq, hlt, hc⟩ := h4 (by omega)
  exact ⟨b, off, ha, hq, hlt, hc i hi⟩

mutual
/-- Every node is right. -/
def Ex.all (chk : Ex → Bool) : Ex → Bool
  | .mk k t n kids => chk (.mk k t n kids) && allL chk kids
def allL (chk : Ex → Bool) : List Ex → Bool
  | [] => true
  | e :: r => e.all chk && allL chk r
end

theorem Ex.all_eq (chk : Ex → Bool) (e : Ex) : e.all chk = (chk e && allL chk e.kids) := by
  cases e; rw [Ex.all]; rfl

theorem allL_drop (chk : Ex → Bool) (l : List Ex) (k : Nat) (h : k < l.length) : allL chk (l.drop k) = (l[k].all chk && allL chk (l.drop (k + 1))) := by
  rw [List.drop_eq_getElem_cons h, allL]

theorem nodesL_drop (l : List Ex) (k : Nat) (h : k < l.length) : nodesL (l.drop k) = l[k].nodes + nodesL (l.drop (k + 1)) := by
  rw [List.drop_eq_getElem_cons h, nodesL]

/-- A list of kids that waits. -/
structure Pd where
  a : Option Addr
  c : Nat
  kids : List Ex

def Pd.v (p : Pd) : Value := .slice p.a p.kids.length p.c
def sumP (ps : List Pd) : Nat := (ps.map fun p => nodesL p.kids).sum
def allP (chk : Ex → Bool) (ps : List Pd) : Bool := ps.all fun p => allL chk p.kids

theorem sumP_snoc (ps : List Pd) (p : Pd) : sumP (ps ++ [p]) = sumP ps + nodesL p.kids := by simp [sumP]
theorem allP_snoc (chk : Ex → Bool) (ps : List Pd) (p : Pd) : allP chk (ps ++ [p]) = (allP chk ps && allL chk p.kids) := by simp [allP]

theorem nodesL_len : (l : List Ex) → l.length ≤ nodesL l
  | [] => by simp [nodesL]
  | e :: r => by rw [nodesL, List.length_cons]; have := nodesL_len r; have := Ex.nodes_eq e; omega

theorem sumP_len (ps : List Pd) (h : ∀ p ∈ ps, 0 < p.kids.length) : ps.length ≤ sumP ps := by
  induction ps with
  | nil => simp
  | cons p r ih =>
    have h1 := h p (List.mem_cons_self ..)
    have h2 := nodesL_len p.kids
    have h3 := ih fun q hq => h q (List.mem_cons_of_mem _ hq)
    simp only [sumP, List.map_cons, List.sum_cons, List.length_cons] at h3 ⊢
    omega

def SeeX (good : Bool) (pc : List PanicEntry) : Ending := if good then .returned (.tuple #[]) else .panicked pc

/-- How a function sees one node: it counts in the cell of block wb, and panics with pv where the node is not right. -/
def Sees (J : World → Prop) (k wb : Nat) (chk : Ex → Bool) (lim : Nat) (pc : List PanicEntry) : Prop := ∀ (e : Ex) (a : Option Addr) (c d m : Nat) (w : World), J w → e.fit → KidsAt w d a c e.kids →
  w.cell? ⟨wb, 0, none⟩ = some (.int .i64 m) → w.frozen? ⟨wb, 0, none⟩ = false → m ≤ 1073741824 →
  Calls Tryz.prog k #[.pointer (some ⟨wb, 0, none⟩), .agg #[.int .i64 e.kind, .string e.text, .int .i64 e.num, .slice a e.kids.length c]] w fun x w' =>
    w.grownBy w' (some wb) ∧ w'.cell? ⟨wb, 0, none⟩ = some (.int .i64 (m + 1 : Nat)) ∧ w'.frozen? ⟨wb, 0, none⟩ = false ∧
    x = SeeX (chk e && decide (m + 1 ≤ lim)) pc

/-- What a walk over all nodes answers. -/
def EachP (w : World) (wb : Nat) (chk : Ex → Bool) (lim : Nat) (pc : List PanicEntry) (e : Ex) (m : Nat) (x : Ending) (w' : World) : Prop :=
  w.grownBy w' (some wb) ∧ x = SeeX (e.all chk && decide (m + e.nodes ≤ lim)) pc ∧ (e.all chk = true → m + e.nodes ≤ lim → w'.cell? ⟨wb, 0, none⟩ = some (.int .i64 (m + e.nodes : Nat)))

theorem Tryz.infoKidsS : (Tryz.prog.info? 30).map (fun i => (i.zero, i.size, i.bytes)) = some (some (.slice none 0 0), 1, 24) := by kernel_rfl

/-- Where the trees lie that the walk reads. -/
def InQ (w : World) (wb b : Nat) : Prop := b = w.heap.size + 1 ∨ (b < w.heap.size ∧ b ≠ wb)

/-- What waits, and what has been counted. -/
structure WInv (w : World) (wb : Nat) (ps : List Pd) (v : Value) (mm : Nat) (wr : World) : Prop where
  row : wr.ownsRow (w.heap.size + 2) 30 1 v ps.length (ps.map Pd.v)
  kids : ∀ p ∈ ps, 0 < p.kids.length ∧ ∃ d, KidsQ (InQ w wb) wr d p.a p.c p.kids
  grown : w.grownBy wr (some wb)
  size : w.heap.size + 2 < wr.heap.size
  lt : wb < w.heap.size
  cell : wr.cell? ⟨wb, 0, none⟩ = some (.int .i64 mm)
  frozen : wr.frozen? ⟨wb, 0, none⟩ = false

theorem cell_grown {w w' : World} {row : Option Nat} (hg : w.grownBy w' row) {b : Nat} (hb : b < w.heap.size) (hne : row ≠ some b) (o : Nat) : w'.cell? ⟨b, o, none⟩ = w.cell? ⟨b, o, none⟩ :=
  hg.cell_far ⟨b, o, none⟩ hb (fun h => hne h.symm)

theorem kids_grown {w wr w2 : World} {wb : Nat} {row : Option Nat} (hsz : w.heap.size + 2 < wr.heap.size) (hg : wr.grownBy w2 row) (hrow : ∀ b, row = some b → b = wb ∨ w.heap.size + 2 ≤ b) (hwb : wb < w.heap.size) {d : Nat} {a : Option Addr} {c : Nat} {kids : List Ex}
    (h : KidsQ (InQ w wb) wr d a c kids) : KidsQ (InQ w wb) w2 d a c kids := by
  refine h.agree hg.size fun b hq hb o => cell_grown hg hb ?_ o
  intro e
  rcases hrow b e with h1 | h1
  · rcases hq with h2 | h2 <;> omega
  · rcases hq with h2 | h2 <;> omega

theorem WInv.next {w wr w2 : World} {wb mm mm' : Nat} {ps : List Pd} {v : Value} {row : Option Nat} (h : WInv w wb ps v mm wr) (hg : wr.grownBy w2 row) (hrow : row = none ∨ row = some wb) (hc : w2.cell? ⟨wb, 0, none⟩ = some (.int .i64 mm')) (hz : w2.frozen? ⟨wb, 0, none⟩ = false) : WInv w wb ps v mm' w2 := by
  have hl := h.lt
  refine ⟨h.row.kept hg ?_, fun p hp => ⟨(h.kids p hp).1, ?_⟩, ?_, Nat.lt_of_lt_of_le h.size hg.size, h.lt, hc, hz⟩
  · cases ho : v.ownBlock with
    | none => exact .inl rfl
    | some g =>
      right
      have := (h.row.lt g ho).1
      rcases hrow with rfl | rfl
      · simp
      · intro e; cases e; omega
  · obtain ⟨d, hk⟩ := (h.kids p hp).2
    exact ⟨d, kids_grown h.size hg (by rintro b rfl; rcases hrow with h1 | h1 <;> cases h1; exact .inl rfl) h.lt hk⟩
  · exact h.grown.andThen hg (by rintro j rfl; rcases hrow with h1 | h1 <;> cases h1; exact .inr rfl)

theorem WInv.alloc {w wr : World} {wb mm : Nat} {ps : List Pd} {v : Value} (h : WInv w wb ps v mm wr) (o : Obj) : WInv w wb ps v mm (wr.alloc o) := by
  have hlt : wb < wr.heap.size := Nat.lt_of_lt_of_le h.lt h.grown.size
  have hb : Below wr.heap.size wr (wr.alloc o) := (Below.refl _ _).alloc (Nat.le_refl _) o
  have hg : wr.grownBy (wr.alloc o) none := ⟨hb.os, hb.tape, hb.output, hb.size, fun k hk _ => hb.block k hk⟩
  exact h.next hg (.inl rfl) ((hg.cell_far ⟨wb, 0, none⟩ hlt (by simp)).trans h.cell) ((hg.frozen_far ⟨wb, 0, none⟩ hlt (by simp)).trans h.frozen)

theorem WInv.push {w wr w2 : World} {wb mm : Nat} {ps : List Pd} {v v' : Value} (h : WInv w wb ps v mm wr) (p : Pd) (hp : 0 < p.kids.length) {d : Nat} (hk : KidsQ (InQ w wb) wr d p.a p.c p.kids)
    (hrow : w2.ownsRow (w.heap.size + 2) 30 1 v' (ps.length + 1) (ps.map Pd.v ++ [p.v])) (hg : wr.grownBy w2 v.ownBlock) : WInv w wb (ps ++ [p]) v' mm w2 := by
  have hl := h.lt
  have hlt : wb < wr.heap.size := Nat.lt_of_lt_of_le h.lt h.grown.size
  have hown : ∀ b, v.ownBlock = some b → w.heap.size + 2 ≤ b := fun b hb => (h.row.lt b hb).1
  have hne : some wb ≠ v.ownBlock := fun e => by have := hown wb e.symm; omega
  refine ⟨by simpa using hrow, fun q hq => ?_, ?_, Nat.lt_of_lt_of_le h.size hg.size, h.lt, (hg.cell_far ⟨wb, 0, none⟩ hlt hne).trans h.cell, (hg.frozen_far ⟨wb, 0, none⟩ hlt hne).trans h.frozen⟩
  · rcases List.mem_append.1 hq with hq | hq
    · obtain ⟨d, hk⟩ := (h.kids q hq).2
      exact ⟨(h.kids q hq).1, d, kids_grown h.size hg (fun b hb => .inr (hown b hb)) h.lt hk⟩
    · rw [List.mem_singleton] at hq
      subst hq
      exact ⟨hp, d, kids_grown h.size hg (fun b hb => .inr (hown b hb)) h.lt hk⟩
  · exact h.grown.andThen hg fun j hj => .inl (by have := hown j hj; omega)

theorem WInv.form {w wr : World} {wb mm : Nat} {ps : List Pd} {v : Value} (h : WInv w wb ps v mm wr) : ∃ a c, v = .slice a ps.length c := by
  rcases h.row.2 with ⟨hv, hn⟩ | ⟨g, cap, cur, hv, _⟩
  · exact ⟨none, 0, by rw [hv, hn]⟩
  · exact ⟨_, _, hv⟩

theorem WInv.pop {w wr : World} {wb mm : Nat} {ps : List Pd} {p : Pd} {v : Value} (h : WInv w wb (ps ++ [p]) v mm wr) :
    ∃ g cap, v = .slice (some ⟨g, 0, none⟩) (ps.length + 1) cap ∧ ps.length + 1 ≤ cap ∧ cap ≤ maxLen ∧ wr.cell? ⟨g, ps.length, none⟩ = some p.v ∧ WInv w wb ps (.slice (some ⟨g, 0, none⟩) ps.length cap) mm wr ∧ 0 < p.kids.length ∧ ∃ d, KidsQ (InQ w wb) wr d p.a p.c p.kids := by
  obtain ⟨hp, hk⟩ := h.kids p (List.mem_append_right _ (List.mem_singleton.2 rfl))
  have hr := h.row
  rcases h.row.2 with ⟨_, hn⟩ | ⟨g, cap, cur, hv, hB, hg, hnc, hcm, hcs, ht⟩
  · simp at hn
  · subst hv
    refine ⟨g, cap, by simp, by simpa using hnc, hcm, ?_, ⟨?_, fun q hq => h.kids q (List.mem_append_left _ hq), h.grown, h.size, h.lt, h.cell, h.frozen⟩, hp, hk⟩
    · rw [hr.cellAt ps.length (by simp)]
      simp
    · refine ⟨by simp, .inr ⟨g, cap, cur, rfl, hB, hg, by simp at hnc; omega, hcm, hcs, ?_⟩⟩
      have := congrArg (List.take (ps.length * 1)) ht
      simpa [List.take_take, Nat.min_eq_left] using this

/-- One list put behind those that wait. -/
theorem wpPush {w wr : World} {wb mm : Nat} {ps : List Pd} {ops : Array Oper} {rest : List Oper} {o : Oper} {A : Act} {Q : Exit → Act → World → Prop} (hgd : o.guard = none) (s x : Operand)
    (ho : o.op = .call { callee := .builtin .append, args := #[s, x], argTypes := #[109, 109] }) (a0 : Option Addr) (c0 : Nat) (p : Pd) (d : Nat) (o1 : Obj)
    (hI : WInv w wb ps (.slice a0 ps.length c0) mm wr) (hp : 0 < p.kids.length) (hk : KidsQ (InQ w wb) wr d p.a p.c p.kids) (hn : ps.length + 1 ≤ 1073741824)
    (hs : A.eval s = .slice a0 ps.length c0) (hx : A.eval x = .slice (some ⟨wr.heap.size, 0, none⟩) 1 1) (ho1 : o1 = .cells #[.slice p.a p.kids.length p.c] 30)
    (h : ∀ a' c' w', Hid (WInv w wb (ps ++ [p]) (.slice a' (ps.length + 1) c') mm w' ∧ wr.grownBy w' (Value.slice a0 ps.length c0).ownBlock) → wpList Tryz.prog ops Q rest (A.put o.dst (.slice a' (ps.length + 1) c')) w') :
    wpList Tryz.prog ops Q (o :: rest) A (wr.alloc o1) := by
  subst ho1
  obtain ⟨i0, hi0, hz0, hz1, hz2⟩ := info_parts Tryz.infoKidsS
  have hI2 := hI.alloc (.cells #[.slice p.a p.kids.length p.c] 30)
  refine wpList_append_own_at _ hgd s x 109 ho (w.heap.size + 2) 30 i0 (.slice none 0 0) 1 24 Tryz.underlying109 hi0 hz0 hz1 hz2 rfl (by decide) (.slice a0 ps.length c0) ps.length (ps.map Pd.v) hs hI2.row
    ⟨wr.heap.size, 0, none⟩ 1 1 [p.v] hx rfl ?_ (fun u hu => by simp at hu; subst hu; rfl) (by unfold maxLen; omega) (by omega) (by have := hI2.size; omega) ?_
  · intro j u hu
    cases j with
    | zero => simp at hu; subst hu; simp [go_sem, Addr.add, Pd.v]
    | succ j => simp at hu
  · intro v' w' hown' hg _ _
    have hb : Below wr.heap.size wr (wr.alloc (.cells #[.slice p.a p.kids.length p.c] 30)) := (Below.refl _ _).alloc (Nat.le_refl _) _
    have hg0 : wr.grownBy (wr.alloc (.cells #[.slice p.a p.kids.length p.c] 30)) none := ⟨hb.os, hb.tape, hb.output, hb.size, fun k hk _ => hb.block k hk⟩
    have hk2 := kids_grown hI.size hg0 (by simp) hI.lt hk
    obtain ⟨a', c', rfl⟩ : ∃ a' c', v' = .slice a' (ps.length + 1) c' := by
      rcases hown'.2 with ⟨_, h0⟩ | ⟨g', cap, cur, rfl, _⟩
      · omega
      · exact ⟨_, _, rfl⟩
    exact h a' c' w' ⟨hI2.push p hp hk2 hown' hg, (hg0.but _).trans hg⟩

def cellN (wr : World) (wb : Nat) : Nat := match wr.cell? ⟨wb, 0, none⟩ with | some v => (intOf v).toNat | none => 0

theorem WInv.cellN {w wr : World} {wb mm : Nat} {ps : List Pd} {v : Value} (h : WInv w wb ps v mm wr) : cellN wr wb = mm := by
  unfold Go.Proofs.YtgnillmhpockkaaGreatDoor.cellN
  rw [h.cell]
  simp [intOf]

theorem WInv.start {w : World} {wb m : Nat} {e : Ex} {a : Option Addr} {c d : Nat} (hfit : e.fit) (hk : KidsQ (fun b => b ≠ wb) w d a c e.kids) (hwb : wb < w.heap.size) (hm : w.cell? ⟨wb, 0, none⟩ = some (.int .i64 m)) (hz : w.frozen? ⟨wb, 0, none⟩ = false) (o : Obj) {W : World}
    (hW : W = ((w.alloc o).alloc (.cells #[.int .i64 e.kind, .string e.text, .int .i64 e.num, .slice a e.kids.length c] 32)).alloc (.cells #[.slice (some ⟨w.heap.size + 1, 0, none⟩) 1 1] 30)) :
    WInv w wb [⟨some ⟨w.heap.size + 1, 0, none⟩, 1, [e]⟩] (.slice (some ⟨w.heap.size + 1 + 1, 0, none⟩) 1 1) m W := by
  have hb : Below w.heap.size w W := by
    subst hW
    exact (((Below.refl _ _).alloc (Nat.le_refl _) _).alloc (by simp) _).alloc (by simp; omega) _
  have hg : w.grownBy W none := ⟨hb.os, hb.tape, hb.output, hb.size, fun k hk _ => hb.block k hk⟩
  have hsz : W.heap.size = w.heap.size + 3 := by subst hW; simp
  refine ⟨?_, fun p hp => ?_, hg.but _, by omega, hwb, (hg.cell_far ⟨wb, 0, none⟩ hwb (by simp)).trans hm, (hg.frozen_far ⟨wb, 0, none⟩ hwb (by simp)).trans hz⟩
  · subst hW
    have := World.ownsRow_lit (base := w.heap.size + 2) (e := 30) (size := 1) ((w.alloc o).alloc (.cells #[.int .i64 e.kind, .string e.text, .int .i64 e.num, .slice a e.kids.length c] 32)) #[.slice (some ⟨w.heap.size + 1, 0, none⟩) 1 1] 1 (by simp) (by unfold maxLen; omega) rfl
    simpa [Pd.v] using this
  · rw [List.mem_singleton] at hp
    subst hp
    refine ⟨by simp, d + 1, by simp, by show 1 ≤ maxLen; unfold maxLen; omega, (fun h => by cases h), fun _ => ⟨w.heap.size + 1, 0, rfl, .inl rfl, by omega, fun i hi => ?_⟩⟩
    have : i = 0 := by simpa using hi
    subst this
    have hk' : KidsQ (InQ w wb) W d a c e.kids := (hk.imp (q' := InQ w wb) fun b h1 h2 => .inr ⟨h2, h1⟩).agree hb.size fun b _ h o => hb.cell (p := ⟨b, o, none⟩) h
    refine ⟨?_, ?_, ?_, hfit, a, c, ?_, hk'⟩ <;> subst hW <;> simp [go_sem]

end Go.Proofs.YtgnillmhpockkaaGreatDoor

namespace Go.Proofs.YtgnillmhpockkaaGreatDoor
open Go.RowKit

set_option maxHeartbeats 2000000 in
theorem eachCount {wb : Nat} {chk : Ex → Bool} {lim : Nat} {pc : List PanicEntry} {J : World → Prop} (hsee : Sees J 87 wb chk lim pc) (e : Ex) (a : Option Addr) (c d m : Nat) (w : World) (hJ : ∀ w', w.grownBy w' (some wb) → J w') (hfit : e.fit) (hk : KidsQ (fun b => b ≠ wb) w d a c e.kids)
    (hwb : wb < w.heap.size) (hm : w.cell? ⟨wb, 0, none⟩ = some (.int .i64 m)) (hz : w.frozen? ⟨wb, 0, none⟩ = false) (hn : m + e.nodes ≤ 1073741824) :
    Calls Tryz.prog 53 #[.agg #[.int .i64 e.kind, .string e.text, .int .i64 e.num, .slice a e.kids.length c], .func (.func 87) #[.pointer (some ⟨wb, 0, none⟩)] #[]] w (EachP w wb chk lim pc e m) := by
  obtain ⟨i0, hi0, hz0, hz1, hz2⟩ := info_parts Tryz.infoKidsS
  have HST := Lib.hid (WInv.start hfit hk hwb hm hz)
  clear hk hfit hm hz
  go_enter Tryz.func53, Tryz.ntmps53
  go_wp2_with fail
  go_loopw [4] (fun v wr => ∃ ps mm, WInv w wb ps v mm wr ∧ mm + sumP ps = m + e.nodes ∧ e.all chk = allP chk ps ∧ (m < mm → mm ≤ lim)) (fun _ wr => m + e.nodes - cellN wr wb)
  case atStart => exact ⟨_, m, HST.out _ rfl, by simp [sumP, nodesL], by simp [allP, allL], fun h => absurd h (Nat.lt_irrefl _)⟩
  case round =>
    obtain ⟨ps, mm, hI, hsum, hall, hlim⟩ := hrel
    rcases List.eq_nil_or_concat ps with rfl | ⟨qs, ⟨pa, pcp, pk⟩, rfl⟩
    · obtain ⟨a0, c0, rfl⟩ := hI.form
      have HI := Lib.hid hI
      have HS := Lib.hid hsum
      have HA := Lib.hid hall
      clear hI hsum hall
      go_wp2_with fail
      refine bodyPost_end (results_none rfl _ _ _) rfl ?_
      have hmm : mm = m + e.nodes := by have := HS.out; simpa [sumP] using this
      subst hmm
      have hall : e.all chk = true := by rw [HA.out]; rfl
      have hnp := Ex.nodes_eq e
      have hle := hlim (by omega)
      exact ⟨HI.out.grown, by rw [hall, decide_eq_true hle]; rfl, fun _ _ => HI.out.cell⟩
    · obtain ⟨g, cap, rfl, hcap, hcapm, hcell, hI2, hpk, d2, hk2⟩ := WInv.pop (by simpa using hI)
      unfold Pd.v at hcell
      simp only at hcell hpk hk2
      unfold maxLen at hcapm
      have HI := Lib.hid hI2
      have HK2 := Lib.hid hk2
      rw [List.concat_eq_append, sumP_snoc] at hsum
      rw [List.concat_eq_append, allP_snoc] at hall
      have HS := Lib.hid hsum
      have HA := Lib.hid hall
      clear hI hI2 hk2 hsum hall
      go_wp2_with fail
      go_loopw [4, 27] (fun v i wr => ∃ (ps : List Pd) (k : Nat), i = .int .i64 k ∧ k ≤ pk.length ∧ WInv w wb ps v (mm + k) wr ∧ KidsQ (InQ w wb) wr d2 pa pcp pk ∧ mm + k + sumP ps + nodesL (pk.drop k) = m + e.nodes ∧ e.all chk = (allP chk ps && allL chk (pk.drop k)) ∧ (m < mm + k → mm + k ≤ lim)) (fun _ i _ => pk.length - (intOf i).toNat)
      case atStart => exact ⟨qs, 0, rfl, Nat.zero_le _, HI.out, HK2.out, by have := HS.out; simp only [List.drop_zero] at this ⊢; omega, HA.out, hlim⟩
      case round =>
        obtain ⟨ps, k, rfl, hk, hI3, hk3, hsum3, hall3, hlim3⟩ := hrel
        obtain ⟨a0, c0, rfl⟩ := hI3.form
        by_cases hlt : k < pk.length
        · obtain ⟨d3, rfl⟩ : ∃ q, d2 = q + 1 := ⟨d2 - 1, by cases d2 with | zero => exact hk3.elim | succ n => omega⟩
          obtain ⟨b, off, rfl, hq, hbl, hc0, hc1, hc2, hfit, a', c', hc3, hkid⟩ := hk3.spot hlt
          have hxl := hkid.at.len
          have hmb : mm + k ≤ 1073741824 := by omega
          have HI3 := Lib.hid hI3
          have HK3 := Lib.hid hk3
          have HX := Lib.hid hkid
          have HS3 := Lib.hid hsum3
          have HA3 := Lib.hid hall3
          have hsz3 := hI3.size
          clear hI3 hsum3 hall3 hk3 hkid
          go_wp2_with fail
          refine (hsee pk[k] a' c' d3 (mm + k) _ (hJ _ (HI3.out.alloc _).grown) hfit ((HX.out.at.below ((Below.refl _ _).alloc (Nat.le_refl _) _))) (HI3.out.alloc _).cell (HI3.out.alloc _).frozen hmb).mono ?_
          rintro x w2 ⟨hg2, hc, hz, rfl⟩
          have hI4 := (HI3.out.alloc _).next hg2 (.inr rfl) hc hz
          have hbox : w2.cell? ⟨wr.heap.size, 3, none⟩ = some (.slice a' pk[k].kids.length c') := hg2.cell (a := ⟨wr.heap.size, 3, none⟩) (by simp [go_sem]) (by intro h; have h' := Option.some.inj h; simp only at h'; omega)
          have hkeep : KidsQ (InQ w wb) w2 (d3 + 1) (some ⟨b, off, none⟩) pcp pk ∧ KidsQ (InQ w wb) w2 d3 a' c' pk[k].kids := by
            have hb1 := (Below.refl wr.heap.size wr).alloc (Nat.le_refl _) (.cells #[.int .i64 pk[k].kind, .string pk[k].text, .int .i64 pk[k].num, .slice a' pk[k].kids.length c'] 32)
            have hg1 : wr.grownBy _ none := ⟨hb1.os, hb1.tape, hb1.output, hb1.size, fun k hk _ => hb1.block k hk⟩
            have hI5 := HI3.out.alloc (.cells #[.int .i64 pk[k].kind, .string pk[k].text, .int .i64 pk[k].num, .slice a' pk[k].kids.length c'] 32)
            exact ⟨kids_grown hI5.size hg2 (by rintro b h; cases h; exact .inl rfl) hI5.lt (kids_grown HI3.out.size hg1 (by simp) HI3.out.lt HK3.out), kids_grown hI5.size hg2 (by rintro b h; cases h; exact .inl rfl) hI5.lt (kids_grown HI3.out.size hg1 (by simp) HI3.out.lt HX.out)⟩
          have HI4 := Lib.hid hI4
          have HKP := Lib.hid hkeep
          have HDN := Lib.hid (nodesL_drop pk k hlt)
          have HDA := Lib.hid (allL_drop chk pk k hlt)
          have HNE := Lib.hid (Ex.nodes_eq pk[k])
          have HAE := Lib.hid (Ex.all_eq chk pk[k])
          have hsz4 := hI4.size
          clear hI4 hkeep hg2 hc0 hc1 hc2 hc3
          cases hgd : (chk pk[k] && decide (mm + k + 1 ≤ lim)) with
          | false =>
            have HG := Lib.hid hgd
            clear hgd
            simp only [SeeX, Bool.false_eq_true, if_false]
            have HF : Hid ((e.all chk && decide (m + e.nodes ≤ lim)) = false) := by
              have h1 := HG.out; have h2 := HA3.out; have h3 := HDA.out; have h4 := HAE.out; have h5 := HS3.out; have h6 := HDN.out; have h7 := HNE.out
              unfold Hid
              rw [h2, h3, h4]
              rw [Bool.and_eq_false_iff] at h1
              rcases h1 with h1 | h1
              · simp [h1]
              · have : decide (m + e.nodes ≤ lim) = false := by simp at h1 ⊢; omega
                rw [this]; simp
            go_wp2_with fail
            refine ⟨rfl, HI4.out.grown, by rw [HF.out]; rfl, fun h1 h2 => ?_⟩
            have := HF.out
            rw [h1, decide_eq_true h2] at this
            cases this
          | true =>
            have HG := Lib.hid hgd
            clear hgd
            have hle : mm + k + 1 ≤ lim := by have := HG.out; simp at this; exact this.2
            have hck : chk pk[k] = true := by have := HG.out; simp at this; exact this.1
            simp only [SeeX, if_true]
            have hpl : ps.length + 1 ≤ 1073741824 := by
              have h5 := HS3.out; have h6 := HDN.out; have h7 := HNE.out
              have h8 := sumP_len ps (fun p hp => (HI4.out.kids p hp).1)
              omega
            have HE : Hid (mm + (k + 1) + (sumP ps + nodesL pk[k].kids) + nodesL (pk.drop (k + 1)) = m + e.nodes ∧ e.all chk = (allP chk ps && allL chk pk[k].kids && allL chk (pk.drop (k + 1)))) := by
              have h2 := HA3.out; have h3 := HDA.out; have h4 := HAE.out; have h5 := HS3.out; have h6 := HDN.out; have h7 := HNE.out
              refine ⟨by omega, ?_⟩
              rw [h2, h3, h4, hck]
              simp [Bool.and_assoc]
            by_cases hpos : 0 < pk[k].kids.length
            · go_wp2_with (at_builtin; refine wpPush rfl (.tmp 38) (.tmp 41) rfl a0 c0 ⟨a', c', pk[k].kids⟩ d3 _ HI4.out hpos HKP.out.2 hpl rfl rfl rfl ?_; intro a6 c6 w6 HI6)
              go_roundw
              case rel =>
                refine ⟨ps ++ [⟨a', c', pk[k].kids⟩], k + 1, by go_num, by omega, ?_, ?_, ?_, ?_, by omega⟩
                · exact HI6.out.1
                · exact kids_grown HI4.out.size HI6.out.2 (fun b hb => .inr (HI4.out.row.lt b hb).1) HI4.out.lt HKP.out.1
                · rw [sumP_snoc]; exact HE.out.1
                · rw [allP_snoc]; exact HE.out.2
              case measure => simp [intOf]; omega
            · have h0 : pk[k].kids = [] := List.eq_nil_of_length_eq_zero (by omega)
              have hl0 : pk[k].kids.length = 0 := by rw [h0]; rfl
              go_wp2_with fail
              go_roundw
              case rel =>
                refine ⟨ps, k + 1, by go_num, by omega, HI4.out, HKP.out.1, ?_, ?_, by omega⟩
                · have := HE.out.1; rw [h0] at this; simpa [nodesL] using this
                · have := HE.out.2; rw [h0] at this; simpa [allL] using this
              case measure => simp [intOf]; omega
        · obtain rfl : k = pk.length := by omega
          have HI3 := Lib.hid hI3
          have HS3 := Lib.hid hsum3
          have HA3 := Lib.hid hall3
          clear hI3 hsum3 hall3 hk3
          go_wp2_with fail
          go_roundw
          case rel => exact ⟨ps, mm + pk.length, HI3.out, by have := HS3.out; simpa [nodesL] using this, by have := HA3.out; simpa [allL] using this, hlim3⟩
          case measure =>
            have h1 := HI3.out.cellN
            have h2 := HI.out.cellN
            have h3 := HS3.out
            rw [h1, h2]
            omega

end Go.Proofs.YtgnillmhpockkaaGreatDoor

namespace Go.Proofs.YtgnillmhpockkaaGreatDoor
open Go.RowKit

theorem grownBy_alloc (w : World) (o : Obj) (row : Option Nat) : w.grownBy (w.alloc o) row := by
  have hb : Below w.heap.size w (w.alloc o) := (Below.refl _ _).alloc (Nat.le_refl _) o
  exact ⟨hb.os, hb.tape, hb.output, hb.size, fun k hk _ => hb.block k hk⟩

theorem setCell_grown (w : World) (b o : Nat) (v : Value) : w.grownBy (w.setCell ⟨b, o, none⟩ v) (some b) := by
  refine ⟨rfl, rfl, rfl, by simp, fun k hk hne => ?_⟩
  exact World.heap_setCells_other w b o [v] hk (fun h => hne (by rw [h]))

/-- What the count turns. -/
theorem count_grown {w : World} {wb m : Nat} (hc : w.cell? ⟨wb, 0, none⟩ = some (.int .i64 m)) (hz : w.frozen? ⟨wb, 0, none⟩ = false) (o : Obj) {v : Value} (hv : v = .int .i64 (m + 1 : Nat)) {w' : World} (hw : w' = (w.setCell ⟨wb, 0, none⟩ v).alloc o) :
    w.grownBy w' (some wb) ∧ w'.cell? ⟨wb, 0, none⟩ = some (.int .i64 (m + 1 : Nat)) ∧ w'.frozen? ⟨wb, 0, none⟩ = false := by
  subst hv hw
  have hlt := World.block_lt_of_cell? w ⟨wb, 0, none⟩ hc
  have hg1 := setCell_grown w wb 0 (.int .i64 (m + 1 : Nat))
  have hg2 := grownBy_alloc (w.setCell ⟨wb, 0, none⟩ (.int .i64 (m + 1 : Nat))) o none
  have hlt2 : wb < (w.setCell ⟨wb, 0, none⟩ (.int .i64 (m + 1 : Nat))).heap.size := by simpa using hlt
  exact ⟨hg1.trans (hg2.but _), (hg2.cell_far ⟨wb, 0, none⟩ hlt2 (by simp)).trans (World.cell?_setCell_same _ _ _ hc), (hg2.frozen_far ⟨wb, 0, none⟩ hlt2 (by simp)).trans (by rw [World.frozen?_setCell]; exact hz)⟩

set_option maxHeartbeats 1000000 in
theorem countSees (wb : Nat) : Sees (fun _ => True) 87 wb (fun _ => true) 1073741825 [] := by
  intro e a c d m w _ hfit hk hc hz hm
  have hlt := World.block_lt_of_cell? w ⟨wb, 0, none⟩ hc
  have H := Lib.hid (count_grown hc hz)
  clear hk hfit
  go_enter Tryz.func87, Tryz.ntmps87
  go_wp2_with fail
  refine bodyPost_end (results_none rfl _ _ _) rfl ?_
  obtain ⟨h1, h2, h3⟩ := H.out _ (by go_num) rfl
  exact ⟨h1, h2, h3, by first | rfl | (rw [decide_eq_true (by omega)]; rfl)⟩

theorem allTrue : (∀ e : Ex, e.all (fun _ => true) = true) := by
  intro e
  induction hn : e.nodes using Nat.strongRecOn generalizing e with
  | ind n ih =>
    rw [Ex.all_eq, Bool.true_and]
    have hne := Ex.nodes_eq e
    have key : ∀ l : List Ex, nodesL l < n → allL (fun _ => true) l = true := by
      intro l
      induction l with
      | nil => intro _; rfl
      | cons x r ihl =>
        intro h
        rw [nodesL] at h
        rw [allL, ih x.nodes (by omega) x rfl, ihl (by omega)]
        rfl
    exact key e.kids (by omega)

end Go.Proofs.YtgnillmhpockkaaGreatDoor

namespace Go.Proofs.YtgnillmhpockkaaGreatDoor
open Go.RowKit

def wOf (x : Tk) : W := (x.kind, x.text.data.toList)
/-- The words that are left. -/
def left (l : List Tk) (at_ : Nat) : List W := (l.drop at_).map wOf

theorem left_len (l : List Tk) (at_ : Nat) : (left l at_).length = l.length - at_ := by simp [left]

theorem left_tail (l : List Tk) (at_ : Nat) : (left l at_).tail = left l (at_ + 1) := by
  unfold left
  rw [← List.map_tail, List.tail_drop]

theorem hit_left (l : List Tk) (at_ : Nat) (k : Int) (t : List UInt8) : hitT l at_ k (txt t) = tkW (left l at_) k t := by
  unfold hitT left
  cases hd : l.drop at_ with
  | nil => rfl
  | cons x r =>
    show (x.kind == k && x.text.toList == (txt t).toList) = (x.kind == k && x.text.data.toList == t)
    rw [Lib.toList_data, Lib.toList_data]
    rfl

theorem Toks.grown {w w' : World} {a : Option Addr} {c : Nat} {l : List Tk} {rb : Nat} (h : Toks w a c l) (hg : w.grownBy w' (some rb)) (hne : ∀ b off, a = some ⟨b, off, none⟩ → b ≠ rb) : Toks w' a c l := by
  obtain ⟨h1, h2, h3, h4, h5⟩ := h
  refine ⟨h1, h2, h3, h4, fun hp => ?_⟩
  obtain ⟨b, off, ha, hlt, hc⟩ := h5 hp
  have e := fun o => cell_grown hg hlt (fun e => hne b off ha (Option.some.inj e).symm) o
  exact ⟨b, off, ha, Nat.lt_of_lt_of_le hlt hg.size, fun i hi => ⟨(e _).trans (hc i hi).1, (e _).trans (hc i hi).2.1, (e _).trans (hc i hi).2.2⟩⟩

theorem Rd.set {w : World} {rb : Nat} {a : Option Addr} {c : Nat} {l : List Tk} {at_ : Nat} (h : Rd w rb a c l at_) (m : Nat) : Rd (w.setCell ⟨rb, 1, none⟩ (.int .i64 (m : Int))) rb a c l m := by
  refine ⟨?_, h.tok.grown (setCell_grown w rb 1 _) h.ne, h.ne, h.len⟩
  show (w.heap.modify rb _)[rb]? = _
  rw [Array.getElem?_modify, if_pos rfl, h.row]
  rfl

/-- What a step of the reader leaves. -/
structure Stp (w : World) (rb : Nat) (a : Option Addr) (c : Nat) (l : List Tk) (at_ : Nat) (w' : World) : Prop where
  rd : Rd w' rb a c l at_
  gr : w.grownBy w' (some rb)

theorem grown_drewN' (w : World) (n : Nat) (row : Option Nat) : w.grownBy (w.drewN n) row := ⟨rfl, rfl, rfl, Nat.le_refl _, fun _ _ _ => rfl⟩

theorem TakeP.yes {w : World} {rb : Nat} {a : Option Addr} {c : Nat} {l : List Tk} {at_ : Nat} {x : Ending} {w' : World} (h : Rd w rb a c l at_) (ht : TakeP w rb at_ true x w') : x = .returned (.bool true) ∧ Stp w rb a c l (at_ + 1) w' := by
  obtain ⟨hx, n, rfl⟩ := ht
  refine ⟨hx, (h.drewN n).set (at_ + 1), (grown_drewN' w n _).trans (setCell_grown _ rb 1 _)⟩

theorem TakeP.no {w : World} {rb : Nat} {a : Option Addr} {c : Nat} {l : List Tk} {at_ : Nat} {x : Ending} {w' : World} (h : Rd w rb a c l at_) (ht : TakeP w rb at_ false x w') : x = .returned (.bool false) ∧ Stp w rb a c l at_ w' := by
  obtain ⟨hx, n, rfl⟩ := ht
  exact ⟨hx, h.drewN n, grown_drewN' w n _⟩

theorem FormsAt.grown2 {w w' : World} {wb : Nat} (h : FormsAt w) (hg : w.grownBy w' (some wb)) (hne : wb ≠ 0) : FormsAt w' := by
  refine ⟨Nat.lt_of_lt_of_le h.1 hg.size, fun i hi => ?_⟩
  obtain ⟨h0, h1, h2, h3⟩ := h.2 i hi
  have e := cell_grown hg h.1 (fun h => hne (Option.some.inj h))
  exact ⟨(e _).trans h0, (e _).trans h1, (e _).trans h2, (e _).trans h3⟩

/-- What operator answers. -/
def OperP (w : World) (rb : Nat) (a : Option Addr) (c : Nat) (l : List Tk) (at_ : Nat) (x : Ending) (w' : World) : Prop :=
  match opI (left l at_) with
  | some (k, r) => x = .returned (.tuple #[.int .i64 k, .bool true]) ∧ ∃ m, r = left l m ∧ at_ < m ∧ m ≤ l.length ∧ Stp w rb a c l m w'
  | none => ∃ k m, x = .returned (.tuple #[.int .i64 k, .bool false]) ∧ m ≤ at_ + 1 ∧ Stp w rb a c l m w'

theorem fm_sign : ∀ i, i < 19 → 8 ≤ i → ((fm i).token, (fm i).text) = signW (i : Int) := by decide

/-- No sign from 7 to j stands there: nothing; all do. -/
theorem op_none {ts : List W} (h : ∀ i : Nat, 7 ≤ i → i < 19 → tkW ts (fm i).token (fm i).text = false) : opI ts = none := by
  cases ts with
  | nil => rfl
  | cons x r =>
    have h7 := h 7 (by omega) (by omega)
    rw [opI, if_neg (by
      rintro rfl
      have : tkW ((0, wIs) :: r) 0 wIs = true := by simp [tkW]
      exact absurd h7 (by rw [show (fm 7).token = 0 from rfl, show (fm 7).text = wIs from rfl, this]; decide))]
    have : ([8, 9, 10, 11, 12, 13, 14, 15, 16, 17, 18] : List Int).find? (fun k => x == signW k) = none := by
      rw [List.find?_eq_none]
      intro k hk hx
      have hk18 : ∃ i : Nat, k = i ∧ 8 ≤ i ∧ i < 19 := by
        have : ∀ k ∈ ([8, 9, 10, 11, 12, 13, 14, 15, 16, 17, 18] : List Int), 8 ≤ k ∧ k ≤ 18 := by decide
        have := this k hk
        exact ⟨k.toNat, by omega, by omega, by omega⟩
      obtain ⟨i, rfl, h8, h19⟩ := hk18
      have hi := h i (by omega) h19
      have hs := fm_sign i h19 h8
      have hxe : x = signW (i : Int) := by simpa using hx
      rw [hxe, ← hs] at hi
      exact absurd hi (by simp [tkW])
    rw [this]

theorem op_some {ts : List W} {i : Nat} (h8 : 8 ≤ i) (h19 : i < 19) (h : tkW ts (fm i).token (fm i).text = true) : opI ts = some ((i : Int), ts.tail) := by
  cases ts with
  | nil => cases h
  | cons x r =>
    have hs := fm_sign i h19 h8
    have hx : x = signW (i : Int) := by
      rw [← hs]
      obtain ⟨k, t⟩ := x
      simp only [tkW, Bool.and_eq_true, beq_iff_eq] at h
      rw [h.1, h.2]
    have hall : ∀ i : Nat, i < 19 → 8 ≤ i → ((if signW (i : Int) = (0, wIs) then none else ([8, 9, 10, 11, 12, 13, 14, 15, 16, 17, 18] : List Int).find? (fun k => signW (i : Int) == signW k))) = some (i : Int) := by decide
    have hi := hall i h19 h8
    by_cases hn : signW (i : Int) = (0, wIs)
    · rw [if_pos hn] at hi; cases hi
    · rw [if_neg hn] at hi
      rw [opI, hx, if_neg hn, hi]
      rfl

end Go.Proofs.YtgnillmhpockkaaGreatDoor

namespace Go.Proofs.YtgnillmhpockkaaGreatDoor
open Go.RowKit

theorem fm7 : (fm 7).token = 0 ∧ (fm 7).text = wIs ∧ (fm 5).token = 0 ∧ (fm 5).text = wNull := by decide

theorem hd_shape {ts : List W} {k : Int} {t : List UInt8} (h : tkW ts k t = true) : ∃ r, ts = (k, t) :: r := by
  cases ts with
  | nil => cases h
  | cons x r =>
    obtain ⟨a, b⟩ := x
    simp only [tkW, Bool.and_eq_true, beq_iff_eq] at h
    exact ⟨r, by rw [h.1, h.2]⟩

theorem left_hit {l : List Tk} {at_ : Nat} {k : Int} {t : List UInt8} (h : tkW (left l at_) k t = true) : at_ < l.length := by
  obtain ⟨r, hr⟩ := hd_shape h
  have := left_len l at_
  rw [hr] at this
  simp at this
  omega

set_option maxRecDepth 100000 in
set_option maxHeartbeats 2000000 in
theorem rdOperator {w : World} {rb : Nat} {a : Option Addr} {c : Nat} {l : List Tk} {at_ : Nat} (h : Rd w rb a c l at_) (hat : at_ ≤ 1000000) (hF : FormsAt w) (hrb : rb ≠ 0) :
    Calls Tryz.prog 126 #[.pointer (some ⟨rb, 0, none⟩)] w (OperP w rb a c l at_) := by
  have HRD := Lib.hid h
  have HF := Lib.hid hF
  clear h hF
  go_enter Tryz.func126, Tryz.ntmps126
  go_wp2_with fail
  go_loopw [4] (fun k wr => ∃ j : Nat, 7 ≤ j ∧ j ≤ 19 ∧ k = .int .i64 (j : Int) ∧ Hid (∀ i : Nat, 7 ≤ i → i < j → tkW (left l at_) (fm i).token (fm i).text = false) ∧ Hid (Stp w rb a c l at_ wr)) (fun k _ => 19 - (intOf k).toNat)
  case atStart => exact ⟨7, by omega, by omega, rfl, fun i h1 h2 => by omega, HRD.out, ⟨rfl, rfl, rfl, Nat.le_refl _, fun _ _ _ => rfl⟩⟩
  case round =>
    obtain ⟨j, h7, h19, rfl, HN, HS⟩ := hrel
    by_cases hlt : j < 19
    · have hle : decide ((j : Int) ≤ 18) = true := by simp; omega
      cases hv : tkW (left l at_) (fm j).token (fm j).text with
      | false =>
        have HV : Hid (hitT l at_ (fm j).token (txt (fm j).text) = false) := by unfold Hid; rw [hit_left]; exact hv
        have HVV := Lib.hid hv
        clear hv
        go_wp2_with fail
        refine (rdTakeSign HS.out.rd (by omega) (HF.out.grown2 HS.out.gr hrb) hrb j hlt false HV.out).mono ?_
        intro x w2 ht
        obtain ⟨rfl, hs⟩ := ht.no HS.out.rd
        have HS2 : Hid (Stp w rb a c l at_ w2) := ⟨hs.rd, HS.out.gr.trans hs.gr⟩
        clear hs ht
        go_wp2_with fail
        go_roundw
        case rel => exact ⟨j + 1, by omega, by omega, by go_num, (fun i h1 h2 => by
          rcases Nat.lt_or_ge i j with h | h
          · exact HN.out i h1 h
          · obtain rfl : i = j := by omega
            exact HVV.out), HS2⟩
        case measure => simp [intOf]; omega
      | true =>
        have HV : Hid (hitT l at_ (fm j).token (txt (fm j).text) = true) := by unfold Hid; rw [hit_left]; exact hv
        have HVV := Lib.hid hv
        have hltl := left_hit hv
        clear hv
        by_cases hj : j = 7
        · subst hj
          have hv7 : tkW (left l at_) 0 wIs = true := HVV.out
          obtain ⟨r, hr⟩ := hd_shape hv7
          have hr2 : r = left l (at_ + 1) := by rw [← left_tail, hr]; rfl
          cases hn : tkW (left l (at_ + 1)) 0 wNull with
          | true =>
            have HO : Hid (opI (left l at_) = some (7, left l (at_ + 2))) := by
              unfold Hid
              rw [hr, opI, if_pos rfl, hr2, if_pos hn, left_tail]
            have HV2 : Hid (hitT l (at_ + 1) (fm 5).token (txt (fm 5).text) = true) := by unfold Hid; rw [hit_left]; exact hn
            have hlt2 := left_hit hn
            clear hn hr hr2 hv7
            go_wp2_with fail
            refine (rdTakeSign HS.out.rd (by omega) (HF.out.grown2 HS.out.gr hrb) hrb 7 (by omega) true HV.out).mono ?_
            intro x w2 ht
            obtain ⟨rfl, hs⟩ := ht.yes HS.out.rd
            have HS2 : Hid (Stp w rb a c l (at_ + 1) w2) := ⟨hs.rd, HS.out.gr.trans hs.gr⟩
            clear hs ht
            go_wp2_with fail
            refine (rdTakeSign HS2.out.rd (by omega) (HF.out.grown2 HS2.out.gr hrb) hrb 5 (by omega) true HV2.out).mono ?_
            intro x w3 ht
            obtain ⟨rfl, hs⟩ := ht.yes HS2.out.rd
            have HS3 : Hid (Stp w rb a c l (at_ + 2) w3) := ⟨hs.rd, HS2.out.gr.trans hs.gr⟩
            clear hs ht
            go_wp2_with fail
            go_ret2
            unfold OperP
            rw [HO.out]
            exact ⟨rfl, at_ + 2, rfl, by omega, by omega, HS3.out⟩
          | false =>
            have HO : Hid (opI (left l at_) = none) := by
              unfold Hid
              rw [hr, opI, if_pos rfl, hr2, if_neg (by rw [hn]; decide)]
            have HV2 : Hid (hitT l (at_ + 1) (fm 5).token (txt (fm 5).text) = false) := by unfold Hid; rw [hit_left]; exact hn
            clear hn hr hr2 hv7
            go_wp2_with fail
            refine (rdTakeSign HS.out.rd (by omega) (HF.out.grown2 HS.out.gr hrb) hrb 7 (by omega) true HV.out).mono ?_
            intro x w2 ht
            obtain ⟨rfl, hs⟩ := ht.yes HS.out.rd
            have HS2 : Hid (Stp w rb a c l (at_ + 1) w2) := ⟨hs.rd, HS.out.gr.trans hs.gr⟩
            clear hs ht
            go_wp2_with fail
            refine (rdTakeSign HS2.out.rd (by omega) (HF.out.grown2 HS2.out.gr hrb) hrb 5 (by omega) false HV2.out).mono ?_
            intro x w3 ht
            obtain ⟨rfl, hs⟩ := ht.no HS2.out.rd
            have HS3 : Hid (Stp w rb a c l (at_ + 1) w3) := ⟨hs.rd, HS2.out.gr.trans hs.gr⟩
            clear hs ht
            go_wp2_with fail
            go_ret2
            unfold OperP
            rw [HO.out]
            exact ⟨7, at_ + 1, rfl, by omega, HS3.out⟩
        · have HO : Hid (opI (left l at_) = some ((j : Int), left l (at_ + 1))) := by
            unfold Hid
            rw [op_some (by omega) hlt HVV.out, left_tail]
          have hjb : ((j : Int) != 7) = true := by simp; omega
          go_wp2_with fail
          refine (rdTakeSign HS.out.rd (by omega) (HF.out.grown2 HS.out.gr hrb) hrb j hlt true HV.out).mono ?_
          intro x w2 ht
          obtain ⟨rfl, hs⟩ := ht.yes HS.out.rd
          have HS2 : Hid (Stp w rb a c l (at_ + 1) w2) := ⟨hs.rd, HS.out.gr.trans hs.gr⟩
          clear hs ht
          go_wp2_with fail
          go_ret2
          unfold OperP
          rw [HO.out]
          exact ⟨rfl, at_ + 1, rfl, by omega, by omega, HS2.out⟩
    · obtain rfl : j = 19 := by omega
      have HO : Hid (opI (left l at_) = none) := op_none fun i h1 h2 => HN.out i h1 h2
      go_wp2_with fail
      go_ret2
      unfold OperP
      rw [HO.out]
      exact ⟨0, at_, rfl, by omega, HS.out⟩

end Go.Proofs.YtgnillmhpockkaaGreatDoor

namespace Go.Proofs.YtgnillmhpockkaaGreatDoor
open Go.RowKit

/-- The slice (a, length of l, c) reads as the bytes l. -/
def Bytes (w : World) (a : Option Addr) (c : Nat) (l : List UInt8) : Prop :=
  l.length ≤ c ∧ c ≤ maxLen ∧ (a = none → c = 0) ∧
  (0 < l.length → ∃ b off, a = some ⟨b, off, none⟩ ∧ b < w.heap.size ∧ ∀ (i : Nat) (h : i < l.length), w.cell? ⟨b, off + i, none⟩ = some (.int .u8 (l[i].toNat : Int)))

theorem Bytes.below {w w' : World} {a : Option Addr} {c : Nat} {l : List UInt8} (h : Bytes w a c l) (hb : Below w.heap.size w w') : Bytes w' a c l := by
  obtain ⟨h1, h2, h3, h4⟩ := h
  refine ⟨h1, h2, h3, fun hp => ?_⟩
  obtain ⟨b, off, ha, hlt, hc⟩ := h4 hp
  exact ⟨b, off, ha, Nat.lt_of_lt_of_le hlt hb.size, fun i hi => (hb.cell (p := ⟨b, off + i, none⟩) hlt).trans (hc i hi)⟩

theorem Bytes.len {w : World} {a : Option Addr} {c : Nat} {l : List UInt8} (h : Bytes w a c l) : l.length ≤ 9223372036854775807 := by
  have h1 := h.1
  have h2 := h.2.1
  unfold maxLen at h2
  omega

/-- The cursor in block g, over the bytes (a, n, c). -/
def Cur (w : World) (g : Nat) (a : Option Addr) (n c : Nat) : Prop :=
  ∃ i h : Int, 0 ≤ i ∧ i ≤ n ∧ w.heap[g]? = some (.cells #[.slice a n c, .int .i64 i, .int .i64 h] 85 (0, 0))

/-- A cursor on the way: the bytes came in with the world w0. -/
structure Deck (w0 : World) (a : Option Addr) (c : Nat) (l : List UInt8) (g : Nat) (w : World) : Prop where
  bytes : Bytes w0 a c l
  short : l.length ≤ 1048576
  below : Below w0.heap.size w0 w
  new : w0.heap.size ≤ g
  cur : Cur w g a l.length c

theorem Deck.lt {w0 : World} {a : Option Addr} {c : Nat} {l : List UInt8} {g : Nat} {w : World} (h : Deck w0 a c l g w) : g < w.heap.size := by
  obtain ⟨i, hh, _, _, hg⟩ := h.cur
  rcases Nat.lt_or_ge g w.heap.size with hlt | hge
  · exact hlt
  · rw [Array.getElem?_eq_none hge] at hg; cases hg

/-- The cursor stays while other blocks turn. -/
theorem Deck.kept {w0 : World} {a : Option Addr} {c : Nat} {l : List UInt8} {g : Nat} {w w' : World} (h : Deck w0 a c l g w) {row : Option Nat} (hg : w.grownBy w' row) (hr : ∀ k, row = some k → w0.heap.size ≤ k ∧ k ≠ g) : Deck w0 a c l g w' := by
  refine ⟨h.bytes, h.short, h.below.grown hg h.below.size (fun k hk => (hr k hk).1), h.new, ?_⟩
  obtain ⟨i, hh, h1, h2, h3⟩ := h.cur
  exact ⟨i, hh, h1, h2, (hg.block g h.lt (fun e => (hr g e.symm).2 rfl)).trans h3⟩

theorem Deck.belowed {w0 : World} {a : Option Addr} {c : Nat} {l : List UInt8} {g : Nat} {w w' : World} (h : Deck w0 a c l g w) (hb : Below w.heap.size w w') : Deck w0 a c l g w' :=
  h.kept (row := none) ⟨hb.os, hb.tape, hb.output, hb.size, fun k hk _ => hb.block k hk⟩ (fun k hk => by cases hk)

/-- What a call that draws leaves. -/
def Drawn (w0 : World) (a : Option Addr) (c : Nat) (l : List UInt8) (g : Nat) (w : World) (P : Value → Prop) (e : Ending) (w' : World) : Prop :=
  ∃ v, P v ∧ e = .returned v ∧ Deck w0 a c l g w' ∧ w.grownBy w' (some g)

def IntIn (lo hi : Int) (v : Value) : Prop := ∃ x : Int, v = .int .i64 x ∧ lo ≤ x ∧ x ≤ hi

theorem i64_low8 (n : Int) : bits .and .i64 n 255 = n % 256 := by
  have hm : (BitVec.ofInt 64 255).toNat = 2 ^ 8 - 1 := by decide
  have key : (BitVec.ofInt 64 n &&& BitVec.ofInt 64 255).toNat = (n % ((2 ^ 64 : Nat) : Int)).toNat % 2 ^ 8 := by
    rw [BitVec.toNat_and, BitVec.toNat_ofInt, hm, Nat.and_two_pow_sub_one_eq_mod]
  show IntKind.i64.wrap ((BitVec.ofInt 64 n &&& BitVec.ofInt 64 255).toNat : Nat) = n % 256
  rw [key, IntKind.wrap_i64]
  omega

theorem i64_low30 (n : Int) : bits .and .i64 n 1073741823 = n % 1073741824 := by
  have hm : (BitVec.ofInt 64 1073741823).toNat = 2 ^ 30 - 1 := by decide
  have key : (BitVec.ofInt 64 n &&& BitVec.ofInt 64 1073741823).toNat = (n % ((2 ^ 64 : Nat) : Int)).toNat % 2 ^ 30 := by
    rw [BitVec.toNat_and, BitVec.toNat_ofInt, hm, Nat.and_two_pow_sub_one_eq_mod]
  show IntKind.i64.wrap ((BitVec.ofInt 64 n &&& BitVec.ofInt 64 1073741823).toNat : Nat) = n % 1073741824
  rw [key, IntKind.wrap_i64]
  omega

/-- Behind two stores into the cursor. -/
theorem Deck.turned {w0 : World} {a : Option Addr} {c : Nat} {l : List UInt8} {g : Nat} {w : World} (hd : Deck w0 a c l g w) {i h : Int} (hg : w.heap[g]? = some (.cells #[.slice a l.length c, .int .i64 i, .int .i64 h] 85 (0, 0)))
    {w' : World} (hw : w.grownBy w' (some g)) {i' h' : Int} (h0 : 0 ≤ i') (h1 : i' ≤ l.length) (hg' : w'.heap[g]? = some (.cells #[.slice a l.length c, .int .i64 i', .int .i64 h'] 85 (0, 0))) : Deck w0 a c l g w' :=
  ⟨hd.bytes, hd.short, hd.below.grown hw hd.below.size (fun k hk => by cases hk; exact hd.new), hd.new, ⟨i', h', h0, h1, hg'⟩⟩

theorem grown_set (w : World) (g j : Nat) (v : Value) : w.grownBy (w.setCell ⟨g, j, none⟩ v) (some g) :=
  ⟨rfl, rfl, rfl, by simp [World.setCell], fun k _ hne => Below.heap_setCell _ _ _ _ (fun e => hne (by rw [e]))⟩

theorem grown_trans {a b c : World} {row : Option Nat} (h : a.grownBy b row) (k : b.grownBy c row) : a.grownBy c row :=
  ⟨k.os.trans h.os, k.tape.trans h.tape, k.output.trans h.output, Nat.le_trans h.size k.size, fun i hi hne => (k.block i (Nat.lt_of_lt_of_le hi h.size) hne).trans (h.block i hi hne)⟩

theorem grown_drewN {a b : World} {row : Option Nat} (h : a.grownBy b row) (n : Nat) : a.grownBy (b.drewN n) row := ⟨h.os, h.tape, h.output, h.size, h.block⟩

set_option maxHeartbeats 1000000 in
theorem l01Byte {w0 : World} {a : Option Addr} {c : Nat} {l : List UInt8} {g : Nat} {w : World} (hd : Deck w0 a c l g w) :
    Calls Tryz.prog 94 #[.pointer (some ⟨g, 0, none⟩)] w (Drawn w0 a c l g w (IntIn 0 255)) := by
  obtain ⟨i, h, hi0, hi1, hg⟩ := hd.cur
  have c0 : w.cell? ⟨g, 0, none⟩ = some (.slice a l.length c) := by rw [cell_of_row _ _ _ _ _ _ hg]; rfl
  have c1 : w.cell? ⟨g, 1, none⟩ = some (.int .i64 i) := by rw [cell_of_row _ _ _ _ _ _ hg]; rfl
  have c2 : w.cell? ⟨g, 2, none⟩ = some (.int .i64 h) := by rw [cell_of_row _ _ _ _ _ _ hg]; rfl
  have f0 : ∀ j, w.frozen? ⟨g, j, none⟩ = false := fun j => frozen_of_row _ _ _ _ _ hg
  have f1 := f0 1
  have f2 := f0 2
  have hs := hd.short
  have hset : ∀ v, (w.setCell ⟨g, 2, none⟩ v).heap[g]? = some (.cells #[.slice a l.length c, .int .i64 i, v] 85 (0, 0)) := fun v => by
    rw [heap_setCell_same w g 2 _ _ _ hg]; rfl
  have HS := Lib.hid hset
  by_cases hlt : i < l.length
  · obtain ⟨k, rfl⟩ := Int.eq_ofNat_of_zero_le hi0
    have hk : k < l.length := by omega
    obtain ⟨b, off, rfl, hbl, hcs⟩ := hd.bytes.2.2.2 (by omega)
    have hbg : ¬ b = g := by have := hd.new; omega
    have hcb : w.cell? ⟨b, off + k, none⟩ = some (.int .u8 (l[k].toNat : Int)) := (hd.below.cell (p := ⟨b, off + k, none⟩) hbl).trans (hcs k hk)
    have HD := Lib.hid hd
    have HG := Lib.hid hg
    clear f0 hd hg hcs hset
    have hby : (l[k].toNat : Int) ≤ 255 := by have := UInt8.toNat_lt l[k]; omega
    go_enter Tryz.func94, Tryz.ntmps94
    go_wp2
    generalize wrap64 (wrap64 (h * 6364136223846793005) + 1442695040888963407) = h1
    go_quiet (fail)
    go_wp2
    generalize hx0 : bits BinOp.and IntKind.i64 (bits BinOp.xor IntKind.i64 (h1 / 8589934592) (h1 / 35184372088832)) 255 = x0
    have hb0 : 0 ≤ x0 ∧ x0 ≤ 255 := by rw [← hx0, i64_low8]; omega
    obtain ⟨hb1, hb2⟩ := hb0
    clear hx0
    go_quiet (fail)
    go_wp2
    go_quiet (fail)
    go_wp2
    go_ret
    have hW : ∀ m, w.grownBy (((w.setCell ⟨g, 2, none⟩ (.int .i64 h1)).drewN m).setCell ⟨g, 1, none⟩ (.int .i64 ((k : Int) + 1))) (some g) := fun m => grown_trans (grown_drewN (grown_set _ _ _ _) m) (grown_set _ _ _ _)
    have hH : ∀ m, (((w.setCell ⟨g, 2, none⟩ (.int .i64 h1)).drewN m).setCell ⟨g, 1, none⟩ (.int .i64 ((k : Int) + 1))).heap[g]? = some (.cells #[.slice (some ⟨b, off, none⟩) l.length c, .int .i64 ((k : Int) + 1), .int .i64 h1] 85 (0, 0)) := by
      intro m; rw [heap_setCell_same _ g 1 _ _ _ (show ((w.setCell ⟨g, 2, none⟩ (.int .i64 h1)).drewN m).heap[g]? = _ from HS.out _)]; rfl
    refine ⟨_, ⟨_, rfl, by rw [i64_low8]; omega, by rw [i64_low8]; omega⟩, rfl, ?_, ?_⟩
    · exact Deck.turned HD.out HG.out (hW _) (by omega) (by omega) (hH _)
    · exact hW _
  · have HD := Lib.hid hd
    have HG := Lib.hid hg
    clear f0 hd hg hset
    go_enter Tryz.func94, Tryz.ntmps94
    go_wp2
    generalize wrap64 (wrap64 (h * 6364136223846793005) + 1442695040888963407) = h1
    go_quiet (fail)
    go_wp2
    generalize hx0 : bits BinOp.and IntKind.i64 (bits BinOp.xor IntKind.i64 (h1 / 8589934592) (h1 / 35184372088832)) 255 = x0
    have hb0 : 0 ≤ x0 ∧ x0 ≤ 255 := by rw [← hx0, i64_low8]; omega
    clear hx0
    go_quiet (fail)
    go_wp2
    go_ret
    have hW : w.grownBy (w.setCell ⟨g, 2, none⟩ (.int .i64 h1)) (some g) := grown_set _ _ _ _
    refine ⟨_, ⟨_, rfl, hb0.1, hb0.2⟩, rfl, ?_, ?_⟩
    · exact Deck.turned HD.out HG.out (grown_drewN (grown_drewN hW _) _) hi0 hi1 (HS.out _)
    · exact grown_drewN (grown_drewN hW _) _

set_option maxRecDepth 100000 in
set_option maxHeartbeats 1000000 in
theorem l01New (a : Option Addr) (c : Nat) (l : List UInt8) (w : World) (hb : Bytes w a c l) (hs : l.length ≤ 1048576) :
    Calls Tryz.prog 26 #[.slice a l.length c] w fun e w' => e = .returned (.pointer (some ⟨w.heap.size, 0, none⟩)) ∧ Deck w a c l w.heap.size w' ∧ Below w.heap.size w w' ∧ w'.heap.size = w.heap.size + 1 := by
  have hl := hb.len
  go_enter Tryz.func26, Tryz.ntmps26
  go_wp2
  go_loop [3, 4] (fun q i => ∃ (k : Nat) (h : Int), k ≤ l.length ∧ i = .int .i64 k ∧ q = .int .i64 h ∧ 0 ≤ h ∧ h ≤ 1073741823) (fun _ i => l.length - (intOf i).toNat)
  case atStart => exact ⟨0, _, Nat.zero_le _, rfl, rfl, by omega, by omega⟩
  case round =>
    obtain ⟨k, h, hk, rfl, rfl, h0, h1⟩ := hrel
    by_cases hlt : k < l.length
    · obtain ⟨b, off, rfl, hbl, hcs⟩ := hb.2.2.2 (by omega)
      have hcb := hcs k hlt
      have hby : (l[k].toNat : Int) ≤ 255 := by have := UInt8.toNat_lt l[k]; omega
      clear hcs
      by_cases h4 : k < 4000
      · go_wp2
        go_round
        case rel => exact ⟨k + 1, _, by omega, by go_num, rfl, by rw [i64_low30]; omega, by rw [i64_low30]; omega⟩
        case measure => simp [intOf]; omega
      · go_wp2
        go_ret
        refine ⟨rfl, ⟨hb, hs, (Below.refl _ _).alloc (Nat.le_refl _) _, Nat.le_refl _, 0, h, by omega, by omega, heap_alloc_new _ _⟩, (Below.refl _ _).alloc (Nat.le_refl _) _, by simp⟩
    · go_wp2
      go_ret
      refine ⟨rfl, ⟨hb, hs, (Below.refl _ _).alloc (Nat.le_refl _) _, Nat.le_refl _, 0, h, by omega, by omega, heap_alloc_new _ _⟩, (Below.refl _ _).alloc (Nat.le_refl _) _, by simp⟩

theorem lawsBig (a : Option Addr) (c n : Nat) (w : World) : Calls Tryz.prog 8 #[.slice a n c] w fun e w' => e = .returned (.bool (decide (1048576 < n))) ∧ w = w' := by
  go_enter Tryz.func8, Tryz.ntmps8
  go_wp2
  go_ret
  exact ⟨by simp; omega, rfl⟩

set_option maxHeartbeats 1000000 in
theorem l01Below {w0 : World} {a : Option Addr} {c : Nat} {l : List UInt8} {g : Nat} {w : World} (hd : Deck w0 a c l g w) (n : Int) (hn0 : 1 ≤ n) (hn1 : n ≤ 4294967296) :
    Calls Tryz.prog 63 #[.pointer (some ⟨g, 0, none⟩), .int .i64 n] w (Drawn w0 a c l g w (IntIn 0 (n - 1))) := by
  have hne : ¬ n = 0 := by omega
  by_cases h : n ≤ 256
  · go_enter Tryz.func63, Tryz.ntmps63
    go_wp2_with (go_at_call 94; refine (l01Byte hd).mono ?_; rintro e w1 ⟨v, ⟨x, rfl, hx0, hx1⟩, rfl, hd1, hg1⟩)
    go_ret
    exact ⟨_, ⟨_, rfl, Int.emod_nonneg _ hne, by have := Int.emod_lt_of_pos x (show 0 < n by omega); omega⟩, rfl, hd1, hg1⟩
  · go_enter Tryz.func63, Tryz.ntmps63
    go_wp2_with fail
    refine (l01Byte hd).mono ?_
    rintro e w1 ⟨v, ⟨x, rfl, hx0, hx1⟩, rfl, hd1, hg1⟩
    go_wp2_with fail
    refine (l01Byte hd1).mono ?_
    rintro e w2 ⟨v, ⟨y, rfl, hy0, hy1⟩, rfl, hd2, hg2⟩
    go_wp2_with fail
    refine (l01Byte hd2).mono ?_
    rintro e w3 ⟨v, ⟨z, rfl, hz0, hz1⟩, rfl, hd3, hg3⟩
    go_wp2_with fail
    refine (l01Byte hd3).mono ?_
    rintro e w4 ⟨v, ⟨u, rfl, hu0, hu1⟩, rfl, hd4, hg4⟩
    go_wp2_with fail
    go_ret
    refine ⟨_, ⟨_, rfl, Int.emod_nonneg _ hne, ?_⟩, rfl, hd4, grown_trans (grown_trans (grown_trans hg1 hg2) hg3) hg4⟩
    have := Int.emod_lt_of_pos (x * 16777216 + y * 65536 + z * 256 + u) (show 0 < n by omega)
    omega

theorem l01Once {w0 : World} {a : Option Addr} {c : Nat} {l : List UInt8} {g : Nat} {w : World} (hd : Deck w0 a c l g w) (n : Int) (hn0 : 1 ≤ n) (hn1 : n ≤ 4294967296) :
    Calls Tryz.prog 27 #[.pointer (some ⟨g, 0, none⟩), .int .i64 n] w (Drawn w0 a c l g w (fun v => ∃ b, v = .bool b)) := by
  go_enter Tryz.func27, Tryz.ntmps27
  go_wp2_with (go_at_call 63; refine (l01Below hd n hn0 hn1).mono ?_; rintro e w1 ⟨v, ⟨x, rfl, hx0, hx1⟩, rfl, hd1, hg1⟩)
  go_ret
  exact ⟨_, ⟨_, rfl⟩, rfl, hd1, hg1⟩

end Go.Proofs.YtgnillmhpockkaaGreatDoor

namespace Go.Proofs.YtgnillmhpockkaaGreatDoor
open Go.RowKit

def TextIn (xs : List ByteArray) (v : Value) : Prop := ∃ s, v = .string s ∧ s ∈ xs

theorem Strs.grown {w w' : World} {a : Option Addr} {c : Nat} {xs : List ByteArray} (h : Strs w a c xs) {g : Nat} (hg : w.grownBy w' (some g)) (hne : ∀ b off, a = some ⟨b, off, none⟩ → b ≠ g) : Strs w' a c xs := by
  obtain ⟨h1, h2, h3, h3', h4⟩ := h
  refine ⟨h1, h2, h3, h3', fun hp => ?_⟩
  obtain ⟨b, off, ha, hlt, hc⟩ := h4 hp
  refine ⟨b, off, ha, Nat.lt_of_lt_of_le hlt hg.size, fun i hi => ?_⟩
  rw [World.cell?_of_block (w := w) (w' := w') (a := ⟨b, off + i, none⟩) (hg.block b hlt (fun e => hne b off ha (by cases e; rfl)))]
  exact hc i hi

set_option maxHeartbeats 1000000 in
theorem l01Pick {w0 : World} {a : Option Addr} {c : Nat} {l : List UInt8} {g : Nat} {w : World} (hd : Deck w0 a c l g w) (b : Nat) (cx : Nat) (xs : List ByteArray) (hx : Strs w (some ⟨b, 0, none⟩) cx xs) (hb : b ≠ g) (h0 : 1 ≤ xs.length) (h1 : xs.length ≤ 1000000) :
    Calls Tryz.prog 58 #[.pointer (some ⟨g, 0, none⟩), .slice (some ⟨b, 0, none⟩) xs.length cx] w (Drawn w0 a c l g w (TextIn xs)) := by
  go_enter Tryz.func58, Tryz.ntmps58
  go_wp2_with fail
  refine (l01Below hd (xs.length : Int) (by omega) (by omega)).mono ?_
  rintro e w1 ⟨v, ⟨x, rfl, hx0, hx1⟩, rfl, hd1, hg1⟩
  obtain ⟨k, rfl⟩ := Int.eq_ofNat_of_zero_le hx0
  have hk : k < xs.length := by omega
  have hs1 := hx.grown hg1 (fun b' off' e => by cases e; exact hb)
  have hc2 : w1.cell? ⟨b, k, none⟩ = some (.string xs[k]) := by
    obtain ⟨b', off', e, _, h⟩ := hs1.spot hk
    cases e
    simpa using h
  go_wp2_with fail
  go_ret
  exact ⟨_, ⟨_, rfl, List.getElem_mem hk⟩, rfl, hd1, hg1⟩

/-- A new row of texts that is laid in one go. -/
theorem strsLit (w : World) (xs : List ByteArray) (hs : ∀ s ∈ xs, s.size ≤ maxLen) (hn : xs.length ≤ 1000000) :
    Strs (w.alloc (.cells (xs.map Value.string).toArray 9)) (some ⟨w.heap.size, 0, none⟩) xs.length xs := by
  refine ⟨Nat.le_refl _, by unfold maxLen; omega, hs, (fun h => by cases h), fun _ => ⟨w.heap.size, 0, rfl, by simp, fun i hi => ?_⟩⟩
  rw [cell_of_row _ _ _ _ _ _ (heap_alloc_new w _)]
  simp [hi]

theorem Deck.alloc {w0 : World} {a : Option Addr} {c : Nat} {l : List UInt8} {g : Nat} {w : World} (h : Deck w0 a c l g w) (o : Obj) : Deck w0 a c l g (w.alloc o) :=
  h.belowed ((Below.refl _ _).alloc (Nat.le_refl _) _)

/-- The call draws out of a list that it lays. -/
theorem pickLit {w0 : World} {a : Option Addr} {c : Nat} {l : List UInt8} {g : Nat} {w : World} (hd : Deck w0 a c l g w) (xs : List ByteArray) (n : Nat) (hl : n = xs.length) (hs : ∀ s ∈ xs, s.size ≤ maxLen) (h0 : 1 ≤ xs.length) (h1 : xs.length ≤ 1000000) (cs : Array Value) (hcs : cs = (xs.map Value.string).toArray) :
    Calls Tryz.prog 58 #[.pointer (some ⟨g, 0, none⟩), .slice (some ⟨w.heap.size, 0, none⟩) n n] (w.alloc (.cells cs 9)) (Drawn w0 a c l g (w.alloc (.cells cs 9)) (TextIn xs)) := by
  subst hl hcs
  exact l01Pick (hd.alloc _) w.heap.size xs.length xs (strsLit w xs hs h1) (by have := hd.lt; omega) h0 h1

theorem Own.draw {w w' : World} {lo g : Nat} {a : Option Addr} {c : Nat} {xs : List ByteArray} (h : Own w lo a c xs) (hg : w.grownBy w' (some g)) (hlt : g < lo) : Own w' lo a c xs :=
  h.kept hg (fun k hk e => by cases e; have := (h.lt hk).1; omega)

/-- A row of the call's own grows while the cursor stands. -/
theorem grown_any {a b c : World} {g : Nat} {row : Option Nat} (h : a.grownBy b (some g)) (k : b.grownBy c row) (hr : ∀ j, row = some j → a.heap.size ≤ j) : a.grownBy c (some g) :=
  ⟨k.os.trans h.os, k.tape.trans h.tape, k.output.trans h.output, Nat.le_trans h.size k.size, fun i hi hne => (k.block i (Nat.lt_of_lt_of_le hi h.size) (fun e => by have := hr i e.symm; omega)).trans (h.block i hi hne)⟩

theorem grown_below {a b c : World} {g : Nat} (h : a.grownBy b (some g)) (k : Below b.heap.size b c) : a.grownBy c (some g) :=
  grown_any h (row := none) ⟨k.os, k.tape, k.output, k.size, fun i hi _ => k.block i hi⟩ (fun j e => by cases e)

theorem grown_alloc {a b : World} {g : Nat} (h : a.grownBy b (some g)) (o : Obj) : a.grownBy (b.alloc o) (some g) := grown_below h ((Below.refl _ _).alloc (Nat.le_refl _) _)

end Go.Proofs.YtgnillmhpockkaaGreatDoor
