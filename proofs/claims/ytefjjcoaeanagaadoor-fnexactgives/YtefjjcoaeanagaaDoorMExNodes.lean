/- spec.Nodes counts the nodes. -/
/- impl.eachNode: a walk over all nodes of an expression, for any function that sees them. -/
import Derived.Test.YtefjjcoaeanagaaDoorMEx
import Derived.Deep.RegionHeld3
import Derived.Deep.Light
namespace Go.Proofs.YtefjjcoaeanagaaDoor
open Go.RowKit

theorem nodesL_mono (l : List Ex) (k : Nat) : nodesL (l.take k) ≤ nodesL l := by
  induction l generalizing k with
  | nil => simp
  | cons e r ih =>
    cases k with
    | zero => simp [nodesL]
    | succ k => simp only [List.take_succ_cons, nodesL]; have := ih k; omega

theorem nodesL_get {l : List Ex} {k : Nat} (h : k < l.length) : l[k].nodes ≤ nodesL l := by
  have h1 := nodesL_take l k h
  have h2 := nodesL_mono l (k + 1)
  omega

def NodesP (d : Nat) : Prop := ∀ (e : Ex) (a : Option Addr) (c : Nat) (w : World), e.nodes ≤ 1073741824 → KidsAt w d a c e.kids →
  Calls Tryd.prog 42 #[.agg #[.int .i64 e.kind, .string e.text, .int .i64 e.num, .slice a e.kids.length c]] w fun x w' => x = .returned (.int .i64 e.nodes) ∧ Below w.heap.size w w'

set_option maxHeartbeats 1000000 in
theorem specNodes : ∀ d, NodesP d
  | 0 => fun _ _ _ _ _ h => h.elim
  | d + 1 => by
    intro e a c w hn hk
    have ih := specNodes d
    have hne := Ex.nodes_eq e
    have hl := hk.len
    have HK := Lib.hid (fun w' hb => hk.below (w' := w') hb)
    clear hk
    generalize hks : e.kids = xs at *
    go_enter Tryd.func42, Tryd.ntmps42
    go_wp2_with fail
    go_loopw [3, 4] (fun n i wr => ∃ k : Nat, k ≤ xs.length ∧ i = .int .i64 k ∧ n = .int .i64 (1 + nodesL (xs.take k) : Nat) ∧ wr.cell? ⟨w.heap.size, 3, none⟩ = some (.slice a xs.length c) ∧ w.heap.size < wr.heap.size ∧ Below w.heap.size w wr) (fun _ i _ => xs.length - (intOf i).toNat)
    case atStart => exact ⟨0, Nat.zero_le _, rfl, by simp [nodesL], by simp [go_sem], by simp, (Below.refl _ _).alloc (Nat.le_refl _) _⟩
    case round =>
      obtain ⟨k, hk, rfl, rfl, h3, hlw, hb⟩ := hrel
      by_cases hlt : k < xs.length
      · obtain ⟨b, off, rfl, hbl, hc0, hc1, hc2, hfit, a', c', hc3, hkid⟩ := (HK.out _ hb).spot hlt
        have HT := Lib.hid (nodesL_take xs k hlt)
        have HL := Lib.hid (nodesL_mono xs (k + 1))
        have HG := Lib.hid (nodesL_get hlt)
        have HX := Lib.hid (fun w' hb => hkid.below (w' := w') hb)
        clear hkid
        go_wp2_with fail
        refine (ih xs[k] a' c' _ (by have := HG.out; omega) (HX.out _ (Below.refl _ _))).mono ?_
        rintro x w2 ⟨rfl, hb2⟩
        have h3' := (hb2.cell (p := ⟨w.heap.size, 3, none⟩) hlw).trans h3
        have hb' := hb.trans (hb2.mono hb.size)
        have hlw' := Nat.lt_of_lt_of_le hlw hb2.size
        have hsum : Hid ((1 + nodesL (xs.take k) : Nat) + (xs[k].nodes : Int) ≤ 1073741824) := by have := HT.out; have := HL.out; unfold Hid; omega
        have hsum' := hsum.out
        clear h3 hb hb2 hc0 hc1 hc2 hc3 hlw
        go_wp2_with fail
        go_roundw
        case rel => exact ⟨k + 1, by omega, by go_num, by rw [HT.out]; go_num, h3', hlw', hb'⟩
        case measure => simp [intOf]; omega
      · obtain rfl : k = xs.length := by omega
        go_wp2_with fail
        go_ret
        exact ⟨by rw [List.take_length, hne]; rfl, hb⟩

end Go.Proofs.YtefjjcoaeanagaaDoor

namespace Go.Proofs.YtefjjcoaeanagaaDoor
open Go.RowKit

/-- As KidsAt, and every block of the tree is one of q. -/
def KidsQ (q : Nat → Prop) (w : World) : Nat → Option Addr → Nat → List Ex → Prop
  | 0, _, _, _ => False
  | d + 1, a, c, kids => kids.length ≤ c ∧ c ≤ maxLen ∧ (a = none → c = 0) ∧
    (0 < kids.length → ∃ b off, a = some ⟨b, off, none⟩ ∧ q b ∧ b < w.heap.size ∧ ∀ (i : Nat) (h : i < kids.length), At1 w b (off + i * 4) kids[i] (fun a' c' => KidsQ q w d a' c' kids[i].kids))

theorem KidsQ.agree {q : Nat → Prop} {w w' : World} (hs : w.heap.size ≤ w'.heap.size) (hc : ∀ b, q b → b < w.heap.size → ∀ o, w'.cell? ⟨b, o, none⟩ = w.cell? ⟨b, o, none⟩) :
    ∀ {d : Nat} {a : Option Addr} {c : Nat} {kids : List Ex}, KidsQ q w d a c kids → KidsQ q w' d a c kids
  | 0, _, _, _, h => h
  | d + 1, a, c, kids, h => by
    obtain ⟨h1, h2, h3, h4⟩ := h
    refine ⟨h1, h2, h3, fun hp => ?_⟩
    obtain ⟨b, off, ha, hlo, hlt, hcs⟩ := h4 hp
    refine ⟨b, off, ha, hlo, Nat.lt_of_lt_of_le hlt hs, fun i hi => ?_⟩
    obtain ⟨c1, c2, c3, hf, a', c', c4, hk⟩ := hcs i hi
    have e := hc b hlo hlt
    exact ⟨(e _).trans c1, (e _).trans c2, (e _).trans c3, hf, a', c', (e _).trans c4, KidsQ.agree hs hc hk⟩

theorem KidsQ.imp {q q' : Nat → Prop} {w : World} (hq : ∀ b, q b → b < w.heap.size → q' b) : ∀ {d : Nat} {a : Option Addr} {c : Nat} {kids : List Ex}, KidsQ q w d a c kids → KidsQ q' w d a c kids
  | 0, _, _, _, h => h
  | d + 1, a, c, kids, h => by
    obtain ⟨h1, h2, h3, h4⟩ := h
    refine ⟨h1, h2, h3, fun hp => ?_⟩
    obtain ⟨b, off, ha, hlo, hlt, hcs⟩ := h4 hp
    exact ⟨b, off, ha, hq b hlo hlt, hlt, fun i hi => (hcs i hi).mono fun a' c' hk => KidsQ.imp hq hk⟩

theorem KidsAt.q {w : World} : ∀ {d : Nat} {a : Option Addr} {c : Nat} {kids : List Ex}, KidsAt w d a c kids → KidsQ (fun b => b < w.heap.size) w d a c kids
  | 0, _, _, _, h => h
  | d + 1, a, c, kids, h => by
    obtain ⟨h1, h2, h3, h4⟩ := h
    refine ⟨h1, h2, h3, fun hp => ?_⟩
    obtain ⟨b, off, ha, hlt, hcs⟩ := h4 hp
    exact ⟨b, off, ha, hlt, hlt, fun i hi => (hcs i hi).mono fun a' c' hk => hk.q⟩

theorem KidsQ.at {q : Nat → Prop} {w : World} : ∀ {d : Nat} {a : Option Addr} {c : Nat} {kids : List Ex}, KidsQ q w d a c kids → KidsAt w d a c kids
  | 0, _, _, _, h => h
  | d + 1, a, c, kids, h => by
    obtain ⟨h1, h2, h3, h4⟩ := h
    refine ⟨h1, h2, h3, fun hp => ?_⟩
    obtain ⟨b, off, ha, _, hlt, hcs⟩ := h4 hp
    exact ⟨b, off, ha, hlt, fun i hi => (hcs i hi).mono fun a' c' hk => hk.at⟩

theorem KidsQ.spot {q : Nat → Prop} {w : World} {d : Nat} {a : Option Addr} {c : Nat} {kids : List Ex} (h : KidsQ q w (d + 1) a c kids) {i : Nat} (hi : i < kids.length) :
    ∃ b off, a = some ⟨b, off, none⟩ ∧ q b ∧ b < w.heap.size ∧ At1 w b (off + i * 4) kids[i] (fun a' c' => KidsQ q w d a' c' kids[i].kids) := by
  obtain ⟨_, _, _, h4⟩ := h
  obtain ⟨b, off, ha, hq, hlt, hc⟩ := h4 (by omega)
  exact ⟨b, off, ha, hq, hlt, hc i hi⟩

mutual
/-- Every node is right. -/
def Ex.all (chk : Ex → Bool) : Ex → Bool
  | .mk k t n kids => chk (.mk k t n kids) && allL chk kids
def allL (chk : Ex → Bool) : List Ex → Bool
  | [] => true
  | e :: r => e.all chk && allL chk r
end

theorem Ex.all_eq (chk : Ex → Bool) (e : Ex) : e.all chk = (chk e && allL chk e.kids) := by
  cases e; rw [Ex.all]; rfl

theorem allL_drop (chk : Ex → Bool) (l : List Ex) (k : Nat) (h : k < l.length) : allL chk (l.drop k) = (l[k].all chk && allL chk (l.drop (k + 1))) := by
  rw [List.drop_eq_getElem_cons h, allL]

theorem nodesL_drop (l : List Ex) (k : Nat) (h : k < l.length) : nodesL (l.drop k) = l[k].nodes + nodesL (l.drop (k + 1)) := by
  rw [List.drop_eq_getElem_cons h, nodesL]

/-- A list of kids that waits. -/
structure Pd where
  a : Option Addr
  c : Nat
  kids : List Ex

def Pd.v (p : Pd) : Value := .slice p.a p.kids.length p.c
def sumP (ps : List Pd) : Nat := (ps.map fun p => nodesL p.kids).sum
def allP (chk : Ex → Bool) (ps : List Pd) : Bool := ps.all fun p => allL chk p.kids

theorem sumP_snoc (ps : List Pd) (p : Pd) : sumP (ps ++ [p]) = sumP ps + nodesL p.kids := by simp [sumP]
theorem allP_snoc (chk : Ex → Bool) (ps : List Pd) (p : Pd) : allP chk (ps ++ [p]) = (allP chk ps && allL chk p.kids) := by simp [allP]

theorem nodesL_len : (l : List Ex) → l.length ≤ nodesL l
  | [] => by simp [nodesL]
  | e :: r => by rw [nodesL, List.length_cons]; have := nodesL_len r; have := Ex.nodes_eq e; omega

theorem sumP_len (ps : List Pd) (h : ∀ p ∈ ps, 0 < p.kids.length) : ps.length ≤ sumP ps := by
  induction ps with
  | nil => simp
  | cons p r ih =>
    have h1 := h p (List.mem_cons_self ..)
    have h2 := nodesL_len p.kids
    have h3 := ih fun q hq => h q (List.mem_cons_of_mem _ hq)
    simp only [sumP, List.map_cons, List.sum_cons, List.length_cons] at h3 ⊢
    omega

def SeeX (good : Bool) (pc : List PanicEntry) : Ending := if good then .returned (.tuple #[]) else .panicked pc

/-- How a function sees one node: it counts in the cell of block wb, and panics with pv where the node is not right. -/
def Sees (J : World → Prop) (k wb : Nat) (chk : Ex → Bool) (lim : Nat) (pc : List PanicEntry) : Prop := ∀ (e : Ex) (a : Option Addr) (c d m : Nat) (w : World), J w → e.fit → KidsAt w d a c e.kids →
  w.cell? ⟨wb, 0, none⟩ = some (.int .i64 m) → w.frozen? ⟨wb, 0, none⟩ = false → m ≤ 1073741824 →
  Calls Tryd.prog k #[.pointer (some ⟨wb, 0, none⟩), .agg #[.int .i64 e.kind, .string e.text, .int .i64 e.num, .slice a e.kids.length c]] w fun x w' =>
    w.grownBy w' (some wb) ∧ w'.cell? ⟨wb, 0, none⟩ = some (.int .i64 (m + 1 : Nat)) ∧ w'.frozen? ⟨wb, 0, none⟩ = false ∧
    x = SeeX (chk e && decide (m + 1 ≤ lim)) pc

/-- What a walk over all nodes answers. -/
def EachP (w : World) (wb : Nat) (chk : Ex → Bool) (lim : Nat) (pc : List PanicEntry) (e : Ex) (m : Nat) (x : Ending) (w' : World) : Prop :=
  w.grownBy w' (some wb) ∧ x = SeeX (e.all chk && decide (m + e.nodes ≤ lim)) pc ∧ (e.all chk = true → m + e.nodes ≤ lim → w'.cell? ⟨wb, 0, none⟩ = some (.int .i64 (m + e.nodes : Nat)))

theorem Tryd.infoKidsS : (Tryd.prog.info? 24).map (fun i => (i.zero, i.size, i.bytes)) = some (some (.slice none 0 0), 1, 24) := by kernel_rfl

/-- Where the trees lie that the walk reads. -/
def InQ (w : World) (wb b : Nat) : Prop := b = w.heap.size + 1 ∨ (b < w.heap.size ∧ b ≠ wb)

/-- What waits, and what has been counted. -/
structure WInv (w : World) (wb : Nat) (ps : List Pd) (v : Value) (mm : Nat) (wr : World) : Prop where
  row : wr.ownsRow (w.heap.size + 2) 24 1 v ps.length (ps.map Pd.v)
  kids : ∀ p ∈ ps, 0 < p.kids.length ∧ ∃ d, KidsQ (InQ w wb) wr d p.a p.c p.kids
  grown : w.grownBy wr (some wb)
  size : w.heap.size + 2 < wr.heap.size
  lt : wb < w.heap.size
  cell : wr.cell? ⟨wb, 0, none⟩ = some (.int .i64 mm)
  frozen : wr.frozen? ⟨wb, 0, none⟩ = false

theorem cell_grown {w w' : World} {row : Option Nat} (hg : w.grownBy w' row) {b : Nat} (hb : b < w.heap.size) (hne : row ≠ some b) (o : Nat) : w'.cell? ⟨b, o, none⟩ = w.cell? ⟨b, o, none⟩ :=
  hg.cell_far ⟨b, o, none⟩ hb (fun h => hne h.symm)

theorem kids_grown {w wr w2 : World} {wb : Nat} {row : Option Nat} (hsz : w.heap.size + 2 < wr.heap.size) (hg : wr.grownBy w2 row) (hrow : ∀ b, row = some b → b = wb ∨ w.heap.size + 2 ≤ b) (hwb : wb < w.heap.size) {d : Nat} {a : Option Addr} {c : Nat} {kids : List Ex}
    (h : KidsQ (InQ w wb) wr d a c kids) : KidsQ (InQ w wb) w2 d a c kids := by
  refine h.agree hg.size fun b hq hb o => cell_grown hg hb ?_ o
  intro e
  rcases hrow b e with h1 | h1
  · rcases hq with h2 | h2 <;> omega
  · rcases hq with h2 | h2 <;> omega

theorem WInv.next {w wr w2 : World} {wb mm mm' : Nat} {ps : List Pd} {v : Value} {row : Option Nat} (h : WInv w wb ps v mm wr) (hg : wr.grownBy w2 row) (hrow : row = none ∨ row = some wb) (hc : w2.cell? ⟨wb, 0, none⟩ = some (.int .i64 mm')) (hz : w2.frozen? ⟨wb, 0, none⟩ = false) : WInv w wb ps v mm' w2 := by
  have hl := h.lt
  refine ⟨h.row.kept hg ?_, fun p hp => ⟨(h.kids p hp).1, ?_⟩, ?_, Nat.lt_of_lt_of_le h.size hg.size, h.lt, hc, hz⟩
  · cases ho : v.ownBlock with
    | none => exact .inl rfl
    | some g =>
      right
      have := (h.row.lt g ho).1
      rcases hrow with rfl | rfl
      · simp
      · intro e; cases e; omega
  · obtain ⟨d, hk⟩ := (h.kids p hp).2
    exact ⟨d, kids_grown h.size hg (by rintro b rfl; rcases hrow with h1 | h1 <;> cases h1; exact .inl rfl) h.lt hk⟩
  · exact h.grown.andThen hg (by rintro j rfl; rcases hrow with h1 | h1 <;> cases h1; exact .inr rfl)

theorem WInv.alloc {w wr : World} {wb mm : Nat} {ps : List Pd} {v : Value} (h : WInv w wb ps v mm wr) (o : Obj) : WInv w wb ps v mm (wr.alloc o) := by
  have hlt : wb < wr.heap.size := Nat.lt_of_lt_of_le h.lt h.grown.size
  have hb : Below wr.heap.size wr (wr.alloc o) := (Below.refl _ _).alloc (Nat.le_refl _) o
  have hg : wr.grownBy (wr.alloc o) none := ⟨hb.os, hb.tape, hb.output, hb.size, fun k hk _ => hb.block k hk⟩
  exact h.next hg (.inl rfl) ((hg.cell_far ⟨wb, 0, none⟩ hlt (by simp)).trans h.cell) ((hg.frozen_far ⟨wb, 0, none⟩ hlt (by simp)).trans h.frozen)

theorem WInv.push {w wr w2 : World} {wb mm : Nat} {ps : List Pd} {v v' : Value} (h : WInv w wb ps v mm wr) (p : Pd) (hp : 0 < p.kids.length) {d : Nat} (hk : KidsQ (InQ w wb) wr d p.a p.c p.kids)
    (hrow : w2.ownsRow (w.heap.size + 2) 24 1 v' (ps.length + 1) (ps.map Pd.v ++ [p.v])) (hg : wr.grownBy w2 v.ownBlock) : WInv w wb (ps ++ [p]) v' mm w2 := by
  have hl := h.lt
  have hlt : wb < wr.heap.size := Nat.lt_of_lt_of_le h.lt h.grown.size
  have hown : ∀ b, v.ownBlock = some b → w.heap.size + 2 ≤ b := fun b hb => (h.row.lt b hb).1
  have hne : some wb ≠ v.ownBlock := fun e => by have := hown wb e.symm; omega
  refine ⟨by simpa using hrow, fun q hq => ?_, ?_, Nat.lt_of_lt_of_le h.size hg.size, h.lt, (hg.cell_far ⟨wb, 0, none⟩ hlt hne).trans h.cell, (hg.frozen_far ⟨wb, 0, none⟩ hlt hne).trans h.frozen⟩
  · rcases List.mem_append.1 hq with hq | hq
    · obtain ⟨d, hk⟩ := (h.kids q hq).2
      exact ⟨(h.kids q hq).1, d, kids_grown h.size hg (fun b hb => .inr (hown b hb)) h.lt hk⟩
    · rw [List.mem_singleton] at hq
      subst hq
      exact ⟨hp, d, kids_grown h.size hg (fun b hb => .inr (hown b hb)) h.lt hk⟩
  · exact h.grown.andThen hg fun j hj => .inl (by have := hown j hj; omega)

theorem WInv.form {w wr : World} {wb mm : Nat} {ps : List Pd} {v : Value} (h : WInv w wb ps v mm wr) : ∃ a c, v = .slice a ps.length c := by
  rcases h.row.2 with ⟨hv, hn⟩ | ⟨g, cap, cur, hv, _⟩
  · exact ⟨none, 0, by rw [hv, hn]⟩
  · exact ⟨_, _, hv⟩

theorem WInv.pop {w wr : World} {wb mm : Nat} {ps : List Pd} {p : Pd} {v : Value} (h : WInv w wb (ps ++ [p]) v mm wr) :
    ∃ g cap, v = .slice (some ⟨g, 0, none⟩) (ps.length + 1) cap ∧ ps.length + 1 ≤ cap ∧ cap ≤ maxLen ∧ wr.cell? ⟨g, ps.length, none⟩ = some p.v ∧ WInv w wb ps (.slice (some ⟨g, 0, none⟩) ps.length cap) mm wr ∧ 0 < p.kids.length ∧ ∃ d, KidsQ (InQ w wb) wr d p.a p.c p.kids := by
  obtain ⟨hp, hk⟩ := h.kids p (List.mem_append_right _ (List.mem_singleton.2 rfl))
  have hr := h.row
  rcases h.row.2 with ⟨_, hn⟩ | ⟨g, cap, cur, hv, hB, hg, hnc, hcm, hcs, ht⟩
  · simp at hn
  · subst hv
    refine ⟨g, cap, by simp, by simpa using hnc, hcm, ?_, ⟨?_, fun q hq => h.kids q (List.mem_append_left _ hq), h.grown, h.size, h.lt, h.cell, h.frozen⟩, hp, hk⟩
    · rw [hr.cellAt ps.length (by simp)]
      simp
    · refine ⟨by simp, .inr ⟨g, cap, cur, rfl, hB, hg, by simp at hnc; omega, hcm, hcs, ?_⟩⟩
      have := congrArg (List.take (ps.length * 1)) ht
      simpa [List.take_take, Nat.min_eq_left] using this

/-- One list put behind those that wait. -/
theorem wpPush {w wr : World} {wb mm : Nat} {ps : List Pd} {ops : Array Oper} {rest : List Oper} {o : Oper} {A : Act} {Q : Exit → Act → World → Prop} (hgd : o.guard = none) (s x : Operand)
    (ho : o.op = .call { callee := .builtin .append, args := #[s, x], argTypes := #[119, 119] }) (a0 : Option Addr) (c0 : Nat) (p : Pd) (d : Nat) (o1 : Obj)
    (hI : WInv w wb ps (.slice a0 ps.length c0) mm wr) (hp : 0 < p.kids.length) (hk : KidsQ (InQ w wb) wr d p.a p.c p.kids) (hn : ps.length + 1 ≤ 1073741824)
    (hs : A.eval s = .slice a0 ps.length c0) (hx : A.eval x = .slice (some ⟨wr.heap.size, 0, none⟩) 1 1) (ho1 : o1 = .cells #[.slice p.a p.kids.length p.c] 24)
    (h : ∀ a' c' w', Hid (WInv w wb (ps ++ [p]) (.slice a' (ps.length + 1) c') mm w' ∧ wr.grownBy w' (Value.slice a0 ps.length c0).ownBlock) → wpList Tryd.prog ops Q rest (A.put o.dst (.slice a' (ps.length + 1) c')) w') :
    wpList Tryd.prog ops Q (o :: rest) A (wr.alloc o1) := by
  subst ho1
  obtain ⟨i0, hi0, hz0, hz1, hz2⟩ := info_parts Tryd.infoKidsS
  have hI2 := hI.alloc (.cells #[.slice p.a p.kids.length p.c] 24)
  refine wpList_append_own_at _ hgd s x 119 ho (w.heap.size + 2) 24 i0 (.slice none 0 0) 1 24 Tryd.underlying119 hi0 hz0 hz1 hz2 rfl (by decide) (.slice a0 ps.length c0) ps.length (ps.map Pd.v) hs hI2.row
    ⟨wr.heap.size, 0, none⟩ 1 1 [p.v] hx rfl ?_ (fun u hu => by simp at hu; subst hu; rfl) (by unfold maxLen; omega) (by omega) (by have := hI2.size; omega) ?_
  · intro j u hu
    cases j with
    | zero => simp at hu; subst hu; simp [go_sem, Addr.add, Pd.v]
    | succ j => simp at hu
  · intro v' w' hown' hg _ _
    have hb : Below wr.heap.size wr (wr.alloc (.cells #[.slice p.a p.kids.length p.c] 24)) := (Below.refl _ _).alloc (Nat.le_refl _) _
    have hg0 : wr.grownBy (wr.alloc (.cells #[.slice p.a p.kids.length p.c] 24)) none := ⟨hb.os, hb.tape, hb.output, hb.size, fun k hk _ => hb.block k hk⟩
    have hk2 := kids_grown hI.size hg0 (by simp) hI.lt hk
    obtain ⟨a', c', rfl⟩ : ∃ a' c', v' = .slice a' (ps.length + 1) c' := by
      rcases hown'.2 with ⟨_, h0⟩ | ⟨g', cap, cur, rfl, _⟩
      · omega
      · exact ⟨_, _, rfl⟩
    exact h a' c' w' ⟨hI2.push p hp hk2 hown' hg, (hg0.but _).trans hg⟩

def cellN (wr : World) (wb : Nat) : Nat := match wr.cell? ⟨wb, 0, none⟩ with | some v => (intOf v).toNat | none => 0

theorem WInv.cellN {w wr : World} {wb mm : Nat} {ps : List Pd} {v : Value} (h : WInv w wb ps v mm wr) : cellN wr wb = mm := by
  unfold Go.Proofs.YtefjjcoaeanagaaDoor.cellN
  rw [h.cell]
  simp [intOf]

theorem WInv.start {w : World} {wb m : Nat} {e : Ex} {a : Option Addr} {c d : Nat} (hfit : e.fit) (hk : KidsQ (fun b => b ≠ wb) w d a c e.kids) (hwb : wb < w.heap.size) (hm : w.cell? ⟨wb, 0, none⟩ = some (.int .i64 m)) (hz : w.frozen? ⟨wb, 0, none⟩ = false) (o : Obj) {W : World}
    (hW : W = ((w.alloc o).alloc (.cells #[.int .i64 e.kind, .string e.text, .int .i64 e.num, .slice a e.kids.length c] 26)).alloc (.cells #[.slice (some ⟨w.heap.size + 1, 0, none⟩) 1 1] 24)) :
    WInv w wb [⟨some ⟨w.heap.size + 1, 0, none⟩, 1, [e]⟩] (.slice (some ⟨w.heap.size + 1 + 1, 0, none⟩) 1 1) m W := by
  have hb : Below w.heap.size w W := by
    subst hW
    exact (((Below.refl _ _).alloc (Nat.le_refl _) _).alloc (by simp) _).alloc (by simp; omega) _
  have hg : w.grownBy W none := ⟨hb.os, hb.tape, hb.output, hb.size, fun k hk _ => hb.block k hk⟩
  have hsz : W.heap.size = w.heap.size + 3 := by subst hW; simp
  refine ⟨?_, fun p hp => ?_, hg.but _, by omega, hwb, (hg.cell_far ⟨wb, 0, none⟩ hwb (by simp)).trans hm, (hg.frozen_far ⟨wb, 0, none⟩ hwb (by simp)).trans hz⟩
  · subst hW
    have := World.ownsRow_lit (base := w.heap.size + 2) (e := 24) (size := 1) ((w.alloc o).alloc (.cells #[.int .i64 e.kind, .string e.text, .int .i64 e.num, .slice a e.kids.length c] 26)) #[.slice (some ⟨w.heap.size + 1, 0, none⟩) 1 1] 1 (by simp) (by unfold maxLen; omega) rfl
    simpa [Pd.v] using this
  · rw [List.mem_singleton] at hp
    subst hp
    refine ⟨by simp, d + 1, by simp, by show 1 ≤ maxLen; unfold maxLen; omega, (fun h => by cases h), fun _ => ⟨w.heap.size + 1, 0, rfl, .inl rfl, by omega, fun i hi => ?_⟩⟩
    have : i = 0 := by simpa using hi
    subst this
    have hk' : KidsQ (InQ w wb) W d a c e.kids := (hk.imp (q' := InQ w wb) fun b h1 h2 => .inr ⟨h2, h1⟩).agree hb.size fun b _ h o => hb.cell (p := ⟨b, o, none⟩) h
    refine ⟨?_, ?_, ?_, hfit, a, c, ?_, hk'⟩ <;> subst hW <;> simp [go_sem]

end Go.Proofs.YtefjjcoaeanagaaDoor
