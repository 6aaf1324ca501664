/- impl.eachNode collects the columns of all nodes. -/
/- strings.Clone answers the same text. -/
/- impl.Columns answers the rising list of the columns. -/
import Derived.Test.YtpdcmmhhgnackaaDoorMGivP
import Derived.Test.YtpdcmmhhgnackaaDoorMShelf
import Derived.Lib.OwnBridge
import Derived.Sort.OwnSorted
import Derived.Sort.Grow
import Derived.Deep.RegionHeld3
import Derived.Deep.RegionLaw
import Derived.Deep.RegionWith
import Derived.Deep.Upon
namespace Go.Proofs.YtpdcmmhhgnackaaDoor
open Go.RowKit

/-- What waits, and what has been collected. -/
structure CInv (w : World) (wb : Nat) (ps : List Pd) (v : Value) (ao : Option Addr) (co : Nat) (outs : List ByteArray) (wr : World) : Prop where
  row : wr.ownsRow (w.heap.size + 2) 24 1 v ps.length (ps.map Pd.v)
  kids : ∀ p ∈ ps, 0 < p.kids.length ∧ ∃ d, KidsQ (InQ w wb) wr d p.a p.c p.kids
  grown : w.grownBy wr (some wb)
  size : w.heap.size + 2 < wr.heap.size
  lt : wb < w.heap.size
  coll : Coll wb (w.heap.size + 2) ao co outs wr
  apart : ∀ g, v.ownBlock = some g → (Value.slice ao outs.length co).ownBlock ≠ some g

theorem kids_turn2 {w wr w2 : World} {wb : Nat} {row : Option Nat} (ht : Turn2 wr w2 wb row) (hrow : ∀ b, row = some b → w.heap.size + 2 ≤ b) (hwb : wb < w.heap.size) {d : Nat} {a : Option Addr} {c : Nat} {kids : List Ex}
    (h : KidsQ (InQ w wb) wr d a c kids) : KidsQ (InQ w wb) w2 d a c kids := by
  refine h.agree ht.2.2.2.1 fun b hq hb o => World.cell?_of_block (a := ⟨b, o, none⟩) (ht.2.2.2.2 b hb ?_ ?_)
  · rcases hq with h2 | h2 <;> omega
  · intro e
    have := hrow b e.symm
    rcases hq with h2 | h2 <;> omega

theorem CInv.turn {w wr w2 : World} {wb : Nat} {ps : List Pd} {v : Value} {ao ao' : Option Addr} {co co' : Nat} {outs outs' : List ByteArray} (h : CInv w wb ps v ao co outs wr) (ht : Turn2 wr w2 wb (Value.slice ao outs.length co).ownBlock)
    (hc : Coll wb (w.heap.size + 2) ao' co' outs' w2) (hat : (Value.slice ao' outs'.length co').ownBlock = (Value.slice ao outs.length co).ownBlock ∨ ∃ g, (Value.slice ao' outs'.length co').ownBlock = some g ∧ wr.heap.size ≤ g) :
    CInv w wb ps v ao' co' outs' w2 := by
  have hl := h.lt
  have hro : ∀ b, (Value.slice ao outs.length co).ownBlock = some b → w.heap.size + 2 ≤ b := fun b hb => (h.coll.own.lt hb).1
  refine ⟨ownsRow_block h.row fun g hg => ?_, fun p hp => ⟨(h.kids p hp).1, ?_⟩, ?_, Nat.lt_of_lt_of_le h.size ht.2.2.2.1, hl, hc, fun g hg e => ?_⟩
  · have hgl := h.row.lt g hg
    exact ht.2.2.2.2 g hgl.2 (by omega) (fun e => h.apart g hg e.symm)
  · obtain ⟨d, hk⟩ := (h.kids p hp).2
    exact ⟨d, kids_turn2 ht hro hl hk⟩
  · refine ⟨ht.1.trans h.grown.os, ht.2.1.trans h.grown.tape, ht.2.2.1.trans h.grown.output, Nat.le_trans h.grown.size ht.2.2.2.1, fun k hk hne => ?_⟩
    rw [ht.2.2.2.2 k (Nat.lt_of_lt_of_le hk h.grown.size) (fun e => hne (by rw [e])) (fun e => by have := hro k e.symm; omega), h.grown.block k hk hne]
  · have hgl := h.row.lt g hg
    rcases hat with e2 | ⟨g2, e2, hge⟩
    · exact h.apart g hg (e2.symm.trans e)
    · rw [e2] at e
      have := Option.some.inj e
      omega

theorem CInv.below {w wr w2 : World} {wb : Nat} {ps : List Pd} {v : Value} {ao : Option Addr} {co : Nat} {outs : List ByteArray} (h : CInv w wb ps v ao co outs wr) (hb : Below wr.heap.size wr w2) : CInv w wb ps v ao co outs w2 :=
  h.turn (below_turn2 hb _ _) (h.coll.below hb) (.inl rfl)

theorem CInv.alloc {w wr : World} {wb : Nat} {ps : List Pd} {v : Value} {ao : Option Addr} {co : Nat} {outs : List ByteArray} (h : CInv w wb ps v ao co outs wr) (o : Obj) : CInv w wb ps v ao co outs (wr.alloc o) :=
  h.below ((Below.refl _ _).alloc (Nat.le_refl _) o)

theorem CInv.push {w wr w2 : World} {wb : Nat} {ps : List Pd} {v v' : Value} {ao : Option Addr} {co : Nat} {outs : List ByteArray} (h : CInv w wb ps v ao co outs wr) (p : Pd) (hp : 0 < p.kids.length) {d : Nat} (hk : KidsQ (InQ w wb) wr d p.a p.c p.kids)
    (hrow : w2.ownsRow (w.heap.size + 2) 24 1 v' (ps.length + 1) (ps.map Pd.v ++ [p.v])) (hg : wr.grownBy w2 v.ownBlock) (hat : v'.ownBlock = v.ownBlock ∨ v'.ownBlock = some wr.heap.size) : CInv w wb (ps ++ [p]) v' ao co outs w2 := by
  have hl := h.lt
  have hlt : wb < wr.heap.size := Nat.lt_of_lt_of_le h.lt h.grown.size
  have hown : ∀ b, v.ownBlock = some b → w.heap.size + 2 ≤ b := fun b hb => (h.row.lt b hb).1
  have hne : some wb ≠ v.ownBlock := fun e => by have := hown wb e.symm; omega
  refine ⟨by simpa using hrow, fun q hq => ?_, ?_, Nat.lt_of_lt_of_le h.size hg.size, h.lt, ⟨(hg.cell_far ⟨wb, 0, none⟩ hlt hne).trans h.coll.cell, (hg.frozen_far ⟨wb, 0, none⟩ hlt hne).trans h.coll.frozen, ?_, h.coll.lt, Nat.le_trans h.coll.le hg.size⟩, fun g hgo e => ?_⟩
  · rcases List.mem_append.1 hq with hq | hq
    · obtain ⟨d, hk⟩ := (h.kids q hq).2
      exact ⟨(h.kids q hq).1, d, kids_grown h.size hg (fun b hb => .inr (hown b hb)) h.lt hk⟩
    · rw [List.mem_singleton] at hq
      subst hq
      exact ⟨hp, d, kids_grown h.size hg (fun b hb => .inr (hown b hb)) h.lt hk⟩
  · exact h.grown.andThen hg fun j hj => .inl (by have := hown j hj; omega)
  · exact ownsRow_block h.coll.own fun g hg' => hg.block g (h.coll.own.lt hg').2 (fun e => h.apart g e.symm hg')
  · rcases hat with e2 | e2
    · exact h.apart g (e2.symm.trans hgo) e
    · rw [e2] at hgo
      have := (h.coll.own.lt e).2
      have := Option.some.inj hgo
      omega

theorem CInv.form {w wr : World} {wb : Nat} {ps : List Pd} {v : Value} {ao : Option Addr} {co : Nat} {outs : List ByteArray} (h : CInv w wb ps v ao co outs wr) : ∃ a c, v = .slice a ps.length c := by
  rcases h.row.2 with ⟨hv, hn⟩ | ⟨g, cap, cur, hv, _⟩
  · exact ⟨none, 0, by rw [hv, hn]⟩
  · exact ⟨_, _, hv⟩

theorem CInv.pop {w wr : World} {wb : Nat} {ps : List Pd} {p : Pd} {v : Value} {ao : Option Addr} {co : Nat} {outs : List ByteArray} (h : CInv w wb (ps ++ [p]) v ao co outs wr) :
    ∃ g cap, v = .slice (some ⟨g, 0, none⟩) (ps.length + 1) cap ∧ ps.length + 1 ≤ cap ∧ cap ≤ maxLen ∧ wr.cell? ⟨g, ps.length, none⟩ = some p.v ∧ CInv w wb ps (.slice (some ⟨g, 0, none⟩) ps.length cap) ao co outs wr ∧ 0 < p.kids.length ∧ ∃ d, KidsQ (InQ w wb) wr d p.a p.c p.kids := by
  obtain ⟨hp, hk⟩ := h.kids p (List.mem_append_right _ (List.mem_singleton.2 rfl))
  have hr := h.row
  have hap := h.apart
  rcases h.row.2 with ⟨_, hn⟩ | ⟨g, cap, cur, hv, hB, hg, hnc, hcm, hcs, ht⟩
  · simp at hn
  · subst hv
    refine ⟨g, cap, by simp, by simpa using hnc, hcm, ?_, ⟨?_, fun q hq => h.kids q (List.mem_append_left _ hq), h.grown, h.size, h.lt, h.coll, fun q hq => hap q hq⟩, hp, hk⟩
    · rw [hr.cellAt ps.length (by simp)]
      simp
    · refine ⟨by simp, .inr ⟨g, cap, cur, rfl, hB, hg, by simp at hnc; omega, hcm, hcs, ?_⟩⟩
      have := congrArg (List.take (ps.length * 1)) ht
      simpa [List.take_take, Nat.min_eq_left] using this

/-- One list put behind those that wait. -/
theorem wpPushC {w wr : World} {wb : Nat} {ps : List Pd} {ao : Option Addr} {co : Nat} {outs : List ByteArray} {ops : Array Oper} {rest : List Oper} {o : Oper} {A : Act} {Q : Exit → Act → World → Prop} (hgd : o.guard = none) (s x : Operand)
    (ho : o.op = .call { callee := .builtin .append, args := #[s, x], argTypes := #[125, 125] }) (a0 : Option Addr) (c0 : Nat) (p : Pd) (d : Nat) (o1 : Obj)
    (hI : CInv w wb ps (.slice a0 ps.length c0) ao co outs wr) (hp : 0 < p.kids.length) (hk : KidsQ (InQ w wb) wr d p.a p.c p.kids) (hn : ps.length + 1 ≤ 1073741824)
    (hs : A.eval s = .slice a0 ps.length c0) (hx : A.eval x = .slice (some ⟨wr.heap.size, 0, none⟩) 1 1) (ho1 : o1 = .cells #[.slice p.a p.kids.length p.c] 24)
    (h : ∀ a' c' w', Hid (CInv w wb (ps ++ [p]) (.slice a' (ps.length + 1) c') ao co outs w' ∧ wr.grownBy w' (Value.slice a0 ps.length c0).ownBlock) → wpList Tryd.prog ops Q rest (A.put o.dst (.slice a' (ps.length + 1) c')) w') :
    wpList Tryd.prog ops Q (o :: rest) A (wr.alloc o1) := by
  subst ho1
  obtain ⟨i0, hi0, hz0, hz1, hz2⟩ := info_parts Tryd.infoKidsS
  have hI2 := hI.alloc (.cells #[.slice p.a p.kids.length p.c] 24)
  refine wpList_append_own_at _ hgd s x 125 ho (w.heap.size + 2) 24 i0 (.slice none 0 0) 1 24 Tryd.underlying125 hi0 hz0 hz1 hz2 rfl (by decide) (.slice a0 ps.length c0) ps.length (ps.map Pd.v) hs hI2.row
    ⟨wr.heap.size, 0, none⟩ 1 1 [p.v] hx rfl ?_ (fun u hu => by simp at hu; subst hu; rfl) (by unfold maxLen; omega) (by omega) (by have := hI2.size; omega) ?_
  · intro j u hu
    cases j with
    | zero => simp at hu; subst hu; simp [go_sem, Addr.add, Pd.v]
    | succ j => simp at hu
  · intro v' w' hown' hg _ hat
    have hb : Below wr.heap.size wr (wr.alloc (.cells #[.slice p.a p.kids.length p.c] 24)) := (Below.refl _ _).alloc (Nat.le_refl _) _
    have hg0 : wr.grownBy (wr.alloc (.cells #[.slice p.a p.kids.length p.c] 24)) none := ⟨hb.os, hb.tape, hb.output, hb.size, fun k hk _ => hb.block k hk⟩
    have hk2 := kids_grown hI.size hg0 (by simp) hI.lt hk
    obtain ⟨a', c', rfl⟩ : ∃ a' c', v' = .slice a' (ps.length + 1) c' := by
      rcases hown'.2 with ⟨_, h0⟩ | ⟨g', cap, cur, rfl, _⟩
      · omega
      · exact ⟨_, _, rfl⟩
    exact h a' c' w' ⟨hI2.push p hp hk2 hown' hg hat, (hg0.but _).trans hg⟩

theorem CInv.start {w : World} {wb : Nat} {e : Ex} {a : Option Addr} {c d : Nat} (hfit : e.fit) (hk : KidsQ (fun b => b ≠ wb) w d a c e.kids) (hwb : wb < w.heap.size) (hm : w.cell? ⟨wb, 0, none⟩ = some (.slice none 0 0)) (hz : w.frozen? ⟨wb, 0, none⟩ = false) (o : Obj) {W : World}
    (hW : W = ((w.alloc o).alloc (.cells #[.int .i64 e.kind, .string e.text, .int .i64 e.num, .slice a e.kids.length c] 26)).alloc (.cells #[.slice (some ⟨w.heap.size + 1, 0, none⟩) 1 1] 24)) :
    CInv w wb [⟨some ⟨w.heap.size + 1, 0, none⟩, 1, [e]⟩] (.slice (some ⟨w.heap.size + 1 + 1, 0, none⟩) 1 1) none 0 [] W := by
  have hb : Below w.heap.size w W := by
    subst hW
    exact (((Below.refl _ _).alloc (Nat.le_refl _) _).alloc (by simp) _).alloc (by simp; omega) _
  have hg : w.grownBy W none := ⟨hb.os, hb.tape, hb.output, hb.size, fun k hk _ => hb.block k hk⟩
  have hsz : W.heap.size = w.heap.size + 3 := by subst hW; simp
  refine ⟨?_, fun p hp => ?_, hg.but _, by omega, hwb, ⟨(hg.cell_far ⟨wb, 0, none⟩ hwb (by simp)).trans hm, (hg.frozen_far ⟨wb, 0, none⟩ hwb (by simp)).trans hz, Own.nil _ _, by omega, by omega⟩, fun g _ h => by cases h⟩
  · subst hW
    have := World.ownsRow_lit (base := w.heap.size + 2) (e := 24) (size := 1) ((w.alloc o).alloc (.cells #[.int .i64 e.kind, .string e.text, .int .i64 e.num, .slice a e.kids.length c] 26)) #[.slice (some ⟨w.heap.size + 1, 0, none⟩) 1 1] 1 (by simp) (by unfold maxLen; omega) rfl
    simpa [Pd.v] using this
  · rw [List.mem_singleton] at hp
    subst hp
    refine ⟨by simp, d + 1, by simp, by show 1 ≤ maxLen; unfold maxLen; omega, (fun h => by cases h), fun _ => ⟨w.heap.size + 1, 0, rfl, .inl rfl, by omega, fun i hi => ?_⟩⟩
    have : i = 0 := by simpa using hi
    subst this
    have hk' : KidsQ (InQ w wb) W d a c e.kids := (hk.imp (q' := InQ w wb) fun b h1 h2 => .inr ⟨h2, h1⟩).agree hb.size fun b _ h o => hb.cell (p := ⟨b, o, none⟩) h
    refine ⟨?_, ?_, ?_, hfit, a, c, ?_, hk'⟩ <;> subst hW <;> simp [go_sem]

def colP (ps : List Pd) : List ByteArray := ps.flatMap fun p => colsL p.kids
theorem colP_snoc (ps : List Pd) (p : Pd) : colP (ps ++ [p]) = colP ps ++ colsL p.kids := by simp [colP]
theorem colsL_drop (l : List Ex) (k : Nat) (h : k < l.length) : colsL (l.drop k) = l[k].cols ++ colsL (l.drop (k + 1)) := by
  rw [List.drop_eq_getElem_cons h, colsL]

/-- What a walk over all nodes collects. -/
def EachC (w : World) (wb : Nat) (e : Ex) (x : Ending) (w' : World) : Prop :=
  x = .returned (.tuple #[]) ∧ w.grownBy w' (some wb) ∧ ∃ ao co outs, Coll wb (w.heap.size + 2) ao co outs w' ∧ (∀ t, t ∈ outs ↔ t ∈ e.cols) ∧ outs.length ≤ e.nodes

set_option maxRecDepth 100000 in
set_option maxHeartbeats 2000000 in
theorem eachCols (wb : Nat) (e : Ex) (a : Option Addr) (c d : Nat) (w : World) (hfit : e.fit) (hk : KidsQ (fun b => b ≠ wb) w d a c e.kids)
    (hwb : wb < w.heap.size) (hm : w.cell? ⟨wb, 0, none⟩ = some (.slice none 0 0)) (hz : w.frozen? ⟨wb, 0, none⟩ = false) (hn : e.nodes ≤ 4194304) :
    Calls Tryd.prog 31 #[.agg #[.int .i64 e.kind, .string e.text, .int .i64 e.num, .slice a e.kids.length c], .func (.func 32) #[] #[.pointer (some ⟨wb, 0, none⟩)]] w (EachC w wb e) := by
  obtain ⟨i0, hi0, hz0, hz1, hz2⟩ := info_parts Tryd.infoKidsS
  have HST := Lib.hid (CInv.start hfit hk hwb hm hz)
  clear hk hfit hm hz
  go_enter Tryd.func31, Tryd.ntmps31
  go_wp2_with fail
  go_loopg [4] e.nodes (fun N v wr => ∃ ps ao co outs, CInv w wb ps v ao co outs wr ∧ sumP ps = N ∧ outs.length + N ≤ e.nodes ∧ Hid (∀ t, t ∈ e.cols ↔ t ∈ outs ∨ t ∈ colP ps))
  case atStart => exact ⟨_, none, 0, [], HST.out _ rfl, by simp [sumP, nodesL], by simp, fun t => by simp [colP, colsL]⟩
  case round =>
    obtain ⟨ps, ao, co, outs, hI, hsum, hle, hset⟩ := hrel
    rcases List.eq_nil_or_concat ps with rfl | ⟨qs, ⟨pa, pcp, pk⟩, rfl⟩
    · obtain ⟨a0, c0, rfl⟩ := hI.form
      have HI := Lib.hid hI
      have HL := Lib.hid hle
      clear hI hsum hle
      go_wp2_with fail
      refine bodyPost_end (results_none rfl _ _ _) rfl ?_
      exact ⟨rfl, HI.out.grown, ao, co, outs, HI.out.coll, fun t => by rw [hset.out t]; simp [colP], by have := HL.out; omega⟩
    · obtain ⟨g, cap, rfl, hcap, hcapm, hcell, hI2, hpk, d2, hk2⟩ := CInv.pop (by simpa using hI)
      unfold Pd.v at hcell
      simp only at hcell hpk hk2
      unfold maxLen at hcapm
      have HI := Lib.hid hI2
      have HK2 := Lib.hid hk2
      rw [List.concat_eq_append, sumP_snoc] at hsum
      have HSET : Hid (∀ t, t ∈ e.cols ↔ t ∈ outs ∨ t ∈ colP qs ∨ t ∈ colsL pk) := fun t => by rw [hset.out t, List.concat_eq_append, colP_snoc, List.mem_append]
      have HS := Lib.hid hsum
      have HLE := Lib.hid hle
      have HPK := Lib.hid hpk
      clear hI hI2 hk2 hsum hset hle
      go_wp2_with fail
      go_loopw [4, 27] (fun v i wr => ∃ (ps : List Pd) (k : Nat) (ao : Option Addr) (co : Nat) (outs : List ByteArray), i = .int .i64 k ∧ k ≤ pk.length ∧ CInv w wb ps v ao co outs wr ∧ KidsQ (InQ w wb) wr d2 pa pcp pk ∧ k + sumP ps + nodesL (pk.drop k) = gk ∧ outs.length + sumP ps + nodesL (pk.drop k) ≤ e.nodes ∧ Hid (∀ t, t ∈ e.cols ↔ t ∈ outs ∨ t ∈ colP ps ∨ t ∈ colsL (pk.drop k))) (fun _ i _ => pk.length - (intOf i).toNat)
      case atStart => exact ⟨qs, 0, ao, co, outs, rfl, Nat.zero_le _, HI.out, HK2.out, by have := HS.out; simp only [List.drop_zero] at this ⊢; omega, by have h1 := HLE.out; have h2 := HS.out; simp only [List.drop_zero] at h2 ⊢; omega, by simpa using HSET⟩
      case round =>
        obtain ⟨ps, k, ao, co, outs, rfl, hk, hI3, hk3, hsum3, hle3, hset3⟩ := hrel
        obtain ⟨a0, c0, rfl⟩ := hI3.form
        by_cases hlt : k < pk.length
        · obtain ⟨d3, rfl⟩ : ∃ q, d2 = q + 1 := ⟨d2 - 1, by cases d2 with | zero => exact hk3.elim | succ n => omega⟩
          obtain ⟨b, off, rfl, hq, hbl, hc0, hc1, hc2, hfit, a', c', hc3, hkid⟩ := hk3.spot hlt
          have hxl := hkid.at.len
          have hkb : k ≤ 4194304 := by have := HLE.out; omega
          have HDN := Lib.hid (nodesL_drop pk k hlt)
          have HNE := Lib.hid (Ex.nodes_eq pk[k])
          have hol : Hid (outs.length + 1 ≤ 8388608) := by have h1 := HDN.out; have h2 := HNE.out; unfold Hid; omega
          have HI3 := Lib.hid hI3
          have HK3 := Lib.hid hk3
          have HX := Lib.hid hkid
          have HS3 := Lib.hid hsum3
          have HL3 := Lib.hid hle3
          have hsz3 := hI3.size
          clear hI3 hsum3 hk3 hkid hle3
          go_wp2_with fail
          refine (colSees wb (w.heap.size + 2) ao co outs pk[k] a' c' _ (HI3.out.alloc _).coll hol.out).mono ?_
          rintro x w2 ⟨rfl, ao', co', hC2, hT2, hat2⟩
          have hI4 := (HI3.out.alloc _).turn hT2 hC2 hat2
          have hro : ∀ b, (Value.slice ao outs.length co).ownBlock = some b → w.heap.size + 2 ≤ b ∧ b < wr.heap.size := fun b hb => HI3.out.coll.own.lt hb
          have hbox : w2.cell? ⟨wr.heap.size, 3, none⟩ = some (.slice a' pk[k].kids.length c') := (World.cell?_of_block (a := ⟨wr.heap.size, 3, none⟩) (hT2.2.2.2.2 wr.heap.size (by simp) (by omega) (fun e => by have := (hro _ e.symm).2; omega))).trans (by simp [go_sem])
          have hkeep : KidsQ (InQ w wb) w2 (d3 + 1) (some ⟨b, off, none⟩) pcp pk ∧ KidsQ (InQ w wb) w2 d3 a' c' pk[k].kids := by
            have hb1 := (Below.refl wr.heap.size wr).alloc (Nat.le_refl _) (.cells #[.int .i64 pk[k].kind, .string pk[k].text, .int .i64 pk[k].num, .slice a' pk[k].kids.length c'] 26)
            have ht1 := below_turn2 hb1 wb none
            exact ⟨kids_turn2 hT2 (fun b hb => (hro b hb).1) hwb (kids_turn2 ht1 (by simp) hwb HK3.out), kids_turn2 hT2 (fun b hb => (hro b hb).1) hwb (kids_turn2 ht1 (by simp) hwb HX.out)⟩
          have HI4 := Lib.hid hI4
          have HKP := Lib.hid hkeep
          have HDC := Lib.hid (colsL_drop pk k hlt)
          have HCE := Lib.hid (Ex.cols_eq pk[k])
          have HOL := Lib.hid (own1_facts pk[k]).2.1
          have hsz4 := hI4.size
          clear hI4 hkeep hT2 hC2 hat2 hro hc0 hc1 hc2 hc3
          have hpl : Hid (ps.length + 1 ≤ 1073741824) := by
            have h5 := HS3.out; have h6 := HDN.out; have h7 := HNE.out; have h9 := HL3.out
            have h8 := sumP_len ps (fun p hp => (HI4.out.kids p hp).1)
            unfold Hid
            omega
          have HE : Hid (k + 1 + (sumP ps + nodesL pk[k].kids) + nodesL (pk.drop (k + 1)) = gk ∧ (outs ++ own1 pk[k]).length + (sumP ps + nodesL pk[k].kids) + nodesL (pk.drop (k + 1)) ≤ e.nodes ∧ (∀ t, t ∈ e.cols ↔ t ∈ outs ++ own1 pk[k] ∨ (t ∈ colP ps ∨ t ∈ colsL pk[k].kids) ∨ t ∈ colsL (pk.drop (k + 1)))) := by
            have h5 := HS3.out; have h6 := HDN.out; have h7 := HNE.out; have h8 := HL3.out; have h9 := HOL.out
            refine ⟨by omega, by rw [List.length_append]; omega, fun t => ?_⟩
            rw [hset3.out t, HDC.out, HCE.out]
            simp only [List.mem_append]
            constructor
            · rintro (h | h | (h | h) | h)
              · exact .inl (.inl h)
              · exact .inr (.inl (.inl h))
              · exact .inl (.inr h)
              · exact .inr (.inl (.inr h))
              · exact .inr (.inr h)
            · rintro ((h | h) | (h | h) | h)
              · exact .inl h
              · exact .inr (.inr (.inl (.inl h)))
              · exact .inr (.inl h)
              · exact .inr (.inr (.inl (.inr h)))
              · exact .inr (.inr (.inr h))
          by_cases hpos : 0 < pk[k].kids.length
          · go_wp2_with (at_builtin; refine wpPushC rfl (.tmp 38) (.tmp 41) rfl a0 c0 ⟨a', c', pk[k].kids⟩ d3 _ HI4.out hpos HKP.out.2 hpl.out rfl rfl rfl ?_; intro a6 c6 w6 HI6)
            go_roundw
            case rel =>
              refine ⟨ps ++ [⟨a', c', pk[k].kids⟩], k + 1, ao', co', outs ++ own1 pk[k], by go_num, by omega, HI6.out.1, ?_, ?_, ?_, fun t => ?_⟩
              · exact kids_grown HI4.out.size HI6.out.2 (fun b hb => .inr (HI4.out.row.lt b hb).1) HI4.out.lt HKP.out.1
              · rw [sumP_snoc]; exact HE.out.1
              · rw [sumP_snoc]; exact HE.out.2.1
              · rw [HE.out.2.2 t, colP_snoc, List.mem_append (t := colsL _)]
            case measure => simp [intOf]; omega
          · have h0 : pk[k].kids = [] := List.eq_nil_of_length_eq_zero (by omega)
            have hl0 : pk[k].kids.length = 0 := by rw [h0]; rfl
            have H0 := Lib.hid h0
            clear h0
            go_wp2_with fail
            go_roundw
            case rel =>
              refine ⟨ps, k + 1, ao', co', outs ++ own1 pk[k], by go_num, by omega, HI4.out, HKP.out.1, ?_, ?_, fun t => ?_⟩
              · have := HE.out.1; rw [H0.out] at this; simpa [nodesL] using this
              · have := HE.out.2.1; rw [H0.out] at this; simpa [nodesL] using this
              · have := HE.out.2.2 t; rw [H0.out] at this; simpa [colsL] using this
            case measure => simp [intOf]; omega
        · obtain rfl : k = pk.length := by omega
          have HI3 := Lib.hid hI3
          have HS3 := Lib.hid hsum3
          have HL3 := Lib.hid hle3
          clear hI3 hsum3 hle3 hk3
          go_wp2_with fail
          go_roundg (sumP ps)
          case measure => have h1 := HS3.out; have h2 := HPK.out; omega
          case rel => exact ⟨ps, ao, co, outs, HI3.out, rfl, by have := HL3.out; simpa [nodesL] using this, by have := hset3.out; unfold Hid; simpa [colsL] using this⟩

end Go.Proofs.YtpdcmmhhgnackaaDoor

namespace Go.Proofs.YtpdcmmhhgnackaaDoor
open Go.RowKit

theorem stringsClone5 (s : ByteArray) (w : World) (hs : s.size ≤ 1048576) :
    Calls Tryd.prog 35 #[.string s] w fun e w' => e = .returned (.string s) ∧ Below w.heap.size w w' := by
  go_enter Tryd.func35, Tryd.ntmps35
  go_wp2_with fail
  refine (Tryd.stringslite_Clone s _ (by omega)).mono ?_
  rintro e w1 ⟨rfl, b1⟩
  go_wp2_with fail
  go_ret
  exact ⟨rfl, b1⟩

end Go.Proofs.YtpdcmmhhgnackaaDoor

namespace Go.Proofs.YtpdcmmhhgnackaaDoor
open Go.RowKit

open Go.Sort in
theorem map_ba (S : List (List UInt8)) : (S.map ba).map Value.string = S.map encStr := by simp [ba]

theorem map_la (xs : List ByteArray) : (xs.map la).map encStr = xs.map Value.string := Lib.map_encStr xs

open Go.Sort in
/-- What slices.Sort leaves. -/
theorem own_sorted {w2 : World} {B g co nn : Nat} {os : Array Obj} {outs : List ByteArray} (hown : Own w2 B (some ⟨g, 0, none⟩) co outs) {w3 : World}
    (h3 : w3 = grow (putRow encStr (Sort.ahead w2 nn) g 0 ((outs.map la).mergeSort fun x y => decide (x ≤ y)).toArray) os) :
    Own w3 B (some ⟨g, 0, none⟩) co (((outs.map la).mergeSort fun x y => decide (x ≤ y)).map ba) ∧ w2.grownBy w3 (some g) := by
  subst h3
  have hl2 : ((outs.map la).mergeSort fun x y => decide (x ≤ y)).length = (outs.map la).length := List.length_mergeSort _
  have hl3 : (outs.map la).length = outs.length := List.length_map ..
  unfold Own at hown
  rw [← map_la, ← hl3] at hown
  rcases hown.2 with ⟨h0, _⟩ | ⟨g', cap', cur, hv, hbase, hb, h1, h2, h3, h4⟩
  · cases h0
  cases hv
  have hs := ownsRow_sorted (n := nn) (os := os) (ts := (outs.map la).mergeSort fun x y => decide (x ≤ y)) hl2 hbase hb h1 h2 h3
  refine ⟨?_, grownBy_sorted _⟩
  unfold Own
  rw [map_ba, List.length_map, hl2]
  exact hs

open Go.Sort in
/-- What slices.Compact leaves. -/
theorem own_compact {w3 : World} {B g co q : Nat} {zs : List (List UInt8)} (hown : Own w3 B (some ⟨g, 0, none⟩) co (zs.map ba)) {w4 : World}
    (h4 : w4 = putRow encStr (Sort.ahead w3 q) g 0 (Lib.compact zs ++ List.replicate (zs.length - (Lib.compact zs).length) []).toArray) :
    Own w4 B (some ⟨g, 0, none⟩) co ((Lib.compact zs).map ba) ∧ w3.grownBy w4 (some g) := by
  subst h4
  have hle := Lib.compact_length_le zs
  unfold Own at hown
  rw [map_ba, List.length_map] at hown
  have hc := Lib.ownsRow_putRow (q := q) (k := (Lib.compact zs).length) (ys := Lib.compact zs ++ List.replicate (zs.length - (Lib.compact zs).length) []) hown (by simp; omega) (by omega)
  rw [List.take_left] at hc
  refine ⟨?_, ?_⟩
  · unfold Own
    rw [map_ba, List.length_map]
    exact hc
  · have := grownBy_sorted (w := w3) (g := g) (n := q) (os := #[]) (Lib.compact zs ++ List.replicate (zs.length - (Lib.compact zs).length) []).toArray
    exact ⟨this.os, this.tape, this.output, by simp [putRow, mapBlock, Sort.ahead], fun k hk hne => by have h5 := this.block k hk hne; simpa [grow] using h5⟩

open Go.Sort in
theorem own_holds {w2 : World} {B g co : Nat} {zs : List (List UInt8)} (hown : Own w2 B (some ⟨g, 0, none⟩) co (zs.map ba)) : Holds encStr w2 g 0 zs.toArray ∧ g < w2.heap.size ∧ zs.length ≤ co := by
  unfold Own at hown
  rw [map_ba, List.length_map] at hown
  obtain ⟨g', cap, hv, hbg, hgl, hncap, hcm, hlen, hH⟩ := Lib.holds_of_ownsRow hown (by intro h; cases h)
  cases hv
  exact ⟨hH, hgl, hncap⟩

theorem la_map (outs : List ByteArray) : (outs.map la).map ba = outs := by
  rw [List.map_map]
  conv => rhs; rw [← List.map_id outs]
  exact List.map_congr_left fun s _ => ba_la s

theorem sortOwn {w2 : World} {B co : Nat} {ao : Option Addr} {outs : List ByteArray} (hown : Own w2 B ao co outs) (hn : outs.length ≤ 4194304) :
    Calls Tryd.prog 33 #[.slice ao outs.length co] w2 fun x w3 => x = .returned (.tuple #[]) ∧ Own w3 B ao co (((outs.map la).mergeSort fun x y => decide (x ≤ y)).map ba) ∧ w2.grownBy w3 (Value.slice ao outs.length co).ownBlock := by
  rcases hown.form with ⟨rfl, rfl, rfl⟩ | ⟨g, rfl, hBg, hgl⟩
  · refine (Tryd.slices_Sort_string_none none 0 w2).mono ?_
    rintro x w3 ⟨rfl, rfl⟩
    exact ⟨rfl, by simpa using hown, World.grownBy.refl _ _⟩
  · have hl3 : (outs.map la).length = outs.length := List.length_map ..
    obtain ⟨hH, _, _⟩ := own_holds (zs := outs.map la) (by rw [la_map]; exact hown)
    have h := Tryd.slices_Sort_string g 0 co (outs.map la) w2 hH hgl (by omega)
    rw [hl3] at h
    refine h.mono ?_
    rintro x w3 ⟨rfl, nn, os, h3⟩
    obtain ⟨h4, h5⟩ := own_sorted hown h3
    exact ⟨rfl, h4, h5⟩

theorem compactOwn {w3 : World} {B co n : Nat} {ao : Option Addr} {zs : List (List UInt8)} (hown : Own w3 B ao co (zs.map ba)) (hn : n ≤ 4194304) (hz : n = zs.length) :
    Calls Tryd.prog 34 #[.slice ao n co] w3 fun x w4 => ∃ ys : List ByteArray, x = .returned (.slice ao ys.length co) ∧ Hid (ys = (Lib.compact zs).map ba) ∧ Own w4 B ao co ys ∧ w3.grownBy w4 (Value.slice ao n co).ownBlock := by
  subst hz
  rcases hown.form with ⟨rfl, rfl, h0⟩ | ⟨g, rfl, hBg, hgl⟩
  · have h0' : zs = [] := by cases zs with | nil => rfl | cons x r => simp at h0
    subst h0'
    refine (Tryd.slices_Compact_string_empty none 0 w3).mono ?_
    rintro x w4 ⟨rfl, rfl⟩
    exact ⟨[], rfl, by unfold Hid; simp [Lib.compact, Lib.compactUpTo], by simpa using hown, World.grownBy.refl _ _⟩
  · obtain ⟨hH, _, hcap⟩ := own_holds hown
    refine (Tryd.slices_Compact_string g 0 co zs w3 hH (by omega) hcap).mono ?_
    rintro x w4 ⟨rfl, q, h4⟩
    obtain ⟨h5, h6⟩ := own_compact hown h4
    exact ⟨(Lib.compact zs).map ba, by simp, rfl, h5, h6⟩

theorem own_same {w : World} {B g co k : Nat} {ys : List ByteArray} (hown : Own w B (some ⟨g, 0, none⟩) co ys) (hk : k < ys.length) {w' : World} (hw : w' = w.setCell ⟨g, k, none⟩ (.string ys[k])) : Own w' B (some ⟨g, 0, none⟩) co ys := by
  subst hw
  unfold Own at hown ⊢
  have h := (hown.stored k (.string ys[k])).1
  have e : (ys.map Value.string).set k (.string ys[k]) = ys.map Value.string := by
    rw [← List.map_set]
    simp
  rw [e] at h
  exact h

/-- What lies at the end of impl.Columns, while the texts are copied. -/
structure ColE (w : World) (ob B : Nat) (ao : Option Addr) (co : Nat) (ys : List ByteArray) (wr : World) : Prop where
  own : Own wr B ao co ys
  cell : wr.cell? ⟨ob, 0, none⟩ = some (.slice ao ys.length co)
  lt : w.heap.size ≤ ob ∧ ob < B ∧ B ≤ wr.heap.size
  bel : Below w.heap.size w wr

theorem ColE.below {w wr w2 : World} {ob B : Nat} {ao : Option Addr} {co : Nat} {ys : List ByteArray} (h : ColE w ob B ao co ys wr) (hb : Below wr.heap.size wr w2) : ColE w ob B ao co ys w2 :=
  ⟨h.own.below hb, (hb.cell (p := ⟨ob, 0, none⟩) (Nat.lt_of_lt_of_le h.lt.2.1 h.lt.2.2)).trans h.cell, ⟨h.lt.1, h.lt.2.1, Nat.le_trans h.lt.2.2 hb.size⟩, h.bel.trans (hb.mono h.bel.size)⟩

theorem ColE.set {w wr w2 : World} {ob B g : Nat} {co : Nat} {ys : List ByteArray} (h : ColE w ob B (some ⟨g, 0, none⟩) co ys wr) {k : Nat} (hk : k < ys.length) (h2 : w2 = wr.setCell ⟨g, k, none⟩ (.string ys[k])) : ColE w ob B (some ⟨g, 0, none⟩) co ys w2 := by
  have hg := (h.own.lt (g := g) rfl).1
  have hl := h.lt
  subst h2
  refine ⟨own_same h.own hk rfl, ?_, ⟨hl.1, hl.2.1, by simpa [World.setCell] using hl.2.2⟩, h.bel.setCell (by show w.heap.size ≤ g; omega) _⟩
  rw [World.cell?_setCell_other _ _ _ _ (by intro e; have := congrArg Addr.block e; simp only at this; omega)]
  exact h.cell

set_option maxRecDepth 100000 in
set_option maxHeartbeats 1000000 in
theorem implCols (e : Ex) (a : Option Addr) (c d : Nat) (w : World) (hfit : e.fit) (hk : KidsAt w d a c e.kids) (hwt : e.wt ≤ 1048576) :
    Calls Tryd.prog 10 #[.agg #[.int .i64 e.kind, .string e.text, .int .i64 e.num, .slice a e.kids.length c]] w (NewStrs w e.ucols) := by
  have hmf : ∀ (fn : Fn) (first cap : Array Value) (w : World), (Instr.makeFunc fn first cap).run Tryd.prog w = .ok (.func fn first cap) w := fun _ _ _ _ => rfl
  have hn : e.nodes ≤ 4194304 := by have := nodes_wt e; omega
  have HK : Hid (∀ o1 o2 W, W = (w.alloc o1).alloc o2 → KidsQ (fun b => b ≠ w.heap.size + 1) W d a c e.kids) := by
    intro o1 o2 W hW
    have hb : Below w.heap.size w W := by subst hW; exact ((Below.refl _ _).alloc (Nat.le_refl _) _).alloc (by simp) _
    exact (hk.q.agree hb.size fun b h _ o => hb.cell (p := ⟨b, o, none⟩) h).imp fun b h _ => by omega
  have HUW := Lib.hid (ucols_wt e)
  clear hk
  go_enter Tryd.func10, Tryd.ntmps10
  go_wp2_with fail
  refine (eachCols (w.heap.size + 1) e a c d _ hfit (HK.out _ _ _ rfl) (by simp) (by simp [go_sem]) (by simp [go_sem]) hn).mono ?_
  rintro x w2 ⟨rfl, hg, ao, co, outs, hC, hset, hol⟩
  have hbel : Below w.heap.size w w2 := by
    refine (((Below.refl w.heap.size w).alloc (Nat.le_refl _) _).alloc (by simp) _).trans ⟨hg.os, hg.tape, hg.output, hg.size, fun k hk => hg.block k ?_ ?_⟩
    · simp; omega
    · intro h; have := Option.some.inj h; omega
  have hC' : Coll (w.heap.size + 1) (w.heap.size + 4) ao co outs w2 := by simpa using hC
  have HC := Lib.hid hC'
  have HBEL := Lib.hid hbel
  have HSET := Lib.hid hset
  have hcell := hC'.cell
  clear hg hC hC' hbel hset
  go_wp2_with fail
  refine (sortOwn HC.out.own (by omega)).mono ?_
  rintro x w3 ⟨rfl, hown3, hg3⟩
  have hrow : ∀ b, (Value.slice ao outs.length co).ownBlock = some b → w.heap.size + 4 ≤ b ∧ b < w2.heap.size := fun b hb => HC.out.own.lt hb
  have hwl2 : w.heap.size + 1 < w2.heap.size := HC.out.wlt
  have hcell3 : w3.cell? ⟨w.heap.size + 1, 0, none⟩ = some (.slice ao outs.length co) := (hg3.cell_far ⟨w.heap.size + 1, 0, none⟩ hwl2 (fun e => by have := (hrow _ e.symm).1; simp only at this; omega)).trans hcell
  have hfz3 : w3.frozen? ⟨w.heap.size + 1, 0, none⟩ = false := (hg3.frozen_far ⟨w.heap.size + 1, 0, none⟩ hwl2 (fun e => by have := (hrow _ e.symm).1; simp only at this; omega)).trans HC.out.frozen
  have HB3 := Lib.hid (HBEL.out.grown hg3 HBEL.out.size (fun b hb => by have := (hrow b hb).1; omega))
  have hwl3 : w.heap.size + 1 < w3.heap.size := Nat.lt_of_lt_of_le hwl2 hg3.size
  have HO3 := Lib.hid hown3
  have HW23 := Lib.hid hg3.size
  clear hcell hown3 hg3
  go_wp2_with fail
  refine (compactOwn HO3.out (by omega) (by simp)).mono ?_
  rintro x w4 ⟨ys, rfl, hys, hown4, hg4⟩
  have hcell4 : w4.cell? ⟨w.heap.size + 1, 0, none⟩ = some (.slice ao outs.length co) := (hg4.cell_far ⟨w.heap.size + 1, 0, none⟩ hwl3 (fun e => by have := (hrow _ e.symm).1; simp only at this; omega)).trans hcell3
  have hfz4 : w4.frozen? ⟨w.heap.size + 1, 0, none⟩ = false := (hg4.frozen_far ⟨w.heap.size + 1, 0, none⟩ hwl3 (fun e => by have := (hrow _ e.symm).1; simp only at this; omega)).trans hfz3
  have HYS : Hid (ys = e.ucols) := by
    unfold Hid
    rw [hys.out]
    exact sortU_eq e outs HSET.out
  have HCE : Hid (∀ w5, w5 = w4.setCell ⟨w.heap.size + 1, 0, none⟩ (.slice ao ys.length co) → ColE w (w.heap.size + 1) (w.heap.size + 4) ao co ys w5) := by
    intro w5 h5
    subst h5
    have hB4 := HB3.out.grown hg4 HB3.out.size (fun b hb => by have := (hrow b hb).1; omega)
    have hle := HC.out.le
    have hs3 := HB3.out.size
    have hs4 := hg4.size
    have hs2 : w2.heap.size ≤ w4.heap.size ∨ w.heap.size + 4 ≤ w4.heap.size := by
      right
      have h23 : w.heap.size + 4 ≤ w3.heap.size := by
        rcases HO3.out.form with ⟨_, _, _⟩ | ⟨g, _, hg1, hg2⟩
        · exact Nat.le_trans hle (HW23.out)
        · omega
      omega
    refine ⟨ownsRow_block hown4 fun g hg => Below.heap_setCell _ _ _ _ (by have := (hown4.lt hg).1; show g ≠ w.heap.size + 1; omega), World.cell?_setCell_same _ _ _ hcell4, ⟨by omega, by omega, by simp [World.setCell]; omega⟩, hB4.setCell (by show w.heap.size ≤ w.heap.size + 1; omega) _⟩
  have hyl : ys.length ≤ 4194304 := by rw [HYS.out]; have := (ucols_facts e).2.2; omega
  clear hcell3 hown4 hg4 hrow
  go_wp2_with fail
  go_loopw [15] (fun i wr => ∃ k : Nat, k ≤ ys.length ∧ i = .int .i64 k ∧ ColE w (w.heap.size + 1) (w.heap.size + 4) ao co ys wr) (fun i _ => ys.length - (intOf i).toNat)
  case atStart => exact ⟨0, Nat.zero_le _, rfl, HCE.out _ rfl⟩
  case round =>
    obtain ⟨k, hk, rfl, hE⟩ := hrel
    by_cases hlt : k < ys.length
    · rcases hE.own.form with ⟨_, _, h0⟩ | ⟨g, rfl, hBg, hgl⟩
      · subst h0; simp at hlt
      have hck : wr.cell? ⟨g, k, none⟩ = some (.string ys[k]) := by
        have := World.ownsRow.cellAt (w := wr) hE.own k (by omega)
        rw [this, List.getElem?_map, List.getElem?_eq_getElem hlt]
        rfl
      have hfk : wr.frozen? ⟨g, k, none⟩ = false := hE.own.frozenAt k
      have hco := hE.cell
      have hsk : Hid (ys[k].size ≤ 1048576) := by have h1 := HUW.out ys[k] (by rw [← HYS.out]; exact List.getElem_mem hlt); unfold Hid; omega
      have HE := Lib.hid hE
      have hob : w.heap.size + 1 < wr.heap.size := by have := hE.lt; omega
      have h0k : (0 : Int) ≤ (k : Int) := by omega
      have hkl : (k : Int) < (ys.length : Int) := by omega
      clear hE
      go_wp2_with fail
      go_region_with ((go_at_call 35; refine (stringsClone5 ys[k] _ hsk.out).mono ?_; rintro e w2 ⟨rfl, hb2⟩; have hco2 := (hb2.cell (p := ⟨w.heap.size + 1, 0, none⟩) hob).trans hco; have hck2 := (hb2.cell (p := ⟨g, k, none⟩) hgl).trans hck; have hfk2 := (hb2.frozen (p := ⟨g, k, none⟩) hgl).trans hfk))
      all_goals
        have HE2 := Lib.hid ((HE.out.below ((Below.refl wr.heap.size wr).drew.trans hb2)).set hlt rfl)
        clear hb2 hco2 hck2 hfk2
        go_wp2_with fail
        go_roundw
        case rel => exact ⟨k + 1, by omega, by go_num, HE2.out⟩
        case measure => simp [intOf]; omega
    · obtain rfl : k = ys.length := by omega
      have HE := Lib.hid hE
      have hco := hE.cell
      clear hE
      go_wp2_with fail
      go_ret
      have := HYS.out
      subst this
      exact ⟨ao, co, rfl, HE.out.own.lower (by omega), HE.out.bel⟩

end Go.Proofs.YtpdcmmhhgnackaaDoor
