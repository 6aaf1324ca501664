/- spec.l04Make: a right expression, so deep. -/
import Derived.Test.YtpdcmmhhgnackaaDoorMDrawPick
import Derived.Deep.RegionHeldLaw
import Derived.Deep.RegionLaw
namespace Go.Proofs.YtpdcmmhhgnackaaDoor
open Go.RowKit

def deepN : Nat → Nat
  | 0 => 1
  | d + 1 => 2 * deepN d + 1

def MakeP (deep : Nat) : Prop := ∀ {w0 : World} {a : Option Addr} {c : Nat} {l : List UInt8} {g : Nat} {w : World}, Deck w0 a c l g w → w0.heap.size ≤ w.heap.size →
  Calls Tryd.prog 37 #[.pointer (some ⟨g, 0, none⟩), .int .i64 (deep : Int)] w (MadeE w0 a c l g w (fun e => SmM e (deepN deep)))

theorem deepN_pos (d : Nat) : 1 ≤ deepN d := by cases d <;> simp [deepN]

theorem sm_leaf {k n : Int} {t : ByteArray} {N : Nat} (hk : i64E k) (hn : i64E n) (ht : t.size ≤ 60) (hN : 1 ≤ N) : Sm (eOf k t n []) N := by
  refine ⟨⟨by unfold maxLen; show t.size ≤ _; omega, hk, hn⟩, ?_, ?_⟩
  · unfold eOf; rw [Ex.wt_eq, Ex.nodes_eq]; show t.size + (0 + 0) ≤ 64 * (1 + 0); omega
  · unfold eOf; rw [Ex.nodes_eq]; show 1 + 0 ≤ N; omega

def texts5e : List ByteArray := [⟨#[]⟩, ⟨#[97]⟩, ⟨#[105, 116, 39, 115]⟩, ⟨#[104, 97, 112, 112, 121]⟩, ⟨#[10]⟩]
theorem texts5e_small : ∀ s ∈ texts5e, s.size ≤ 60 := by unfold texts5e; decide

theorem smL_snoc (es : List Es) (x : Es) : nodesL ((es ++ [x]).map Es.e) = nodesL (es.map Es.e) + x.e.nodes ∧ wtL ((es ++ [x]).map Es.e) = wtL (es.map Es.e) + x.e.wt := by
  induction es with
  | nil => simp [nodesL, wtL]
  | cons y r ih => simp only [List.cons_append, List.map_cons, nodesL, wtL]; rw [ih.1, ih.2]; omega

/-- The tree whose kids these are. -/
theorem sm_node {k n : Int} {t : ByteArray} {N : Nat} {es : List Es} (hk : i64E k) (hn : i64E n) (ht : t.size ≤ 60) (hl : es.length ≤ 3) (hw : wtL (es.map Es.e) ≤ 64 * nodesL (es.map Es.e)) (hN : 1 + nodesL (es.map Es.e) ≤ N) : Sm (eOf k t n es) N := by
  refine ⟨⟨by unfold maxLen; show t.size ≤ _; omega, hk, hn⟩, ?_, ?_⟩
  · unfold eOf; rw [Ex.wt_eq, Ex.nodes_eq]; show t.size + ((es.map Es.e).length + wtL (es.map Es.e)) ≤ 64 * (1 + nodesL (es.map Es.e)); rw [List.length_map]; omega
  · unfold eOf; rw [Ex.nodes_eq]; exact hN

/-- What stands between two rounds of the draw of kids. -/
structure Mid (w0 : World) (a : Option Addr) (c : Nat) (l : List UInt8) (g : Nat) (w : World) (R : Nat) (k : Int) (t : ByteArray) (n : Int) (M : Nat) (es : List Es) (ak : Option Addr) (ck : Nat) (wr : World) : Prop where
  er : ExRow wr R k t n (.slice ak es.length ck)
  rb : ExRow wr w.heap.size 0 ⟨#[]⟩ 0 (.slice none 0 0)
  dg : DGE w0 a c l g w wr
  row : Row (R + 1) wr ak ck es
  nd : nodesL (es.map Es.e) ≤ es.length * M
  wt : wtL (es.map Es.e) ≤ 64 * nodesL (es.map Es.e)

theorem Mid.below {w0 : World} {a : Option Addr} {c : Nat} {l : List UInt8} {g : Nat} {w : World} {R : Nat} {k : Int} {t : ByteArray} {n : Int} {M : Nat} {es : List Es} {ak : Option Addr} {ck : Nat} {wr wr' : World}
    (h : Mid w0 a c l g w R k t n M es ak ck wr) (hb : Below wr.heap.size wr wr') : Mid w0 a c l g w R k t n M es ak ck wr' :=
  ⟨h.er.below hb, h.rb.below hb, h.dg.below hb, h.row.below hb, h.nd, h.wt⟩

/-- One kid more. -/
theorem Mid.push {w0 : World} {a : Option Addr} {c : Nat} {l : List UInt8} {g : Nat} {w : World} {R : Nat} {k : Int} {t : ByteArray} {n : Int} {M : Nat} {es : List Es} {ak : Option Addr} {ck : Nat} {wr w2 w4 : World} (hw0 : w0.heap.size ≤ w.heap.size) (hgl : g < w.heap.size) (hR : w.heap.size < R)
    (h : Mid w0 a c l g w R k t n M es ak ck wr) {k2 n2 : Int} {t2 : ByteArray} {es2 : List Es} {a2 : Option Addr} {c2 : Nat} (hrow : Row wr.heap.size w2 a2 c2 es2) (hsm : Sm (eOf k2 t2 n2 es2) M) (hdg : DGE w0 a c l g wr w2) {o : Obj} {g4 cap : Nat}
    (hown : w4.ownsRow (R + 1) 26 4 (.slice (some ⟨g4, 0, none⟩) (es.length + 1) cap) (es.length + 1) (ecells es ++ [.int .i64 k2, .string t2, .int .i64 n2, .slice a2 es2.length c2])) (hg : (w2.alloc o).grownBy w4 (Value.slice ak es.length ck).ownBlock)
    (hat : (Value.slice ak es.length ck).ownBlock = some g4 ∨ g4 = (w2.alloc o).heap.size) :
    Mid w0 a c l g w R k t n M (es ++ [⟨eOf k2 t2 n2 es2, a2, c2⟩]) (some ⟨g4, 0, none⟩) cap (w4.setCell ⟨R, 3, none⟩ (.slice (some ⟨g4, 0, none⟩) (es.length + 1) cap)) := by
  have hRl := h.er.lt
  have hll : (es2.map Es.e).length = es2.length := List.length_map ..
  have hl1 : (es ++ [(⟨eOf k2 t2 n2 es2, a2, c2⟩ : Es)]).length = es.length + 1 := by simp
  have hbk : ∀ b, (Value.slice ak es.length ck).ownBlock = some b → R + 1 ≤ b ∧ b < wr.heap.size := fun b hb => h.row.own.lt b hb
  have r2 : Row (R + 1) w2 ak ck es := h.row.grown hdg.2 (fun q hq => by cases hq; omega)
  have e2 : ExRow w2 R k t n (.slice ak es.length ck) := h.er.kept hdg.2 (fun e => by have := Option.some.inj e; omega)
  have b2 : ExRow w2 w.heap.size 0 ⟨#[]⟩ 0 (.slice none 0 0) := h.rb.kept hdg.2 (fun e => by have := Option.some.inj e; omega)
  have d2 : DGE w0 a c l g w w2 := h.dg.next hdg.1 hdg.2
  have e4 : ExRow w4 R k t n (.slice ak es.length ck) := (e2.alloc o).kept hg (fun e => by have := (hbk R e).1; omega)
  have b4 : ExRow w4 w.heap.size 0 ⟨#[]⟩ 0 (.slice none 0 0) := (b2.alloc o).kept hg (fun e => by have := (hbk _ e).1; omega)
  have d4 : DGE w0 a c l g w w4 := (d2.alloc o).row hw0 hg (fun q hq => by have := (hbk q hq).1; omega)
  obtain ⟨dd, hk2⟩ := hrow.kids
  have hk3 : KidsQ (fun b => R + 1 ≤ b ∧ (Value.slice ak es.length ck).ownBlock ≠ some b) (w2.alloc o) dd a2 c2 (es2.map Es.e) :=
    (hk2.toQ.imp (q' := fun b => R + 1 ≤ b ∧ (Value.slice ak es.length ck).ownBlock ≠ some b) fun b hb _ => ⟨by omega, fun e => by have := (hbk b e).2; omega⟩).agree (by simp) fun b _ hb q => ((Below.refl w2.heap.size w2).alloc (Nat.le_refl _) o).cell (p := ⟨b, q, none⟩) hb
  have r4 := (r2.alloc o).push (x := ⟨eOf k2 t2 n2 es2, a2, c2⟩) hsm.1 hk3 (a' := some ⟨g4, 0, none⟩) (c' := cap) (w' := w4) (by
    have : (⟨eOf k2 t2 n2 es2, a2, c2⟩ : Es).s = .slice a2 es2.length c2 := by unfold Es.s; show Value.slice a2 (es2.map Es.e).length c2 = _; rw [hll]
    rw [this]; exact hown) hg (by
      rcases hat with e | e
      · left; rw [e]; rfl
      · right; rw [e]; rfl)
  obtain ⟨n1, n2'⟩ := smL_snoc es ⟨eOf k2 t2 n2 es2, a2, c2⟩
  have hN := hsm.2.2
  have hW := hsm.2.1
  refine ⟨by rw [hl1]; exact e4.set3 _, b4.setO (by omega) _ _, d4.set hw0 (by omega) (by omega) _ _, r4.set (by omega) _ _, ?_, ?_⟩
  · rw [n1, hl1]; have := h.nd; show nodesL (es.map Es.e) + (eOf k2 t2 n2 es2).nodes ≤ _; rw [Nat.add_mul]; omega
  · rw [n1, n2']; have := h.wt; show wtL (es.map Es.e) + (eOf k2 t2 n2 es2).wt ≤ 64 * (nodesL (es.map Es.e) + (eOf k2 t2 n2 es2).nodes); omega








theorem smM_node {k n : Int} {t : ByteArray} {N : Nat} {es : List Es} (hk : i64E k) (hn : i64E n) (ht : t.size ≤ 60) (hl : es.length ≤ 2) (hw : wtL (es.map Es.e) ≤ 64 * nodesL (es.map Es.e)) (hN : 1 + nodesL (es.map Es.e) ≤ N) : SmM (eOf k t n es) N :=
  ⟨sm_node hk hn ht (by omega) hw hN, ht, by show (es.map Es.e).length ≤ 2; rw [List.length_map]; exact hl, hw⟩


set_option maxRecDepth 100000 in
set_option maxHeartbeats 4000000 in
theorem makeZero : MakeP 0 := by
  intro w0 a c l g w hd hw0
  have hgl := hd.lt
  have HD0 := Lib.hid (DGE.start hd)
  have Hd0 := Lib.hid hd
  obtain ⟨i0, hi0, hz0, hz1, hz2⟩ := info_parts Tryd.infoExpr
  have hpos := deepN_pos 0
  clear hd
  go_enter Tryd.func37, Tryd.ntmps37
  go_wp2_with fail
  refine (l01Below (Hd0.out.alloc _) 19 (by omega) (by omega)).mono ?_
  rintro e w1 ⟨v, ⟨x, rfl, hx0, hx1⟩, rfl, hd1, hg1⟩
  have HD1 := Lib.hid ((HD0.out.alloc (.cells #[.int .i64 0, .string ⟨#[]⟩, .int .i64 0, .slice none 0 0] 26)).next hd1 hg1)
  have HRB1 := Lib.hid ((exRow_new w 0 ⟨#[]⟩ 0 (.slice none 0 0)).kept hg1 (fun e => by have := Option.some.inj e; omega))
  clear hd1 hg1
  obtain ⟨Mq, hMq⟩ : ∃ Mq : Nat, Mq = 0 := ⟨_, rfl⟩
  go_wp2_with fail
  refine (l01Below HD1.out.1 6 (by omega) (by omega)).mono ?_
  rintro e w2 ⟨v, ⟨y, rfl, hy0, hy1⟩, rfl, hd2, hg2⟩
  have HD2 := Lib.hid (HD1.out.next hd2 hg2)
  have HRB2 := Lib.hid (HRB1.out.kept hg2 (fun e => by have := Option.some.inj e; omega))
  clear hd2 hg2 HD1 HRB1
  have HD1 := HD2
  have HRB1 := HRB2
  clear HD2 HRB2
  have hsz : w.heap.size < w2.heap.size := HRB1.out.lt
  by_cases q0 : y = 0
  · subst q0
    obtain ⟨m, hkk⟩ : ∃ m, kidsV 0 = m := ⟨_, rfl⟩
    have hm2 : 0 ≤ m ∧ m ≤ 2 ∧ m = 0 := by rw [← hkk]; unfold kidsV; (repeat' split) <;> omega
    go_wp2_with fail
    refine (l03NameS (HD1.out.alloc _).1).mono ?_
    rintro e w3 ⟨v, ⟨s, rfl, hss⟩, rfl, hd3, hg3⟩
    have HM0 : Hid (Mid w0 a c l g w w2.heap.size 0 s 0 Mq [] none 0 (w3.setCell ⟨w2.heap.size, 1, none⟩ (.string s))) := by
      have er := (exRow_new w2 0 ⟨#[]⟩ 0 (.slice none 0 0)).kept hg3 (fun e => by have := Option.some.inj e; omega)
      exact ⟨er.set1 s, ((HRB1.out.alloc _).kept hg3 (fun e => by have := Option.some.inj e; omega)).setO (by omega) _ _, ((HD1.out.alloc _).next hd3 hg3).set hw0 (by omega) (by omega) _ _, Row.nil _ _, by simp [nodesL], by simp [wtL]⟩
    obtain ⟨r0, r1, r2, r3, rf⟩ := ((exRow_new w2 0 ⟨#[]⟩ 0 (.slice none 0 0)).kept hg3 (fun e => by have := Option.some.inj e; omega)).cells
    clear hd3 hg3
    go_wp2_with fail
    go_loopw [7] (fun i wr => ∃ (es : List Es) (ak : Option Addr) (ck : Nat), i = .int .i64 (es.length : Int) ∧ (es.length : Int) ≤ m ∧ Hid (Mid w0 a c l g w w2.heap.size 0 s 0 Mq es ak ck wr)) (fun i _ => 3 - (intOf i).toNat)
    case atStart => exact ⟨[], none, 0, rfl, by simp; omega, HM0⟩
    case round =>
      obtain ⟨es, ak, ck, rfl, hle, HM⟩ := hrel
      have hltR := HM.out.er.lt
      go_wp2_with fail
      refine (specKidsV _ _ m hkk).mono ?_
      rintro e w4 ⟨rfl, rfl⟩
      by_cases hlt : (es.length : Int) < m
      · omega
      · obtain ⟨r0, r1, r2, r3, rf⟩ := HM.out.er.cells
        obtain ⟨b0, b1, b2, b3, bf⟩ := HM.out.rb.cells
        have hme : (es.length : Int) = m := by omega
        have hbr : w.heap.size ≠ w2.heap.size := by omega
        go_wp2_with fail
        refine bodyPost_ret (v := .agg #[.int .i64 0, .string s, .int .i64 0, .slice ak es.length ck]) (by simp [results, Tryd.results37, go_sem, b0, b1, b2, b3]) rfl ?_
        refine ⟨0, s, 0, es, ak, ck, rfl, ((((HM.out.row.set (by omega) _ _).set (by omega) _ _).set (by omega) _ _).set (by omega) _ _).lower (by omega), ?_, (((HM.out.dg.set hw0 (Nat.le_refl _) (by omega) _ _).set hw0 (Nat.le_refl _) (by omega) _ _).set hw0 (Nat.le_refl _) (by omega) _ _).set hw0 (Nat.le_refl _) (by omega) _ _⟩
        exact smM_node (by unfold i64E; omega) (by unfold i64E; omega) (by first | omega | (show (0 : Nat) ≤ 60; omega)) (by omega) HM.out.wt (by have := HM.out.nd; have h2 : es.length * Mq ≤ 2 * Mq := Nat.mul_le_mul_right _ (by omega); omega)
  by_cases q1 : y = 1
  · subst q1
    obtain ⟨m, hkk⟩ : ∃ m, kidsV 1 = m := ⟨_, rfl⟩
    have hm2 : 0 ≤ m ∧ m ≤ 2 ∧ m = 0 := by rw [← hkk]; unfold kidsV; (repeat' split) <;> omega
    go_wp2_with fail
    refine (l01PickIntP ((HD1.out.alloc _).alloc _).1 (fun z => 0 ≤ z ∧ z ≤ 999999999) (w2.heap.size + 1) 4 _ (by rw [← size_allocE w2 (.cells #[.int .i64 1, .string ⟨#[]⟩, .int .i64 0, .slice none 0 0] 26)]; exact heap_alloc_new _ _) (by omega) rfl (by omega) (by omega) ?_).mono ?_
    · intro k v hv
      have hm := Array.mem_of_getElem? hv
      simp only [List.mem_toArray, List.mem_cons, List.not_mem_nil, or_false] at hm
      rcases hm with rfl | rfl | rfl | rfl <;> exact ⟨_, rfl, by omega, by omega⟩
    rintro e w3 ⟨v, ⟨y1, rfl, hy⟩, rfl, hd3, hg3⟩
    have HM0 : Hid (Mid w0 a c l g w w2.heap.size 1 ⟨#[]⟩ y1 Mq [] none 0 (w3.setCell ⟨w2.heap.size, 2, none⟩ (.int .i64 y1))) := by
      have er := ((exRow_new w2 1 ⟨#[]⟩ 0 (.slice none 0 0)).alloc _).kept hg3 (fun e => by have := Option.some.inj e; omega)
      exact ⟨er.set2 y1, (((HRB1.out.alloc _).alloc _).kept hg3 (fun e => by have := Option.some.inj e; omega)).setO (by omega) _ _, (((HD1.out.alloc _).alloc _).next hd3 hg3).set hw0 (by omega) (by omega) _ _, Row.nil _ _, by simp [nodesL], by simp [wtL]⟩
    obtain ⟨r0, r1, r2, r3, rf⟩ := (((exRow_new w2 1 ⟨#[]⟩ 0 (.slice none 0 0)).alloc _).kept hg3 (fun e => by have := Option.some.inj e; omega)).cells
    clear hd3 hg3
    go_wp2_with fail
    go_loopw [7] (fun i wr => ∃ (es : List Es) (ak : Option Addr) (ck : Nat), i = .int .i64 (es.length : Int) ∧ (es.length : Int) ≤ m ∧ Hid (Mid w0 a c l g w w2.heap.size 1 ⟨#[]⟩ y1 Mq es ak ck wr)) (fun i _ => 3 - (intOf i).toNat)
    case atStart => exact ⟨[], none, 0, rfl, by simp; omega, HM0⟩
    case round =>
      obtain ⟨es, ak, ck, rfl, hle, HM⟩ := hrel
      have hltR := HM.out.er.lt
      go_wp2_with fail
      refine (specKidsV _ _ m hkk).mono ?_
      rintro e w4 ⟨rfl, rfl⟩
      by_cases hlt : (es.length : Int) < m
      · omega
      · obtain ⟨r0, r1, r2, r3, rf⟩ := HM.out.er.cells
        obtain ⟨b0, b1, b2, b3, bf⟩ := HM.out.rb.cells
        have hme : (es.length : Int) = m := by omega
        have hbr : w.heap.size ≠ w2.heap.size := by omega
        go_wp2_with fail
        refine bodyPost_ret (v := .agg #[.int .i64 1, .string ⟨#[]⟩, .int .i64 y1, .slice ak es.length ck]) (by simp [results, Tryd.results37, go_sem, b0, b1, b2, b3]) rfl ?_
        refine ⟨1, ⟨#[]⟩, y1, es, ak, ck, rfl, ((((HM.out.row.set (by omega) _ _).set (by omega) _ _).set (by omega) _ _).set (by omega) _ _).lower (by omega), ?_, (((HM.out.dg.set hw0 (Nat.le_refl _) (by omega) _ _).set hw0 (Nat.le_refl _) (by omega) _ _).set hw0 (Nat.le_refl _) (by omega) _ _).set hw0 (Nat.le_refl _) (by omega) _ _⟩
        exact smM_node (by unfold i64E; omega) (by unfold i64E; omega) (by first | omega | (show (0 : Nat) ≤ 60; omega)) (by omega) HM.out.wt (by have := HM.out.nd; have h2 : es.length * Mq ≤ 2 * Mq := Nat.mul_le_mul_right _ (by omega); omega)
  by_cases q2 : y = 2
  · subst q2
    obtain ⟨m, hkk⟩ : ∃ m, kidsV 2 = m := ⟨_, rfl⟩
    have hm2 : 0 ≤ m ∧ m ≤ 2 ∧ m = 0 := by rw [← hkk]; unfold kidsV; (repeat' split) <;> omega
    go_wp2_with fail
    refine (pickLit1 HD1.out.1 (.cells #[.int .i64 2, .string ⟨#[]⟩, .int .i64 0, .slice none 0 0] 26) texts5e 5 rfl (fun s hs => by have := texts5e_small s hs; unfold maxLen; omega) (by decide) (by decide) _ rfl).mono ?_
    rintro e w3 ⟨v, ⟨s, rfl, hs⟩, rfl, hd3, hg3⟩
    have hss := texts5e_small s hs
    have HM0 : Hid (Mid w0 a c l g w w2.heap.size 2 s 0 Mq [] none 0 (w3.setCell ⟨w2.heap.size, 1, none⟩ (.string s))) := by
      have er := ((exRow_new w2 2 ⟨#[]⟩ 0 (.slice none 0 0)).alloc _).kept hg3 (fun e => by have := Option.some.inj e; omega)
      exact ⟨er.set1 s, (((HRB1.out.alloc _).alloc _).kept hg3 (fun e => by have := Option.some.inj e; omega)).setO (by omega) _ _, (((HD1.out.alloc _).alloc _).next hd3 hg3).set hw0 (by omega) (by omega) _ _, Row.nil _ _, by simp [nodesL], by simp [wtL]⟩
    obtain ⟨r0, r1, r2, r3, rf⟩ := (((exRow_new w2 2 ⟨#[]⟩ 0 (.slice none 0 0)).alloc _).kept hg3 (fun e => by have := Option.some.inj e; omega)).cells
    clear hd3 hg3
    go_wp2_with fail
    go_loopw [7] (fun i wr => ∃ (es : List Es) (ak : Option Addr) (ck : Nat), i = .int .i64 (es.length : Int) ∧ (es.length : Int) ≤ m ∧ Hid (Mid w0 a c l g w w2.heap.size 2 s 0 Mq es ak ck wr)) (fun i _ => 3 - (intOf i).toNat)
    case atStart => exact ⟨[], none, 0, rfl, by simp; omega, HM0⟩
    case round =>
      obtain ⟨es, ak, ck, rfl, hle, HM⟩ := hrel
      have hltR := HM.out.er.lt
      go_wp2_with fail
      refine (specKidsV _ _ m hkk).mono ?_
      rintro e w4 ⟨rfl, rfl⟩
      by_cases hlt : (es.length : Int) < m
      · omega
      · obtain ⟨r0, r1, r2, r3, rf⟩ := HM.out.er.cells
        obtain ⟨b0, b1, b2, b3, bf⟩ := HM.out.rb.cells
        have hme : (es.length : Int) = m := by omega
        have hbr : w.heap.size ≠ w2.heap.size := by omega
        go_wp2_with fail
        refine bodyPost_ret (v := .agg #[.int .i64 2, .string s, .int .i64 0, .slice ak es.length ck]) (by simp [results, Tryd.results37, go_sem, b0, b1, b2, b3]) rfl ?_
        refine ⟨2, s, 0, es, ak, ck, rfl, ((((HM.out.row.set (by omega) _ _).set (by omega) _ _).set (by omega) _ _).set (by omega) _ _).lower (by omega), ?_, (((HM.out.dg.set hw0 (Nat.le_refl _) (by omega) _ _).set hw0 (Nat.le_refl _) (by omega) _ _).set hw0 (Nat.le_refl _) (by omega) _ _).set hw0 (Nat.le_refl _) (by omega) _ _⟩
        exact smM_node (by unfold i64E; omega) (by unfold i64E; omega) (by first | omega | (show (0 : Nat) ≤ 60; omega)) (by omega) HM.out.wt (by have := HM.out.nd; have h2 : es.length * Mq ≤ 2 * Mq := Nat.mul_le_mul_right _ (by omega); omega)
  obtain ⟨m, hkk⟩ : ∃ m, kidsV y = m := ⟨_, rfl⟩
  have hm2 : 0 ≤ m ∧ m ≤ 2 ∧ m = 0 := by rw [← hkk]; unfold kidsV; (repeat' split) <;> omega
  have qb0 : (y == 0) = false := by simp; exact q0
  have qb1 : (y == 1) = false := by simp; exact q1
  have qb2 : (y == 2) = false := by simp; exact q2
  have HM0 : Hid (Mid w0 a c l g w w2.heap.size y ⟨#[]⟩ 0 Mq [] none 0 (w2.alloc (.cells #[.int .i64 y, .string ⟨#[]⟩, .int .i64 0, .slice none 0 0] 26))) :=
    ⟨exRow_new w2 y ⟨#[]⟩ 0 (.slice none 0 0), HRB1.out.alloc _, HD1.out.alloc _, Row.nil _ _, by simp [nodesL], by simp [wtL]⟩
  go_wp2_with fail
  go_loopw [7] (fun i wr => ∃ (es : List Es) (ak : Option Addr) (ck : Nat), i = .int .i64 (es.length : Int) ∧ (es.length : Int) ≤ m ∧ Hid (Mid w0 a c l g w w2.heap.size y ⟨#[]⟩ 0 Mq es ak ck wr)) (fun i _ => 3 - (intOf i).toNat)
  case atStart => exact ⟨[], none, 0, rfl, by simp; omega, HM0⟩
  case round =>
    obtain ⟨es, ak, ck, rfl, hle, HM⟩ := hrel
    have hltR := HM.out.er.lt
    go_wp2_with fail
    refine (specKidsV _ _ m hkk).mono ?_
    rintro e w4 ⟨rfl, rfl⟩
    by_cases hlt : (es.length : Int) < m
    · omega
    · obtain ⟨r0, r1, r2, r3, rf⟩ := HM.out.er.cells
      obtain ⟨b0, b1, b2, b3, bf⟩ := HM.out.rb.cells
      have hme : (es.length : Int) = m := by omega
      have hbr : w.heap.size ≠ w2.heap.size := by omega
      go_wp2_with fail
      refine bodyPost_ret (v := .agg #[.int .i64 y, .string ⟨#[]⟩, .int .i64 0, .slice ak es.length ck]) (by simp [results, Tryd.results37, go_sem, b0, b1, b2, b3]) rfl ?_
      refine ⟨y, ⟨#[]⟩, 0, es, ak, ck, rfl, ((((HM.out.row.set (by omega) _ _).set (by omega) _ _).set (by omega) _ _).set (by omega) _ _).lower (by omega), ?_, (((HM.out.dg.set hw0 (Nat.le_refl _) (by omega) _ _).set hw0 (Nat.le_refl _) (by omega) _ _).set hw0 (Nat.le_refl _) (by omega) _ _).set hw0 (Nat.le_refl _) (by omega) _ _⟩
      exact smM_node (by unfold i64E; omega) (by unfold i64E; omega) (by first | omega | (show (0 : Nat) ≤ 60; omega)) (by omega) HM.out.wt (by have := HM.out.nd; have h2 : es.length * Mq ≤ 2 * Mq := Nat.mul_le_mul_right _ (by omega); omega)

set_option maxRecDepth 100000 in
set_option maxHeartbeats 4000000 in
theorem makeMore (q : Nat) (hq3 : q ≤ 2) (ih : MakeP q) : MakeP (q + 1) := by
  intro w0 a c l g w hd hw0
  have hgl := hd.lt
  have HD0 := Lib.hid (DGE.start hd)
  have Hd0 := Lib.hid hd
  obtain ⟨i0, hi0, hz0, hz1, hz2⟩ := info_parts Tryd.infoExpr
  obtain ⟨D, hD⟩ : ∃ D : Int, ((q + 1 : Nat) : Int) = D := ⟨_, rfl⟩
  have hwQ : IntKind.i64.wrap (D - 1) = (q : Int) := by rw [← hD]; rw [IntWalk.i64_in _ (by omega)]; omega
  have hDb : (D == 0) = false := by simp; omega
  have hpos := deepN_pos (q + 1)
  have HIH : Hid (MakeP q) := @ih
  obtain ⟨Mq, hMq⟩ : ∃ Mq : Nat, Mq = deepN q := ⟨_, rfl⟩
  have hM2 : deepN (q + 1) = 2 * Mq + 1 := by rw [hMq]; rfl
  rw [hD]
  clear hd hD ih
  go_enter Tryd.func37, Tryd.ntmps37
  go_wp2_with fail
  refine (l01Below (Hd0.out.alloc _) 19 (by omega) (by omega)).mono ?_
  rintro e w1 ⟨v, ⟨x, rfl, hx0, hx1⟩, rfl, hd1, hg1⟩
  have HD1 := Lib.hid ((HD0.out.alloc (.cells #[.int .i64 0, .string ⟨#[]⟩, .int .i64 0, .slice none 0 0] 26)).next hd1 hg1)
  have HRB1 := Lib.hid ((exRow_new w 0 ⟨#[]⟩ 0 (.slice none 0 0)).kept hg1 (fun e => by have := Option.some.inj e; omega))
  clear hd1 hg1
  have hsz : w.heap.size < w1.heap.size := HRB1.out.lt
  by_cases q0 : x = 0
  · subst q0
    obtain ⟨m, hkk⟩ : ∃ m, kidsV 0 = m := ⟨_, rfl⟩
    have hm2 : 0 ≤ m ∧ m ≤ 2 ∧ m = 0 := by rw [← hkk]; unfold kidsV; (repeat' split) <;> omega
    go_wp2_with fail
    refine (l03NameS (HD1.out.alloc _).1).mono ?_
    rintro e w3 ⟨v, ⟨s, rfl, hss⟩, rfl, hd3, hg3⟩
    have HM0 : Hid (Mid w0 a c l g w w1.heap.size 0 s 0 Mq [] none 0 (w3.setCell ⟨w1.heap.size, 1, none⟩ (.string s))) := by
      have er := (exRow_new w1 0 ⟨#[]⟩ 0 (.slice none 0 0)).kept hg3 (fun e => by have := Option.some.inj e; omega)
      exact ⟨er.set1 s, ((HRB1.out.alloc _).kept hg3 (fun e => by have := Option.some.inj e; omega)).setO (by omega) _ _, ((HD1.out.alloc _).next hd3 hg3).set hw0 (by omega) (by omega) _ _, Row.nil _ _, by simp [nodesL], by simp [wtL]⟩
    obtain ⟨r0, r1, r2, r3, rf⟩ := ((exRow_new w1 0 ⟨#[]⟩ 0 (.slice none 0 0)).kept hg3 (fun e => by have := Option.some.inj e; omega)).cells
    clear hd3 hg3
    go_wp2_with fail
    go_loopw [7] (fun i wr => ∃ (es : List Es) (ak : Option Addr) (ck : Nat), i = .int .i64 (es.length : Int) ∧ (es.length : Int) ≤ m ∧ Hid (Mid w0 a c l g w w1.heap.size 0 s 0 Mq es ak ck wr)) (fun i _ => 3 - (intOf i).toNat)
    case atStart => exact ⟨[], none, 0, rfl, by simp; omega, HM0⟩
    case round =>
      obtain ⟨es, ak, ck, rfl, hle, HM⟩ := hrel
      have hltR := HM.out.er.lt
      go_wp2_with fail
      refine (specKidsV _ _ m hkk).mono ?_
      rintro e w4 ⟨rfl, rfl⟩
      by_cases hlt : (es.length : Int) < m
      · omega
      · obtain ⟨r0, r1, r2, r3, rf⟩ := HM.out.er.cells
        obtain ⟨b0, b1, b2, b3, bf⟩ := HM.out.rb.cells
        have hme : (es.length : Int) = m := by omega
        have hbr : w.heap.size ≠ w1.heap.size := by omega
        go_wp2_with fail
        refine bodyPost_ret (v := .agg #[.int .i64 0, .string s, .int .i64 0, .slice ak es.length ck]) (by simp [results, Tryd.results37, go_sem, b0, b1, b2, b3]) rfl ?_
        refine ⟨0, s, 0, es, ak, ck, rfl, ((((HM.out.row.set (by omega) _ _).set (by omega) _ _).set (by omega) _ _).set (by omega) _ _).lower (by omega), ?_, (((HM.out.dg.set hw0 (Nat.le_refl _) (by omega) _ _).set hw0 (Nat.le_refl _) (by omega) _ _).set hw0 (Nat.le_refl _) (by omega) _ _).set hw0 (Nat.le_refl _) (by omega) _ _⟩
        exact smM_node (by unfold i64E; omega) (by unfold i64E; omega) (by first | omega | (show (0 : Nat) ≤ 60; omega)) (by omega) HM.out.wt (by have := HM.out.nd; have h2 : es.length * Mq ≤ 2 * Mq := Nat.mul_le_mul_right _ (by omega); omega)
  by_cases q1 : x = 1
  · subst q1
    obtain ⟨m, hkk⟩ : ∃ m, kidsV 1 = m := ⟨_, rfl⟩
    have hm2 : 0 ≤ m ∧ m ≤ 2 ∧ m = 0 := by rw [← hkk]; unfold kidsV; (repeat' split) <;> omega
    go_wp2_with fail
    refine (l01PickIntP ((HD1.out.alloc _).alloc _).1 (fun z => 0 ≤ z ∧ z ≤ 999999999) (w1.heap.size + 1) 4 _ (by rw [← size_allocE w1 (.cells #[.int .i64 1, .string ⟨#[]⟩, .int .i64 0, .slice none 0 0] 26)]; exact heap_alloc_new _ _) (by omega) rfl (by omega) (by omega) ?_).mono ?_
    · intro k v hv
      have hm := Array.mem_of_getElem? hv
      simp only [List.mem_toArray, List.mem_cons, List.not_mem_nil, or_false] at hm
      rcases hm with rfl | rfl | rfl | rfl <;> exact ⟨_, rfl, by omega, by omega⟩
    rintro e w3 ⟨v, ⟨y1, rfl, hy⟩, rfl, hd3, hg3⟩
    have HM0 : Hid (Mid w0 a c l g w w1.heap.size 1 ⟨#[]⟩ y1 Mq [] none 0 (w3.setCell ⟨w1.heap.size, 2, none⟩ (.int .i64 y1))) := by
      have er := ((exRow_new w1 1 ⟨#[]⟩ 0 (.slice none 0 0)).alloc _).kept hg3 (fun e => by have := Option.some.inj e; omega)
      exact ⟨er.set2 y1, (((HRB1.out.alloc _).alloc _).kept hg3 (fun e => by have := Option.some.inj e; omega)).setO (by omega) _ _, (((HD1.out.alloc _).alloc _).next hd3 hg3).set hw0 (by omega) (by omega) _ _, Row.nil _ _, by simp [nodesL], by simp [wtL]⟩
    obtain ⟨r0, r1, r2, r3, rf⟩ := (((exRow_new w1 1 ⟨#[]⟩ 0 (.slice none 0 0)).alloc _).kept hg3 (fun e => by have := Option.some.inj e; omega)).cells
    clear hd3 hg3
    go_wp2_with fail
    go_loopw [7] (fun i wr => ∃ (es : List Es) (ak : Option Addr) (ck : Nat), i = .int .i64 (es.length : Int) ∧ (es.length : Int) ≤ m ∧ Hid (Mid w0 a c l g w w1.heap.size 1 ⟨#[]⟩ y1 Mq es ak ck wr)) (fun i _ => 3 - (intOf i).toNat)
    case atStart => exact ⟨[], none, 0, rfl, by simp; omega, HM0⟩
    case round =>
      obtain ⟨es, ak, ck, rfl, hle, HM⟩ := hrel
      have hltR := HM.out.er.lt
      go_wp2_with fail
      refine (specKidsV _ _ m hkk).mono ?_
      rintro e w4 ⟨rfl, rfl⟩
      by_cases hlt : (es.length : Int) < m
      · omega
      · obtain ⟨r0, r1, r2, r3, rf⟩ := HM.out.er.cells
        obtain ⟨b0, b1, b2, b3, bf⟩ := HM.out.rb.cells
        have hme : (es.length : Int) = m := by omega
        have hbr : w.heap.size ≠ w1.heap.size := by omega
        go_wp2_with fail
        refine bodyPost_ret (v := .agg #[.int .i64 1, .string ⟨#[]⟩, .int .i64 y1, .slice ak es.length ck]) (by simp [results, Tryd.results37, go_sem, b0, b1, b2, b3]) rfl ?_
        refine ⟨1, ⟨#[]⟩, y1, es, ak, ck, rfl, ((((HM.out.row.set (by omega) _ _).set (by omega) _ _).set (by omega) _ _).set (by omega) _ _).lower (by omega), ?_, (((HM.out.dg.set hw0 (Nat.le_refl _) (by omega) _ _).set hw0 (Nat.le_refl _) (by omega) _ _).set hw0 (Nat.le_refl _) (by omega) _ _).set hw0 (Nat.le_refl _) (by omega) _ _⟩
        exact smM_node (by unfold i64E; omega) (by unfold i64E; omega) (by first | omega | (show (0 : Nat) ≤ 60; omega)) (by omega) HM.out.wt (by have := HM.out.nd; have h2 : es.length * Mq ≤ 2 * Mq := Nat.mul_le_mul_right _ (by omega); omega)
  by_cases q2 : x = 2
  · subst q2
    obtain ⟨m, hkk⟩ : ∃ m, kidsV 2 = m := ⟨_, rfl⟩
    have hm2 : 0 ≤ m ∧ m ≤ 2 ∧ m = 0 := by rw [← hkk]; unfold kidsV; (repeat' split) <;> omega
    go_wp2_with fail
    refine (pickLit1 HD1.out.1 (.cells #[.int .i64 2, .string ⟨#[]⟩, .int .i64 0, .slice none 0 0] 26) texts5e 5 rfl (fun s hs => by have := texts5e_small s hs; unfold maxLen; omega) (by decide) (by decide) _ rfl).mono ?_
    rintro e w3 ⟨v, ⟨s, rfl, hs⟩, rfl, hd3, hg3⟩
    have hss := texts5e_small s hs
    have HM0 : Hid (Mid w0 a c l g w w1.heap.size 2 s 0 Mq [] none 0 (w3.setCell ⟨w1.heap.size, 1, none⟩ (.string s))) := by
      have er := ((exRow_new w1 2 ⟨#[]⟩ 0 (.slice none 0 0)).alloc _).kept hg3 (fun e => by have := Option.some.inj e; omega)
      exact ⟨er.set1 s, (((HRB1.out.alloc _).alloc _).kept hg3 (fun e => by have := Option.some.inj e; omega)).setO (by omega) _ _, (((HD1.out.alloc _).alloc _).next hd3 hg3).set hw0 (by omega) (by omega) _ _, Row.nil _ _, by simp [nodesL], by simp [wtL]⟩
    obtain ⟨r0, r1, r2, r3, rf⟩ := (((exRow_new w1 2 ⟨#[]⟩ 0 (.slice none 0 0)).alloc _).kept hg3 (fun e => by have := Option.some.inj e; omega)).cells
    clear hd3 hg3
    go_wp2_with fail
    go_loopw [7] (fun i wr => ∃ (es : List Es) (ak : Option Addr) (ck : Nat), i = .int .i64 (es.length : Int) ∧ (es.length : Int) ≤ m ∧ Hid (Mid w0 a c l g w w1.heap.size 2 s 0 Mq es ak ck wr)) (fun i _ => 3 - (intOf i).toNat)
    case atStart => exact ⟨[], none, 0, rfl, by simp; omega, HM0⟩
    case round =>
      obtain ⟨es, ak, ck, rfl, hle, HM⟩ := hrel
      have hltR := HM.out.er.lt
      go_wp2_with fail
      refine (specKidsV _ _ m hkk).mono ?_
      rintro e w4 ⟨rfl, rfl⟩
      by_cases hlt : (es.length : Int) < m
      · omega
      · obtain ⟨r0, r1, r2, r3, rf⟩ := HM.out.er.cells
        obtain ⟨b0, b1, b2, b3, bf⟩ := HM.out.rb.cells
        have hme : (es.length : Int) = m := by omega
        have hbr : w.heap.size ≠ w1.heap.size := by omega
        go_wp2_with fail
        refine bodyPost_ret (v := .agg #[.int .i64 2, .string s, .int .i64 0, .slice ak es.length ck]) (by simp [results, Tryd.results37, go_sem, b0, b1, b2, b3]) rfl ?_
        refine ⟨2, s, 0, es, ak, ck, rfl, ((((HM.out.row.set (by omega) _ _).set (by omega) _ _).set (by omega) _ _).set (by omega) _ _).lower (by omega), ?_, (((HM.out.dg.set hw0 (Nat.le_refl _) (by omega) _ _).set hw0 (Nat.le_refl _) (by omega) _ _).set hw0 (Nat.le_refl _) (by omega) _ _).set hw0 (Nat.le_refl _) (by omega) _ _⟩
        exact smM_node (by unfold i64E; omega) (by unfold i64E; omega) (by first | omega | (show (0 : Nat) ≤ 60; omega)) (by omega) HM.out.wt (by have := HM.out.nd; have h2 : es.length * Mq ≤ 2 * Mq := Nat.mul_le_mul_right _ (by omega); omega)
  obtain ⟨m, hkk⟩ : ∃ m, kidsV x = m := ⟨_, rfl⟩
  have hm2 : 0 ≤ m ∧ m ≤ 2 := by rw [← hkk]; unfold kidsV; (repeat' split) <;> omega
  have qb0 : (x == 0) = false := by simp; exact q0
  have qb1 : (x == 1) = false := by simp; exact q1
  have qb2 : (x == 2) = false := by simp; exact q2
  have HM0 : Hid (Mid w0 a c l g w w1.heap.size x ⟨#[]⟩ 0 Mq [] none 0 (w1.alloc (.cells #[.int .i64 x, .string ⟨#[]⟩, .int .i64 0, .slice none 0 0] 26))) :=
    ⟨exRow_new w1 x ⟨#[]⟩ 0 (.slice none 0 0), HRB1.out.alloc _, HD1.out.alloc _, Row.nil _ _, by simp [nodesL], by simp [wtL]⟩
  go_wp2_with fail
  go_loopw [7] (fun i wr => ∃ (es : List Es) (ak : Option Addr) (ck : Nat), i = .int .i64 (es.length : Int) ∧ (es.length : Int) ≤ m ∧ Hid (Mid w0 a c l g w w1.heap.size x ⟨#[]⟩ 0 Mq es ak ck wr)) (fun i _ => 3 - (intOf i).toNat)
  case atStart => exact ⟨[], none, 0, rfl, by simp; omega, HM0⟩
  case round =>
    obtain ⟨es, ak, ck, rfl, hle, HM⟩ := hrel
    have hltR := HM.out.er.lt
    go_wp2_with fail
    refine (specKidsV _ _ m hkk).mono ?_
    rintro e w4 ⟨rfl, rfl⟩
    by_cases hlt : (es.length : Int) < m
    · have HMD := Lib.hid (HM.out.below (below_drewE (Below.refl _ _)))
      have HKE : Hid (∀ W, wr.drew.grownBy W (some g) → W.cell? ⟨w1.heap.size, 3, none⟩ = some (.slice ak es.length ck) ∧ W.frozen? ⟨w1.heap.size, 3, none⟩ = false) := fun W hg => by
        obtain ⟨_, _, _, z3, zf⟩ := (HMD.out.er.kept hg (fun e => by have := Option.some.inj e; omega)).cells
        exact ⟨z3, zf 3⟩
      have HKK : Hid (∀ W o W', wr.drew.grownBy W (some g) → (W.alloc o).grownBy W' (Value.slice ak es.length ck).ownBlock → W'.cell? ⟨w1.heap.size, 3, none⟩ = some (.slice ak es.length ck) ∧ W'.frozen? ⟨w1.heap.size, 3, none⟩ = false) := fun W o W' hg hg' => by
        obtain ⟨_, _, _, z3, zf⟩ := (((HMD.out.er.kept hg (fun e => by have := Option.some.inj e; omega)).alloc o).kept hg' (fun e => by have := (HMD.out.row.own.lt _ e).1; omega)).cells
        exact ⟨z3, zf 3⟩
      have HKA : Hid (∀ W o, wr.drew.grownBy W (some g) → (W.alloc o).cell? ⟨w1.heap.size, 3, none⟩ = some (.slice ak es.length ck) ∧ (W.alloc o).frozen? ⟨w1.heap.size, 3, none⟩ = false) := fun W o hg => by
        obtain ⟨_, _, _, z3, zf⟩ := ((HMD.out.er.kept hg (fun e => by have := Option.some.inj e; omega)).alloc o).cells
        exact ⟨z3, zf 3⟩
      have HS : Hid (wr.drew.cell? ⟨w1.heap.size, 3, none⟩ = some (.slice ak es.length ck) ∧ wr.drew.frozen? ⟨w1.heap.size, 3, none⟩ = false) := by
        obtain ⟨_, _, _, z3, zf⟩ := HMD.out.er.cells
        exact ⟨z3, zf 3⟩
      have HDS := Lib.hid (show w0.heap.size ≤ wr.drew.heap.size by have := HMD.out.dg.2.size; omega)
      have hszW : w1.heap.size < wr.drew.heap.size := HMD.out.er.lt
      have hlen : es.length ≤ 1 := by omega
      go_wp2_with fail
      obtain ⟨y3, yf⟩ := HS.out
      go_region_law
        (first
          | (refine step_append_lies _ rfl (.tmp 41) (.tmp 46) 24 rfl (w1.heap.size + 1) 26 i0 (.agg #[.int .i64 0, .string ByteArray.empty, .int .i64 0, .slice none 0 0]) 4 56 Tryd.underlying24 hi0 hz0 hz1 hz2 rfl (by decide) (.slice ak es.length ck) es.length (ecells es) rfl (HROW.out.alloc _).own ⟨w2'.heap.size, 0, none⟩ 1 1 [.int .i64 k2, .string t2, .int .i64 n2, .slice a2 es2.length c2] rfl rfl (World.news_of_block (heap_alloc_new w2' _)) (fun u hu => by simp at hu; rcases hu with rfl | rfl | rfl | rfl <;> rfl) (by omega) (by unfold maxLen; omega) (by omega) (by simp; omega) _ rfl ?_; intro g4 cap4 w4 hown4 hg4 hat4 hlt4; obtain ⟨y5, y5f⟩ := HKK.out _ _ _ HG2.out hg4)
          | (go_simp; go_at_call 37; refine (HIH.out HMD.out.dg.1 HDS.out).mono ?_; rintro e w2' ⟨k2, t2, n2, es2, a2, c2, rfl, hrow2, hsm2, hdg2⟩; obtain ⟨y4, y4f⟩ := HKE.out _ hdg2.2; have HROW := Lib.hid (HMD.out.row.grown hdg2.2 (fun q hq => by cases hq; omega)); have hsz2 := hdg2.2.size; have hRw := Nat.lt_of_lt_of_le hszW hsz2; have HG2 := Lib.hid hdg2.2; have HR2 := Lib.hid hrow2; have HM2 := Lib.hid hsm2; have HDG2 := Lib.hid hdg2; clear hrow2 hsm2 hdg2))
      all_goals
        have hMP := Lib.hid (Mid.push hw0 hgl hsz HMD.out HR2.out (by rw [hMq]; exact HM2.out.1) HDG2.out hown4 hg4 hat4)
        clear hown4 hg4 hat4
        go_wp2_with fail
        go_roundw
        case rel => exact ⟨es ++ [⟨eOf k2 t2 n2 es2, a2, c2⟩], some ⟨g4, 0, none⟩, cap4, by simp, by simp; omega, hMP⟩
        case measure => simp [intOf]; omega

    · obtain ⟨r0, r1, r2, r3, rf⟩ := HM.out.er.cells
      obtain ⟨b0, b1, b2, b3, bf⟩ := HM.out.rb.cells
      have hme : (es.length : Int) = m := by omega
      have hbr : w.heap.size ≠ w1.heap.size := by omega
      go_wp2_with fail
      refine bodyPost_ret (v := .agg #[.int .i64 x, .string ⟨#[]⟩, .int .i64 0, .slice ak es.length ck]) (by simp [results, Tryd.results37, go_sem, b0, b1, b2, b3]) rfl ?_
      refine ⟨x, ⟨#[]⟩, 0, es, ak, ck, rfl, ((((HM.out.row.set (by omega) _ _).set (by omega) _ _).set (by omega) _ _).set (by omega) _ _).lower (by omega), ?_, (((HM.out.dg.set hw0 (Nat.le_refl _) (by omega) _ _).set hw0 (Nat.le_refl _) (by omega) _ _).set hw0 (Nat.le_refl _) (by omega) _ _).set hw0 (Nat.le_refl _) (by omega) _ _⟩
      exact smM_node (by unfold i64E; omega) (by unfold i64E; omega) (by first | omega | (show (0 : Nat) ≤ 60; omega)) (by omega) HM.out.wt (by have := HM.out.nd; have h2 : es.length * Mq ≤ 2 * Mq := Nat.mul_le_mul_right _ (by omega); omega)

theorem make3 : MakeP 3 := makeMore 2 (by omega) (makeMore 1 (by omega) (makeMore 0 (by omega) makeZero))

end Go.Proofs.YtpdcmmhhgnackaaDoor
