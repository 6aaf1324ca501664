/- impl.ExprOk: the walk over the nodes leaves by a panic where one is not right. -/
import Derived.Test.YtefjjcoaeanagaaDoorOkI
import Derived.Test.YtefjjcoaeanagaaDoorMEachCheck
import Derived.Test.YtefjjcoaeanagaaDoorMExSz
import Derived.Defers
import Derived.Recover
namespace Go.Proofs.YtefjjcoaeanagaaDoor
open Go.RowKit

def chkE (e : Ex) : Bool := node1 e.kind e.text e.num e.kids.length

theorem all_shape : ∀ e : Ex, e.all chkE = shapeE e := by
  intro e
  induction hn : e.nodes using Nat.strongRecOn generalizing e with
  | ind n ih =>
    have key : ∀ l : List Ex, nodesL l < n → allL chkE l = shapeL l := by
      intro l
      induction l with
      | nil => intro _; rfl
      | cons x r ihl =>
        intro h
        rw [nodesL] at h
        rw [allL, shapeL, ih x.nodes (by omega) x rfl, ihl (by omega)]
    have hne := Ex.nodes_eq e
    obtain ⟨k, t, m, kids⟩ := e
    change (Ex.mk k t m kids).nodes = 1 + nodesL kids at hne
    have hkk := key kids (by omega)
    rw [Ex.all_eq, shapeE]
    show (node1 k t m kids.length && allL chkE kids) = _
    rw [hkk]

def noExpr : ByteArray := ⟨#[110, 111, 116, 32, 97, 110, 32, 101, 120, 112, 114, 101, 115, 115, 105, 111, 110]⟩
def noPanic : List PanicEntry := [{ v := .iface 9 (.string noExpr), recovered := false }]

set_option maxHeartbeats 1000000 in
theorem countCall (wb : Nat) (e : Ex) (a : Option Addr) (c m : Nat) (w : World) (hc : w.cell? ⟨wb, 0, none⟩ = some (.int .i64 m)) (hz : w.frozen? ⟨wb, 0, none⟩ = false) (hm : m ≤ 1073741824) :
    Calls Tryd.prog 79 #[.pointer (some ⟨wb, 0, none⟩), .agg #[.int .i64 e.kind, .string e.text, .int .i64 e.num, .slice a e.kids.length c]] w fun x w' =>
      x = .returned (.tuple #[]) ∧ w.grownBy w' (some wb) ∧ w'.cell? ⟨wb, 0, none⟩ = some (.int .i64 (m + 1 : Nat)) ∧ w'.frozen? ⟨wb, 0, none⟩ = false := by
  have hlt := World.block_lt_of_cell? w ⟨wb, 0, none⟩ hc
  have H := Lib.hid (count_grown hc hz)
  go_enter Tryd.func79, Tryd.ntmps79
  go_wp2_with fail
  refine bodyPost_end (results_none rfl _ _ _) rfl ?_
  obtain ⟨h1, h2, h3⟩ := H.out _ (by go_num) rfl
  exact ⟨rfl, h1, h2, h3⟩

theorem FormsAt.grown {w w' : World} {wb : Nat} (h : FormsAt w) (hg : w.grownBy w' (some wb)) (hne : wb ≠ 0) : FormsAt w' := by
  refine ⟨Nat.lt_of_lt_of_le h.1 hg.size, fun i hi => ?_⟩
  obtain ⟨h0, h1, h2, h3⟩ := h.2 i hi
  have e := cell_grown hg h.1 (fun h => hne (Option.some.inj h))
  exact ⟨(e _).trans h0, (e _).trans h1, (e _).trans h2, (e _).trans h3⟩

set_option maxRecDepth 100000 in
set_option maxHeartbeats 2000000 in
theorem checkSees (wb : Nat) (hwb : wb ≠ 0) : Sees FormsAt 62 wb chkE 40 noPanic := by
  intro e a c d m w hFw hfit hk hc hz hm
  have hlt := World.block_lt_of_cell? w ⟨wb, 0, none⟩ hc
  have hl := hk.len
  have hts := hfit.1
  have hg0 := fun o => grownBy_alloc w o (some wb)
  have HBX := Lib.hid (fun T => boxK_new w e.kind e.text e.num a e.kids.length c T)
  have HF := Lib.hid hFw
  clear hk hfit hFw
  have HC : Hid (∀ o, (w.alloc o).cell? ⟨wb, 0, none⟩ = some (.int .i64 m) ∧ (w.alloc o).frozen? ⟨wb, 0, none⟩ = false) := fun o =>
    ⟨((grownBy_alloc w o none).cell_far ⟨wb, 0, none⟩ hlt (by simp)).trans hc, ((grownBy_alloc w o none).frozen_far ⟨wb, 0, none⟩ hlt (by simp)).trans hz⟩
  go_enter Tryd.func62, Tryd.ntmps62
  go_wp2_with fail
  refine (countCall wb e a c m _ (HC.out _).1 (HC.out _).2 hm).mono ?_
  rintro x w2 ⟨rfl, hg2, hc2, hz2⟩
  have BX : BoxK w e.kind e.text e.num a e.kids.length c w2 ∨ True := .inr trivial
  have hcells : w2.cell? ⟨w.heap.size, 0, none⟩ = some (.int .i64 e.kind) ∧ w2.cell? ⟨w.heap.size, 1, none⟩ = some (.string e.text) ∧ w2.cell? ⟨w.heap.size, 2, none⟩ = some (.int .i64 e.num) ∧ w2.cell? ⟨w.heap.size, 3, none⟩ = some (.slice a e.kids.length c) := by
    obtain ⟨q0, q1, q2, q3, q4, _⟩ := HBX.out 26
    have e' := cell_grown hg2 q0 (fun h => by have := Option.some.inj h; omega)
    exact ⟨(e' _).trans q1, (e' _).trans q2, (e' _).trans q3, (e' _).trans q4⟩
  obtain ⟨b0, b1, b2, b3⟩ := hcells
  have HG2 := Lib.hid ((hg0 _).trans hg2)
  have HF2 := Lib.hid ((HF.out.grown (hg0 (.cells #[.int .i64 e.kind, .string e.text, .int .i64 e.num, .slice a e.kids.length c] 26)) hwb).grown hg2 hwb)
  clear hg2 BX hg0
  by_cases h40 : m + 1 ≤ 40
  · have hd : decide (40 < ((m + 1 : Nat) : Int)) = false := by simp; omega
    have hd2 : decide (m + 1 ≤ 40) = true := decide_eq_true h40
    cases hck : chkE e with
    | true =>
      have HCK := Lib.hid (show node1 e.kind e.text e.num e.kids.length = true from hck)
      clear hck
      go_wp2_with fail
      refine (implNodeOk e.kind e.text e.num a e.kids.length c _ HF2.out hts hl true HCK.out).mono ?_
      rintro x w3 ⟨rfl, hb3⟩
      have HB3 := Lib.hid hb3
      clear hb3
      go_wp2_with fail
      refine bodyPost_end (results_none rfl _ _ _) rfl ?_
      have hlt2 : wb < w2.heap.size := Nat.lt_of_lt_of_le hlt HG2.out.size
      have hb3 := HB3.out
      exact ⟨HG2.out.trans ⟨hb3.os, hb3.tape, hb3.output, hb3.size, fun k hk _ => hb3.block k hk⟩, (hb3.cell (p := ⟨wb, 0, none⟩) hlt2).trans hc2, (hb3.frozen (p := ⟨wb, 0, none⟩) hlt2).trans hz2, by rw [show chkE e = true from HCK.out]; first | rfl | (rw [hd2]; rfl)⟩
    | false =>
      have HCK := Lib.hid (show node1 e.kind e.text e.num e.kids.length = false from hck)
      clear hck
      go_wp2_with fail
      refine (implNodeOk e.kind e.text e.num a e.kids.length c _ HF2.out hts hl false HCK.out).mono ?_
      rintro x w3 ⟨rfl, hb3⟩
      have HB3 := Lib.hid hb3
      clear hb3
      go_wp2_with fail
      have hlt2 : wb < w2.heap.size := Nat.lt_of_lt_of_le hlt HG2.out.size
      have hb3 := HB3.out
      exact ⟨rfl, HG2.out.trans ⟨hb3.os, hb3.tape, hb3.output, hb3.size, fun k hk _ => hb3.block k hk⟩, (hb3.cell (p := ⟨wb, 0, none⟩) hlt2).trans hc2, (hb3.frozen (p := ⟨wb, 0, none⟩) hlt2).trans hz2, by rw [show chkE e = false from HCK.out]; rfl⟩
  · have hd : decide (40 < ((m + 1 : Nat) : Int)) = true := by simp; omega
    have hd2 : decide (m + 1 ≤ 40) = false := decide_eq_false h40
    go_wp2_with fail
    exact ⟨rfl, HG2.out, hc2, hz2, by first | rfl | (rw [hd2, Bool.and_false]; rfl)⟩

theorem catchP (p : Addr) (x : Bool) (u : TypeId) (pv : Value) (older : List PanicEntry) (w : World) (hc : w.cell? p = some (.bool x)) (hz : w.frozen? p = false) :
    CallsD Tryd.prog 61 #[.pointer (some p)] (.panicking ({ v := .iface u pv, recovered := false } :: older)) w fun e u' w' =>
      e = .returned (.tuple #[]) ∧ u' = .panicking ({ v := .iface u pv, recovered := true } :: older) ∧ w' = w.setCell p (.bool false) := by
  refine callsD_of_wpS Tryd.func61 rfl fun c₀ cs hu => ?_
  apply wpS_seq
  apply wpS_region
  simp [wpOpsS, go_sem, recoverD, hu, Tryd.ntmps61, Exit.thenS]
  refine wpS_cond (t := true) (by simp [Act.eval, Array.replicate]) ?_
  simp only [if_true]
  apply wpS_region
  simp [wpOpsS, go_sem, hc, hz, bodyPostS, results, Tryd.results61]

theorem catchI (p : Addr) (w : World) :
    CallsD Tryd.prog 61 #[.pointer (some p)] .returning w fun e u' w' => e = .returned (.tuple #[]) ∧ u' = .returning ∧ w' = w := by
  refine callsD_of_wpS Tryd.func61 rfl fun c₀ cs hu => ?_
  apply wpS_seq
  apply wpS_region
  simp [wpOpsS, go_sem, recoverD, hu, Tryd.ntmps61, Exit.thenS]
  refine wpS_cond (t := false) (by simp [Act.eval, Array.replicate]) ?_
  simp only [Bool.false_eq_true, if_false]
  refine wpS_of_wp (wp_skip ?_)
  cases c₀
  simp_all [bodyPostS, results, Tryd.results61]

set_option maxRecDepth 100000 in
set_option maxHeartbeats 2000000 in
theorem implExprOk (e : Ex) (a : Option Addr) (c d : Nat) (w : World) (hF : FormsAt w) (hfit : e.fit) (hk : KidsAt w d a c e.kids) (hn : e.nodes ≤ 1073741824) (v : Bool) (hv : (decide (e.nodes ≤ 40) && shapeE e) = v) :
    Calls Tryd.prog 30 #[.agg #[.int .i64 e.kind, .string e.text, .int .i64 e.num, .slice a e.kids.length c]] w fun x w' => x = .returned (.bool v) ∧ Below w.heap.size w w' := by
  have hmf : ∀ (fn : Fn) (first cap : Array Value) (w : World), (Instr.makeFunc fn first cap).run Tryd.prog w = .ok (.func fn first cap) w := fun _ _ _ _ => rfl
  have hGlt := hF.1
  have HB : Hid (∀ o1 o2 o3 W, W = ((w.alloc o1).alloc o2).alloc o3 → Below w.heap.size w W) := by
    intro o1 o2 o3 W hW
    subst hW; exact (((Below.refl _ _).alloc (Nat.le_refl _) _).alloc (by simp) _).alloc (by simp; omega) _
  have HK : Hid (∀ o1 o2 o3 W, W = ((w.alloc o1).alloc o2).alloc o3 → KidsQ (fun b => b ≠ w.heap.size + 2) W d a c e.kids ∧ FormsAt W) := by
    intro o1 o2 o3 W hW
    have hb := HB.out o1 o2 o3 W hW
    exact ⟨(hk.q.agree hb.size fun b h _ o => hb.cell (p := ⟨b, o, none⟩) h).imp fun b h _ => by omega, hF.below hb hGlt⟩
  have HV : Hid ((e.all chkE && decide (0 + e.nodes ≤ 40)) = v) := by unfold Hid; rw [all_shape, Nat.zero_add, Bool.and_comm]; exact hv
  clear hk hF hv
  go_enter_defers Tryd.func30, Tryd.ntmps30
  go_wp2_with fail
  refine (eachCheck (checkSees (w.heap.size + 2) (by omega)) e a c d 0 _ (fun w' hg => (HK.out _ _ _ _ rfl).2.grown hg (by omega)) hfit (HK.out _ _ _ _ rfl).1 (by simp) (by simp [go_sem]) (by simp [go_sem]) (by omega)).mono ?_
  rintro x w2 ⟨hg, rfl, _⟩
  rw [HV.out]
  have hbox : w2.cell? ⟨w.heap.size + 1, 0, none⟩ = some (.bool false) ∧ w2.frozen? ⟨w.heap.size + 1, 0, none⟩ = false := by
    refine ⟨(cell_grown hg (b := w.heap.size + 1) (by simp) (fun h => by have := Option.some.inj h; omega) 0).trans (by simp [go_sem]), (hg.frozen_far ⟨w.heap.size + 1, 0, none⟩ (by simp) (fun h => by have := Option.some.inj h; simp only at this; omega)).trans (by simp [go_sem])⟩
  obtain ⟨hbx, hbz⟩ := hbox
  have HB2 : Hid (Below w.heap.size w w2) := by
    refine Below.trans (HB.out _ _ _ _ rfl) ⟨hg.os, hg.tape, hg.output, hg.size, fun k hk => hg.block k ?_ ?_⟩
    · simp; omega
    · intro h; have := Option.some.inj h; omega
  clear hg
  cases v with
  | true =>
    simp only [SeeX, if_true]
    go_wp2_with fail
    refine leaves_cons (f := 61) (args := #[.pointer (some ⟨w.heap.size + 1, 0, none⟩)]) (by simp) (by simp [go_sem]) ?_
    refine (catchI ⟨w.heap.size + 1, 0, none⟩ _).mono ?_
    rintro e u' w'' ⟨rfl, rfl, rfl⟩
    simp [Leaves, settle, results, Tryd.results30, go_sem, hbx]
    exact HB2.out.setCell (p := ⟨w.heap.size + 1, 0, none⟩) (by simp) _
  | false =>
    simp only [SeeX, Bool.false_eq_true, if_false, noPanic]
    go_wp2_with fail
    refine leaves_cons (f := 61) (args := #[.pointer (some ⟨w.heap.size + 1, 0, none⟩)]) (by simp) (by simp [go_sem]) ?_
    refine (catchP ⟨w.heap.size + 1, 0, none⟩ false 9 _ [] _ hbx hbz).mono ?_
    rintro e u' w'' ⟨rfl, rfl, rfl⟩
    simp [Leaves, settle, results, Tryd.results30, go_sem, hbx]
    exact HB2.out.setCell (p := ⟨w.heap.size + 1, 0, none⟩) (by simp) _

end Go.Proofs.YtefjjcoaeanagaaDoor
