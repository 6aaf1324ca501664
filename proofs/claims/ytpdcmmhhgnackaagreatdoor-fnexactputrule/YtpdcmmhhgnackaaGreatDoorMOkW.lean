/- impl.ExprOk: the walk over the nodes leaves by a panic where one is not right. -/
/- impl.listFits over expressions. Written by tools/gen_every.py. -/
/- Phrases: append onto a slice without room, the program's phrase.and, .maybe, .text. -/
/- (impl.exprForm).firstNeeds, secondNeeds. -/
/- impl.exprText: one kid, two kids; impl.PutExpr. -/
import Derived.Test.YtpdcmmhhgnackaaGreatDoorMOkI
import Derived.Test.YtpdcmmhhgnackaaGreatDoorMRuleS
import Derived.Test.YtpdcmmhhgnackaaGreatDoorMExNodes
import Derived.Defers
import Derived.Recover
import Derived.Test.YtpdcmmhhgnackaaGreatDoorMPutExT
import Derived.Deep.AppendSrc
import Derived.Deep.Upon
import Derived.ArgAppend
import Derived.Lib.Hide
namespace Go.Proofs.YtpdcmmhhgnackaaGreatDoor
open Go.RowKit

def chkE (e : Ex) : Bool := node1 e.kind e.text e.num e.kids.length

theorem all_shape : ∀ e : Ex, e.all chkE = shapeE e := by
  intro e
  induction hn : e.nodes using Nat.strongRecOn generalizing e with
  | ind n ih =>
    have key : ∀ l : List Ex, nodesL l < n → allL chkE l = shapeL l := by
      intro l
      induction l with
      | nil => intro _; rfl
      | cons x r ihl =>
        intro h
        rw [nodesL] at h
        rw [allL, shapeL, ih x.nodes (by omega) x rfl, ihl (by omega)]
    have hne := Ex.nodes_eq e
    obtain ⟨k, t, m, kids⟩ := e
    change (Ex.mk k t m kids).nodes = 1 + nodesL kids at hne
    have hkk := key kids (by omega)
    rw [Ex.all_eq, shapeE]
    show (node1 k t m kids.length && allL chkE kids) = _
    rw [hkk]

def noExpr : ByteArray := ⟨#[110, 111, 116, 32, 97, 110, 32, 101, 120, 112, 114, 101, 115, 115, 105, 111, 110]⟩
def noPanic : List PanicEntry := [{ v := .iface 9 (.string noExpr), recovered := false }]

set_option maxHeartbeats 1000000 in
theorem countCall (wb : Nat) (e : Ex) (a : Option Addr) (c m : Nat) (w : World) (hc : w.cell? ⟨wb, 0, none⟩ = some (.int .i64 m)) (hz : w.frozen? ⟨wb, 0, none⟩ = false) (hm : m ≤ 1073741824) :
    Calls Tryz.prog 138 #[.pointer (some ⟨wb, 0, none⟩), .agg #[.int .i64 e.kind, .string e.text, .int .i64 e.num, .slice a e.kids.length c]] w fun x w' =>
      x = .returned (.tuple #[]) ∧ w.grownBy w' (some wb) ∧ w'.cell? ⟨wb, 0, none⟩ = some (.int .i64 (m + 1 : Nat)) ∧ w'.frozen? ⟨wb, 0, none⟩ = false := by
  have hlt := World.block_lt_of_cell? w ⟨wb, 0, none⟩ hc
  have H := Lib.hid (count_grown hc hz)
  go_enter Tryz.func138, Tryz.ntmps138
  go_wp2_with fail
  refine bodyPost_end (results_none rfl _ _ _) rfl ?_
  obtain ⟨h1, h2, h3⟩ := H.out _ (by go_num) rfl
  exact ⟨rfl, h1, h2, h3⟩

theorem FormsAt.grown {w w' : World} {wb : Nat} (h : FormsAt w) (hg : w.grownBy w' (some wb)) (hne : wb ≠ 1) : FormsAt w' := by
  refine ⟨Nat.lt_of_lt_of_le h.1 hg.size, fun i hi => ?_⟩
  obtain ⟨h0, h1, h2, h3⟩ := h.2 i hi
  have e := cell_grown hg h.1 (fun h => hne (Option.some.inj h))
  exact ⟨(e _).trans h0, (e _).trans h1, (e _).trans h2, (e _).trans h3⟩

set_option maxRecDepth 100000 in
set_option maxHeartbeats 2000000 in
theorem checkSees (wb : Nat) (hwb : wb ≠ 1) : Sees FormsAt 117 wb chkE 40 noPanic := by
  intro e a c d m w hFw hfit hk hc hz hm
  have hlt := World.block_lt_of_cell? w ⟨wb, 0, none⟩ hc
  have hl := hk.len
  have hts := hfit.1
  have hg0 := fun o => grownBy_alloc w o (some wb)
  have HBX := Lib.hid (fun T => boxK_new w e.kind e.text e.num a e.kids.length c T)
  have HF := Lib.hid hFw
  clear hk hfit hFw
  have HC : Hid (∀ o, (w.alloc o).cell? ⟨wb, 0, none⟩ = some (.int .i64 m) ∧ (w.alloc o).frozen? ⟨wb, 0, none⟩ = false) := fun o =>
    ⟨((grownBy_alloc w o none).cell_far ⟨wb, 0, none⟩ hlt (by simp)).trans hc, ((grownBy_alloc w o none).frozen_far ⟨wb, 0, none⟩ hlt (by simp)).trans hz⟩
  go_enter Tryz.func117, Tryz.ntmps117
  go_wp2_with fail
  refine (countCall wb e a c m _ (HC.out _).1 (HC.out _).2 hm).mono ?_
  rintro x w2 ⟨rfl, hg2, hc2, hz2⟩
  have BX : BoxK w e.kind e.text e.num a e.kids.length c w2 ∨ True := .inr trivial
  have hcells : w2.cell? ⟨w.heap.size, 0, none⟩ = some (.int .i64 e.kind) ∧ w2.cell? ⟨w.heap.size, 1, none⟩ = some (.string e.text) ∧ w2.cell? ⟨w.heap.size, 2, none⟩ = some (.int .i64 e.num) ∧ w2.cell? ⟨w.heap.size, 3, none⟩ = some (.slice a e.kids.length c) := by
    obtain ⟨q0, q1, q2, q3, q4, _⟩ := HBX.out 66
    have e' := cell_grown hg2 q0 (fun h => by have := Option.some.inj h; omega)
    exact ⟨(e' _).trans q1, (e' _).trans q2, (e' _).trans q3, (e' _).trans q4⟩
  obtain ⟨b0, b1, b2, b3⟩ := hcells
  have HG2 := Lib.hid ((hg0 _).trans hg2)
  have HF2 := Lib.hid ((HF.out.grown (hg0 (.cells #[.int .i64 e.kind, .string e.text, .int .i64 e.num, .slice a e.kids.length c] 66)) hwb).grown hg2 hwb)
  clear hg2 BX hg0
  by_cases h40 : m + 1 ≤ 40
  · have hd : decide (40 < ((m + 1 : Nat) : Int)) = false := by simp; omega
    have hd2 : decide (m + 1 ≤ 40) = true := decide_eq_true h40
    cases hck : chkE e with
    | true =>
      have HCK := Lib.hid (show node1 e.kind e.text e.num e.kids.length = true from hck)
      clear hck
      go_wp2_with fail
      refine (implNodeOk e.kind e.text e.num a e.kids.length c _ HF2.out hts hl true HCK.out).mono ?_
      rintro x w3 ⟨rfl, hb3⟩
      have HB3 := Lib.hid hb3
      clear hb3
      go_wp2_with fail
      refine bodyPost_end (results_none rfl _ _ _) rfl ?_
      have hlt2 : wb < w2.heap.size := Nat.lt_of_lt_of_le hlt HG2.out.size
      have hb3 := HB3.out
      exact ⟨HG2.out.trans ⟨hb3.os, hb3.tape, hb3.output, hb3.size, fun k hk _ => hb3.block k hk⟩, (hb3.cell (p := ⟨wb, 0, none⟩) hlt2).trans hc2, (hb3.frozen (p := ⟨wb, 0, none⟩) hlt2).trans hz2, by rw [show chkE e = true from HCK.out]; first | rfl | (rw [hd2]; rfl)⟩
    | false =>
      have HCK := Lib.hid (show node1 e.kind e.text e.num e.kids.length = false from hck)
      clear hck
      go_wp2_with fail
      refine (implNodeOk e.kind e.text e.num a e.kids.length c _ HF2.out hts hl false HCK.out).mono ?_
      rintro x w3 ⟨rfl, hb3⟩
      have HB3 := Lib.hid hb3
      clear hb3
      go_wp2_with fail
      have hlt2 : wb < w2.heap.size := Nat.lt_of_lt_of_le hlt HG2.out.size
      have hb3 := HB3.out
      exact ⟨rfl, HG2.out.trans ⟨hb3.os, hb3.tape, hb3.output, hb3.size, fun k hk _ => hb3.block k hk⟩, (hb3.cell (p := ⟨wb, 0, none⟩) hlt2).trans hc2, (hb3.frozen (p := ⟨wb, 0, none⟩) hlt2).trans hz2, by rw [show chkE e = false from HCK.out]; rfl⟩
  · have hd : decide (40 < ((m + 1 : Nat) : Int)) = true := by simp; omega
    have hd2 : decide (m + 1 ≤ 40) = false := decide_eq_false h40
    go_wp2_with fail
    exact ⟨rfl, HG2.out, hc2, hz2, by first | rfl | (rw [hd2, Bool.and_false]; rfl)⟩

theorem catchP (p : Addr) (x : Bool) (u : TypeId) (pv : Value) (older : List PanicEntry) (w : World) (hc : w.cell? p = some (.bool x)) (hz : w.frozen? p = false) :
    CallsD Tryz.prog 115 #[.pointer (some p)] (.panicking ({ v := .iface u pv, recovered := false } :: older)) w fun e u' w' =>
      e = .returned (.tuple #[]) ∧ u' = .panicking ({ v := .iface u pv, recovered := true } :: older) ∧ w' = w.setCell p (.bool false) := by
  refine callsD_of_wpS Tryz.func115 rfl fun c₀ cs hu => ?_
  apply wpS_seq
  apply wpS_region
  simp [wpOpsS, go_sem, recoverD, hu, Tryz.ntmps115, Exit.thenS]
  refine wpS_cond (t := true) (by simp [Act.eval, Array.replicate]) ?_
  simp only [if_true]
  apply wpS_region
  simp [wpOpsS, go_sem, hc, hz, bodyPostS, results, Tryz.results115]

theorem catchI (p : Addr) (w : World) :
    CallsD Tryz.prog 115 #[.pointer (some p)] .returning w fun e u' w' => e = .returned (.tuple #[]) ∧ u' = .returning ∧ w' = w := by
  refine callsD_of_wpS Tryz.func115 rfl fun c₀ cs hu => ?_
  apply wpS_seq
  apply wpS_region
  simp [wpOpsS, go_sem, recoverD, hu, Tryz.ntmps115, Exit.thenS]
  refine wpS_cond (t := false) (by simp [Act.eval, Array.replicate]) ?_
  simp only [Bool.false_eq_true, if_false]
  refine wpS_of_wp (wp_skip ?_)
  cases c₀
  simp_all [bodyPostS, results, Tryz.results115]

set_option maxRecDepth 100000 in
set_option maxHeartbeats 2000000 in
theorem implExprOk (e : Ex) (a : Option Addr) (c d : Nat) (w : World) (hF : FormsAt w) (hfit : e.fit) (hk : KidsAt w d a c e.kids) (hn : e.nodes ≤ 1073741824) (v : Bool) (hv : (decide (e.nodes ≤ 40) && shapeE e) = v) :
    Calls Tryz.prog 75 #[.agg #[.int .i64 e.kind, .string e.text, .int .i64 e.num, .slice a e.kids.length c]] w fun x w' => x = .returned (.bool v) ∧ Below w.heap.size w w' := by
  have hmf : ∀ (fn : Fn) (first cap : Array Value) (w : World), (Instr.makeFunc fn first cap).run Tryz.prog w = .ok (.func fn first cap) w := fun _ _ _ _ => rfl
  have hGlt := hF.1
  have HB : Hid (∀ o1 o2 o3 W, W = ((w.alloc o1).alloc o2).alloc o3 → Below w.heap.size w W) := by
    intro o1 o2 o3 W hW
    subst hW; exact (((Below.refl _ _).alloc (Nat.le_refl _) _).alloc (by simp) _).alloc (by simp; omega) _
  have HK : Hid (∀ o1 o2 o3 W, W = ((w.alloc o1).alloc o2).alloc o3 → KidsQ (fun b => b ≠ w.heap.size + 2) W d a c e.kids ∧ FormsAt W) := by
    intro o1 o2 o3 W hW
    have hb := HB.out o1 o2 o3 W hW
    exact ⟨(hk.q.agree hb.size fun b h _ o => hb.cell (p := ⟨b, o, none⟩) h).imp fun b h _ => by omega, hF.below hb hGlt⟩
  have HV : Hid ((e.all chkE && decide (0 + e.nodes ≤ 40)) = v) := by unfold Hid; rw [all_shape, Nat.zero_add, Bool.and_comm]; exact hv
  clear hk hF hv
  go_enter_defers Tryz.func75, Tryz.ntmps75
  go_wp2_with fail
  refine (eachCheck (checkSees (w.heap.size + 2) (by omega)) e a c d 0 _ (fun w' hg => (HK.out _ _ _ _ rfl).2.grown hg (by omega)) hfit (HK.out _ _ _ _ rfl).1 (by simp) (by simp [go_sem]) (by simp [go_sem]) (by omega)).mono ?_
  rintro x w2 ⟨hg, rfl, _⟩
  rw [HV.out]
  have hbox : w2.cell? ⟨w.heap.size + 1, 0, none⟩ = some (.bool false) ∧ w2.frozen? ⟨w.heap.size + 1, 0, none⟩ = false := by
    refine ⟨(cell_grown hg (b := w.heap.size + 1) (by simp) (fun h => by have := Option.some.inj h; omega) 0).trans (by simp [go_sem]), (hg.frozen_far ⟨w.heap.size + 1, 0, none⟩ (by simp) (fun h => by have := Option.some.inj h; simp only at this; omega)).trans (by simp [go_sem])⟩
  obtain ⟨hbx, hbz⟩ := hbox
  have HB2 : Hid (Below w.heap.size w w2) := by
    refine Below.trans (HB.out _ _ _ _ rfl) ⟨hg.os, hg.tape, hg.output, hg.size, fun k hk => hg.block k ?_ ?_⟩
    · simp; omega
    · intro h; have := Option.some.inj h; omega
  clear hg
  cases v with
  | true =>
    simp only [SeeX, if_true]
    go_wp2_with fail
    refine leaves_cons (f := 115) (args := #[.pointer (some ⟨w.heap.size + 1, 0, none⟩)]) (by simp) (by simp [go_sem]) ?_
    refine (catchI ⟨w.heap.size + 1, 0, none⟩ _).mono ?_
    rintro e u' w'' ⟨rfl, rfl, rfl⟩
    simp [Leaves, settle, results, Tryz.results75, go_sem, hbx]
    exact HB2.out.setCell (p := ⟨w.heap.size + 1, 0, none⟩) (by simp) _
  | false =>
    simp only [SeeX, Bool.false_eq_true, if_false, noPanic]
    go_wp2_with fail
    refine leaves_cons (f := 115) (args := #[.pointer (some ⟨w.heap.size + 1, 0, none⟩)]) (by simp) (by simp [go_sem]) ?_
    refine (catchP ⟨w.heap.size + 1, 0, none⟩ false 9 _ [] _ hbx hbz).mono ?_
    rintro e u' w'' ⟨rfl, rfl, rfl⟩
    simp [Leaves, settle, results, Tryz.results75, go_sem, hbx]
    exact HB2.out.setCell (p := ⟨w.heap.size + 1, 0, none⟩) (by simp) _

end Go.Proofs.YtpdcmmhhgnackaaGreatDoor

namespace Go.Proofs.YtpdcmmhhgnackaaGreatDoor
open Go.RowKit

theorem okX1 (d : Nat) (vs : List Value) (x : Ex) (w : World) (hR : RE d 0 w vs x) (hJ : FormsAt w) (hq : x.wt ≤ 1048576) :
    Calls Tryz.prog 75 #[.agg vs.toArray] w fun e w' => e = .returned (.bool (okX x)) ∧ Below w.heap.size w w' := by
  obtain ⟨a0, c0, rfl, hfit, hk⟩ := hR
  exact implExprOk x a0 c0 d w hJ hfit hk.at (by have := nodes_wt x; omega) _ rfl

set_option maxRecDepth 100000 in
set_option maxHeartbeats 1000000 in
theorem notX (d : Nat) (vs : List Value) (x : Ex) (nb : Nat) (w : World) (hR : (RE d) 0 w vs x) (hJ : FormsAt w) (hq : x.wt ≤ 1048576) (hnb : w.cell? ⟨nb, 0, none⟩ = some (.func (.func 75) #[] #[])) (hlt : nb < w.heap.size) :
    Calls Tryz.prog 137 #[.agg vs.toArray, .pointer (some ⟨nb, 0, none⟩)] w fun e w' => e = .returned (.bool (!okX x)) ∧ Below w.heap.size w w' := by
  have HO := Lib.hid (fun w2 (hb : Below w.heap.size w w2) => okX1 d vs x w2 ((goodRE d).kept hR (Kept.below hb)) (hJ.call hb) hq)
  obtain ⟨a0, c0, rfl, _⟩ := hR
  have QN := Lib.hid ((World.cell?_alloc_lt w (.cells [.int .i64 x.kind, .string x.text, .int .i64 x.num, .slice a0 x.kids.length c0].toArray 66) ⟨nb, 0, none⟩ hlt).trans hnb)
  clear hJ
  go_enter Tryz.func137, Tryz.ntmps137
  go_wp2_with fail
  refine (HO.out _ (by ((repeat (first | refine Below.alloc ?_ (by first | omega | (simp; done) | (simp; omega)) _ | refine Below.setCell ?_ (by first | omega | (simp; done) | (simp; omega)) _)); first | exact Below.refl _ _ | exact Below.refl _ _))).mono ?_
  rintro e w2 ⟨rfl, b2⟩
  have B2 := Lib.hid (show Below w.heap.size w w2 from Below.call b2 (by ((repeat (first | refine Below.alloc ?_ (by first | omega | (simp; done) | (simp; omega)) _ | refine Below.setCell ?_ (by first | omega | (simp; done) | (simp; omega)) _)); first | exact Below.refl _ _ | exact Below.refl _ _)))
  clear b2
  go_wp2_with fail
  go_ret
  exact ⟨rfl, B2.out⟩

set_option maxRecDepth 100000 in
set_option maxHeartbeats 2000000 in
theorem idxX (d : Nat) (a : Option Addr) (c : Nat) (xs : List Ex) (nb : Nat) (w : World) (hx : Sl 4 (RE d) 0 w a c xs) (hJ : FormsAt w) (hq : ∀ x ∈ xs, x.wt ≤ 1048576) (hnb : w.cell? ⟨nb, 0, none⟩ = some (.func (.func 75) #[] #[])) (hlt0 : nb < w.heap.size) :
    Calls Tryz.prog 148 #[.slice a xs.length c, .func (.func 137) #[] #[.pointer (some ⟨nb, 0, none⟩)]] w fun e w' =>
      ∃ r : Int, e = .returned (.int .i64 r) ∧ Hid (decide (0 ≤ r) = !xs.all okX) ∧ Below w.heap.size w w' := by
  have hl := hx.len
  have HX := Lib.hid (fun w' (hb : Below w.heap.size w w') => hx.kept (goodRE d) (Kept.below hb))
  have HJ := Lib.hid (fun w' (hb : Below w.heap.size w w') => hJ.call hb)
  have HN := Lib.hid (fun w' (hb : Below w.heap.size w w') => (And.intro ((hb.cell (p := ⟨nb, 0, none⟩) hlt0).trans hnb) (Nat.lt_of_lt_of_le hlt0 hb.size)))
  have HQ := Lib.hid hq
  clear hx hJ hq
  go_enter Tryz.func148, Tryz.ntmps148
  go_wp2
  go_loopw [8] (fun i wr => ∃ k : Nat, k ≤ xs.length ∧ i = .int .i64 k ∧ Hid (∀ m (hm : m < xs.length), m < k → okX xs[m] = true) ∧ Below w.heap.size w wr) (fun i _ => xs.length - (intOf i).toNat)
  case atStart => exact ⟨0, Nat.zero_le _, rfl, fun m h hm => absurd hm (by omega), Below.refl _ _⟩
  case round =>
    obtain ⟨k, hk, rfl, hall, hb⟩ := hrel
    by_cases hlt : k < xs.length
    · obtain ⟨b, off, vs, rfl, hbl, hcs, hR⟩ := (HX.out _ hb).spot hlt
      obtain ⟨hn1, hn2⟩ := HN.out _ hb
      have HR := hR
      obtain ⟨a0, c0, rfl, _⟩ := hR
      have hc0 : wr.cell? ⟨b, off + k * 4, none⟩ = some (.int .i64 xs[k].kind) := hcs 0 (by simp)
      have hc1 : wr.cell? ⟨b, off + k * 4 + 1, none⟩ = some (.string xs[k].text) := hcs 1 (by simp)
      have hc2 : wr.cell? ⟨b, off + k * 4 + 2, none⟩ = some (.int .i64 xs[k].num) := hcs 2 (by simp)
      have hc3 : wr.cell? ⟨b, off + k * 4 + 3, none⟩ = some (.slice a0 xs[k].kids.length c0) := hcs 3 (by simp)
      have HK := Lib.hid HR
      clear HR hcs
      go_wp2_with fail
      refine (notX d _ xs[k] nb _ HK.out (HJ.out _ hb) (HQ.out _ (List.getElem_mem hlt)) hn1 hn2).mono ?_
      rintro e w2 ⟨rfl, hb2⟩
      have HB2 := Lib.hid (hb.trans (hb2.mono hb.size))
      clear hb2
      cases he : okX xs[k] with
      | false =>
        have HE := Lib.hid (all_hit okX xs k hlt he)
        clear he
        go_wp2_with fail
        go_ret
        exact ⟨k, rfl, by unfold Hid; rw [HE.out]; simp, HB2.out⟩
      | true =>
        have HE := Lib.hid he
        clear he
        go_wp2_with fail
        go_roundw
        case rel => exact ⟨k + 1, by omega, by go_num, fun m hm h1 => by
          rcases Nat.lt_or_ge m k with h2 | h2
          · exact hall.out m hm h2
          · obtain rfl : m = k := by omega
            exact HE.out, HB2.out⟩
        case measure => simp [intOf]; omega
    · have HE := Lib.hid (all_miss okX xs fun m hm => hall.out m hm (by omega))
      go_wp2_with fail
      go_ret
      exact ⟨-1, rfl, by unfold Hid; rw [HE.out]; rfl, hb⟩

set_option maxHeartbeats 1000000 in
theorem contX (d : Nat) (a : Option Addr) (c : Nat) (xs : List Ex) (nb : Nat) (w : World) (hx : Sl 4 (RE d) 0 w a c xs) (hJ : FormsAt w) (hq : ∀ x ∈ xs, x.wt ≤ 1048576) (hnb : w.cell? ⟨nb, 0, none⟩ = some (.func (.func 75) #[] #[])) (hlt0 : nb < w.heap.size) :
    Calls Tryz.prog 136 #[.slice a xs.length c, .func (.func 137) #[] #[.pointer (some ⟨nb, 0, none⟩)]] w fun e w' =>
      e = .returned (.bool (!xs.all okX)) ∧ Below w.heap.size w w' := by
  have HC := Lib.hid (idxX d a c xs nb w hx hJ hq hnb hlt0)
  clear hx hJ hq hnb
  go_enter Tryz.func136, Tryz.ntmps136
  go_wp2_with fail
  refine HC.out.mono ?_
  rintro e w2 ⟨r, rfl, hr, b2⟩
  have B2 := Lib.hid b2
  clear b2
  go_wp2_with fail
  go_ret
  exact ⟨by rw [← hr.out]; rfl, B2.out⟩

set_option maxHeartbeats 1000000 in
theorem everyX (d : Nat) (a : Option Addr) (c : Nat) (xs : List Ex) (w : World) (hx : Sl 4 (RE d) 0 w a c xs) (hJ : FormsAt w) (hq : ∀ x ∈ xs, x.wt ≤ 1048576) (v : Bool) (hv : xs.all okX = v) :
    Calls Tryz.prog 114 #[.slice a xs.length c, .func (.func 75) #[] #[]] w fun e w' => e = .returned (.bool v) ∧ Below w.heap.size w w' := by
  have hmf : ∀ (fn : Fn) (first cap : Array Value) (w : World), (Instr.makeFunc fn first cap).run Tryz.prog w = .ok (.func fn first cap) w := fun _ _ _ _ => rfl
  have HX := Lib.hid (fun w' (hb : Below w.heap.size w w') => And.intro (hx.kept (goodRE d) (Kept.below hb)) (hJ.call hb))
  have HQ := Lib.hid hq
  have HV := Lib.hid hv
  clear hx hJ hq hv
  go_enter Tryz.func114, Tryz.ntmps114
  go_wp2_with fail
  refine (contX d a c xs w.heap.size _ (HX.out _ (by ((repeat (first | refine Below.alloc ?_ (by first | omega | (simp; done) | (simp; omega)) _ | refine Below.setCell ?_ (by first | omega | (simp; done) | (simp; omega)) _)); first | exact Below.refl _ _ | exact Below.refl _ _))).1 (HX.out _ (by ((repeat (first | refine Below.alloc ?_ (by first | omega | (simp; done) | (simp; omega)) _ | refine Below.setCell ?_ (by first | omega | (simp; done) | (simp; omega)) _)); first | exact Below.refl _ _ | exact Below.refl _ _))).2 HQ.out (by simp [go_sem]) (by simp)).mono ?_
  rintro e w2 ⟨rfl, b2⟩
  have B2 := Lib.hid (show Below w.heap.size w w2 from Below.call b2 (by ((repeat (first | refine Below.alloc ?_ (by first | omega | (simp; done) | (simp; omega)) _ | refine Below.setCell ?_ (by first | omega | (simp; done) | (simp; omega)) _)); first | exact Below.refl _ _ | exact Below.refl _ _)))
  clear b2
  go_wp2_with fail
  go_ret
  exact ⟨by rw [HV.out]; cases v <;> rfl, B2.out⟩

set_option maxHeartbeats 1000000 in
theorem fitsX (d : Nat) (a : Option Addr) (c : Nat) (xs : List Ex) (lo hi : Int) (w : World) (hx : Sl 4 (RE d) 0 w a c xs) (hJ : FormsAt w) (hq : ∀ x ∈ xs, x.wt ≤ 1048576) (v : Bool) (hv : (inI xs.length lo hi && xs.all okX) = v) :
    Calls Tryz.prog 74 #[.slice a xs.length c, .agg #[.int .i64 lo, .int .i64 hi], .func (.func 75) #[] #[]] w fun e w' => e = .returned (.bool v) ∧ Below w.heap.size w w' := by
  have hl := hx.len
  have HE := Lib.hid (fun w' (hb : Below w.heap.size w w') => everyX d a c xs w' (hx.kept (goodRE d) (Kept.below hb)) (hJ.call hb) hq _ rfl)
  clear hx hJ hq
  cases h1 : inI xs.length lo hi with
  | false =>
    have HV : Hid (v = false) := by unfold Hid; rw [← hv, h1]; rfl
    have HI := Lib.hid h1
    clear hv h1
    go_enter Tryz.func74, Tryz.ntmps74
    go_wp2_with fail
    refine (spanAllows lo hi xs.length _ false HI.out).mono ?_
    rintro e w1 ⟨rfl, b1⟩
    have B1 := Lib.hid (show Below w.heap.size w w1 from Below.call b1 (by ((repeat (first | refine Below.alloc ?_ (by first | omega | (simp; done) | (simp; omega)) _ | refine Below.setCell ?_ (by first | omega | (simp; done) | (simp; omega)) _)); first | exact Below.refl _ _ | exact Below.refl _ _)))
    clear b1
    go_wp2_with fail
    go_ret
    exact ⟨by rw [HV.out] <;> rfl, B1.out⟩
  | true =>
    have HV : Hid (xs.all okX = v) := by unfold Hid; rw [← hv, h1]; rfl
    have HI := Lib.hid h1
    clear hv h1
    go_enter Tryz.func74, Tryz.ntmps74
    go_wp2_with fail
    refine (spanAllows lo hi xs.length _ true HI.out).mono ?_
    rintro e w1 ⟨rfl, b1⟩
    have B1 := Lib.hid (show Below w.heap.size w w1 from Below.call b1 (by ((repeat (first | refine Below.alloc ?_ (by first | omega | (simp; done) | (simp; omega)) _ | refine Below.setCell ?_ (by first | omega | (simp; done) | (simp; omega)) _)); first | exact Below.refl _ _ | exact Below.refl _ _)))
    clear b1
    go_wp2_with fail
    refine (HE.out _ B1.out).mono ?_
    rintro e w2 ⟨rfl, b2⟩
    have B2 := Lib.hid (show Below w.heap.size w w2 from Below.call b2 B1.out)
    clear b2
    go_wp2_with fail
    go_ret
    exact ⟨by rw [HV.out] <;> rfl, B2.out⟩

end Go.Proofs.YtpdcmmhhgnackaaGreatDoor

namespace Go.Proofs.YtpdcmmhhgnackaaGreatDoor
open Go.RowKit

theorem lets_cons (x : ByteArray) (r : List ByteArray) : lets (x :: r) = x.size + lets r := by simp [lets]

set_option maxRecDepth 100000 in
theorem strs_src {w : World} {tx : TypeId} {a : Option Addr} {c : Nat} {ys : List ByteArray} (hk : Tryz.prog.underlying tx = some (.slice 9)) (h : Strs w a c ys) : Src Tryz.prog 1 tx (.slice a ys.length c) ys.length (ys.map Value.string) w := by
  cases a with
  | none =>
    have hl : ys = [] := by
      cases ys with
      | nil => rfl
      | cons y r => obtain ⟨_, _, h0, _⟩ := h.2.2.2.2 (by simp); cases h0
    subst hl
    exact Src.ofNil w hk c
  | some ad =>
    refine Src.ofSlice w hk ad ys.length c _ (by simp) (fun j u hu => ?_) (strings_one ys)
    have hj : j < ys.length := by
      rcases Nat.lt_or_ge j ys.length with h | h
      · exact h
      · rw [List.getElem?_eq_none (by simpa using h)] at hu; cases hu
    obtain ⟨b, off, hb, _, hc⟩ := h.spot hj
    cases hb
    rw [List.getElem?_map, List.getElem?_eq_getElem hj] at hu
    cases hu
    rw [← hc]
    congr 1
    unfold Addr.add
    by_cases h0 : j = 0 <;> simp [h0]

set_option maxRecDepth 100000 in
theorem strs_first {w : World} {a : Option Addr} {c : Nat} {xs : List ByteArray} (h : Strs w a c xs) : (Builtin.firstCells 1 xs.length (.slice a xs.length xs.length)).run Tryz.prog w.drew = .ok (xs.map Value.string).toArray w.drew := by
  cases a with
  | none =>
    have hl : xs = [] := by
      cases xs with
      | nil => rfl
      | cons y r => obtain ⟨_, _, h0, _⟩ := h.2.2.2.2 (by simp); cases h0
    subst hl
    exact run_firstCells_none w.drew 1 0 0 0
  | some ad =>
    refine run_firstCells_some w.drew 1 xs.length ad xs.length xs.length _ (by simp) (fun j u hu => ?_)
    have hj : j < xs.length := by
      rcases Nat.lt_or_ge j xs.length with h | h
      · exact h
      · rw [List.getElem?_eq_none (by simpa using h)] at hu; cases hu
    obtain ⟨b, off, hb, _, hc⟩ := h.spot hj
    cases hb
    rw [List.getElem?_map, List.getElem?_eq_getElem hj] at hu
    cases hu
    simp only [World.cell?_drew]
    rw [← hc]
    congr 1
    unfold Addr.add
    by_cases h0 : j = 0 <;> simp [h0]

/-- append onto a slice that has no room behind its length. -/
theorem run_full (w : World) (t tx ty : TypeId) (ht : Tryz.prog.underlying t = some (.slice 9)) (htx : Tryz.prog.underlying tx = some (.slice 9)) (i0 : TypeInfo) (hi0 : Tryz.prog.info? 9 = some i0)
    (hz0 : i0.zero = some (.string ByteArray.empty)) (hz1 : i0.size = 1) (hz2 : i0.bytes = 16) (a : Option Addr) (c : Nat) (xs : List ByteArray) (hx : Strs w a c xs) (a2 : Option Addr) (c2 : Nat) (ys : List ByteArray) (hy : Strs w a2 c2 ys)
    (hn : xs.length + ys.length ≤ 1048576) :
    ∃ a' c' w', (Builtin.append_ #[t, tx] ty #[.slice a xs.length xs.length, .slice a2 ys.length c2]).run Tryz.prog w = .ok (.slice a' (xs ++ ys).length c') w' ∧ Strs w' a' c' (xs ++ ys) ∧ Below w.heap.size w w' := by
  have hsrc := strs_src (tx := tx) htx hy
  cases ys with
  | nil =>
    refine ⟨a, xs.length, w, ?_, ?_, Below.refl _ _⟩
    · rw [List.append_nil]
      exact run_append_nothing w t tx ty 9 i0 ht hi0 a xs.length xs.length (Nat.le_refl _) _ (by rw [hz1]; exact hsrc)
    · rw [List.append_nil]
      obtain ⟨h1, h2, h3, h4, h5⟩ := hx
      exact ⟨Nat.le_refl _, by omega, h3, fun ha => by have := h4 ha; omega, h5⟩
  | cons y r =>
    have hg : xs.length < xs.length + (y :: r).length := by simp
    have hb16 : (xs.length + (y :: r).length) * i0.bytes ≤ 140737488355328 := by rw [hz2]; omega
    have h63 : xs.length + (y :: r).length ≤ maxLen := by unfold maxLen; omega
    have hge := grownCap_ge w (xs.length + (y :: r).length) xs.length 9
    have hcm : grownCap w (xs.length + (y :: r).length) xs.length 9 ≤ maxLen := grownCap_le_maxLen w _ _ _ h63
    have hr := run_append_grow_src (P := Tryz.prog) w t tx ty 9 i0 _ ht hi0 hz0 a xs.length xs.length (xs.map Value.string) (by rw [hz1]; exact strs_first hx) (.slice a2 (y :: r).length c2) (y :: r).length ((y :: r).map Value.string) (by rw [hz1]; exact hsrc) hg (by omega) (growslice_fits hg hb16)
    have hown : Own (w.drew.alloc (.cells ((xs.map Value.string ++ (y :: r).map Value.string).toArray ++ Builtin.zeroCells (Value.string ByteArray.empty).cells (grownCap w (xs.length + (y :: r).length) xs.length 9 - (xs.length + (y :: r).length))) 9)) w.heap.size (some ⟨w.heap.size, 0, none⟩) (grownCap w (xs.length + (y :: r).length) xs.length 9) (xs ++ y :: r) := by
      unfold Own
      refine ⟨by simp, .inr ⟨w.heap.size, _, _, rfl, Nat.le_refl _, heap_alloc_new w.drew _, ?_, hcm, ?_, ?_⟩⟩
      · rw [List.length_append]; exact hge
      · simp only [Array.size_append, List.size_toArray, size_zeroCells, List.length_append, List.length_map]
        rw [show (Value.string ByteArray.empty).cells.size = 1 from rfl]
        omega
      · simp only [Array.toList_append]
        rw [show (xs ++ y :: r).length * 1 = (xs.map Value.string ++ (y :: r).map Value.string).length by simp]
        rw [List.take_left, List.map_append]
    refine ⟨some ⟨w.heap.size, 0, none⟩, _, _, ?_, hown.strs ?_, ?_⟩
    · rw [List.length_append]; exact hr
    · intro s hs
      rcases List.mem_append.1 hs with h | h
      · exact hx.2.2.1 s h
      · exact hy.2.2.1 s h
    · exact (below_drewE (Below.refl _ _)).alloc (by simp) _

theorem wpAppendFull {w : World} {ops : Array Oper} {rest : List Oper} {o : Oper} {A : Act} {Q : Exit → Act → World → Prop} (hgd : o.guard = none) (s x : Operand) (t tx : TypeId)
    (ho : o.op = .call { callee := .builtin .append, args := #[s, x], argTypes := #[t, tx] })
    (ht : Tryz.prog.underlying t = some (.slice 9)) (htx : Tryz.prog.underlying tx = some (.slice 9)) (i0 : TypeInfo) (hi0 : Tryz.prog.info? 9 = some i0)
    (hz0 : i0.zero = some (.string ByteArray.empty)) (hz1 : i0.size = 1) (hz2 : i0.bytes = 16) (a : Option Addr) (c : Nat) (xs : List ByteArray) (hs : A.eval s = .slice a xs.length xs.length) (hxs : Strs w a c xs)
    (a2 : Option Addr) (c2 : Nat) (ys : List ByteArray) (hx : A.eval x = .slice a2 ys.length c2) (hys : Strs w a2 c2 ys) (hn : xs.length + ys.length ≤ 1048576)
    (h : ∀ a' c' w', Strs w' a' c' (xs ++ ys) → Below w.heap.size w w' → wpList Tryz.prog ops Q rest (A.put o.dst (.slice a' (xs ++ ys).length c')) w') :
    wpList Tryz.prog ops Q (o :: rest) A w := by
  refine wpList_plain hgd fun K hK' => ?_
  obtain ⟨a', c', w', hrun, h1, h2⟩ := run_full w t tx o.type ht htx i0 hi0 hz0 hz1 hz2 a c xs hxs a2 c2 ys hys hn
  unfold Oper.wp
  simp [execOp, ho, resolve, invoke, builtin, hs, hx, hrun, Result.andThen]
  have := hK' _ _ (h a' c' w' h1 h2)
  rw [List.length_append] at this
  exact this

set_option maxHeartbeats 1000000 in
theorem phraseText (a : Option Addr) (c : Nat) (xs : List ByteArray) (w : World) (hx : Strs w a c xs) (hJ : lets xs + xs.length ≤ 1073741824) (r : ByteArray) (hr : joinT xs (txt [32]) = r) :
    Calls Tryz.prog 34 #[.slice a xs.length c] w fun e w' => e = .returned (.string r) ∧ Below w.heap.size w w' := by
  have HR := Lib.hid hr
  clear hr
  go_enter Tryz.func34, Tryz.ntmps34
  go_wp2_with fail
  refine (implJoin a c xs (txt [32]) _ hx (by have : (txt [32]).size = 1 := rfl; rw [this]; omega) (by omega)).mono ?_
  rintro e w1 ⟨rfl, b1⟩
  rw [HR.out]
  go_wp2_with fail
  go_ret
  exact ⟨rfl, b1⟩

set_option maxHeartbeats 2000000 in
theorem phraseAnd (a : Option Addr) (c : Nat) (xs : List ByteArray) (a2 : Option Addr) (c2 : Nat) (ys : List ByteArray) (w : World) (hx : Strs w a c xs) (hy : Strs w a2 c2 ys) (ha : a = none ∨ ∃ b off, a = some ⟨b, off, none⟩) (hn : xs.length + ys.length ≤ 1048576) :
    Calls Tryz.prog 32 #[.slice a xs.length c, .slice a2 ys.length c2] w fun e w' => ∃ a' c', e = .returned (.slice a' (xs ++ ys).length c') ∧ Strs w' a' c' (xs ++ ys) ∧ Below w.heap.size w w' := by
  obtain ⟨i0, hi0, hi1⟩ := Option.map_eq_some_iff.1 Tryz.infoString
  have hz0 : i0.zero = some (.string ByteArray.empty) := (Prod.mk.inj hi1).1
  have hz1 : i0.size = 1 := (Prod.mk.inj (Prod.mk.inj hi1).2).1
  have hz2 : i0.bytes = 16 := (Prod.mk.inj (Prod.mk.inj hi1).2).2
  have hle : xs.length ≤ c := hx.1
  have hcm : c ≤ 9223372036854775807 := by have := hx.2.1; unfold maxLen at this; omega
  have hsl : ∃ A2, A2 = a ∧ ∀ W, (Instr.slice 69 (.slice a xs.length c) none (some (.int .i64 (xs.length : Int))) (some (.int .i64 (xs.length : Int)))).run Tryz.prog W = .ok (.slice A2 xs.length xs.length) W := by
    refine ⟨a, rfl, fun W => ?_⟩
    rcases ha with rfl | ⟨b, off, rfl⟩
    · have h0 := hx.2.2.2.1 rfl
      have hl0 : xs.length = 0 := by omega
      subst h0
      rw [hl0]
      simp [go_sem]
    · simp [go_sem]
      omega
  obtain ⟨A2, hA2, hsl⟩ := hsl
  have HX : Hid (Strs w A2 c xs) := by rw [hA2]; exact hx
  have HY := Lib.hid hy
  clear hx hy ha hA2
  go_enter Tryz.func32, Tryz.ntmps32
  go_wp2_with (at_builtin; refine wpAppendFull rfl _ _ 69 36 rfl Tryz.underlying69 Tryz.underlying36 i0 hi0 hz0 hz1 hz2 A2 c xs rfl HX.out a2 c2 ys rfl HY.out hn ?_; intro a' c' w' hs' hb')
  go_ret
  exact ⟨_, _, by rw [List.length_append]; rfl, hs', hb'⟩

end Go.Proofs.YtpdcmmhhgnackaaGreatDoor

namespace Go.Proofs.YtpdcmmhhgnackaaGreatDoor
open Go.RowKit

set_option maxHeartbeats 1000000 in
theorem firstNeeds (f0 f1 f2 : Int) (f3 : ByteArray) (w : World) (h : 1 ≤ f1 ∧ f1 ≤ 7) (m : Int) (hm : m = if f1 = 4 then 5 else f1) :
    Calls Tryz.prog 126 #[.agg #[.int .i64 f0, .int .i64 f1, .int .i64 f2, .string f3]] w fun x w' => x = .returned (.int .i64 m) ∧ Below w.heap.size w w' := by
  have hb := Lib.hid (fun o => (Below.refl w.heap.size w).alloc (Nat.le_refl _) o)
  by_cases h4 : f1 = 4
  · rw [if_pos h4] at hm
    subst hm h4
    go_enter Tryz.func126, Tryz.ntmps126
    go_wp2_with fail
    go_ret
    exact ⟨rfl, hb.out _⟩
  · rw [if_neg h4] at hm
    have h4b : (f1 == 4) = false := by simp; exact h4
    subst hm
    go_enter Tryz.func126, Tryz.ntmps126
    go_wp2_with fail
    go_ret
    exact ⟨rfl, hb.out _⟩

set_option maxHeartbeats 1000000 in
theorem secondNeeds (f0 f1 f2 : Int) (f3 : ByteArray) (w : World) (h : 1 ≤ f1 ∧ f1 ≤ 7) (m : Int) (hm : f1 + 1 = m) :
    Calls Tryz.prog 127 #[.agg #[.int .i64 f0, .int .i64 f1, .int .i64 f2, .string f3]] w fun x w' => x = .returned (.int .i64 m) ∧ Below w.heap.size w w' := by
  have hb := Lib.hid (fun o => (Below.refl w.heap.size w).alloc (Nat.le_refl _) o)
  have HM := Lib.hid hm
  clear hm
  go_enter Tryz.func127, Tryz.ntmps127
  go_wp2_with fail
  go_ret
  exact ⟨by rw [← HM.out]; rfl, hb.out _⟩

end Go.Proofs.YtpdcmmhhgnackaaGreatDoor

namespace Go.Proofs.YtpdcmmhhgnackaaGreatDoor
open Go.RowKit

set_option maxRecDepth 100000 in
set_option maxHeartbeats 4000000 in
theorem txtNot (d : Nat) (ih : TxtP d) (t : ByteArray) (n : Int) (x : Ex) (a : Option Addr) (c : Nat) (w : World) (hT : Tabs w) (hs : shapeE x = true) (hn : x.nodes ≤ 39) (hx : KidsAt w (d + 1) a c [x]) :
    Calls Tryz.prog 88 #[.agg #[.int .i64 6, .string t, .int .i64 n, .slice a 1 c]] w fun z w' => z = .returned (.string (tE (.mk 6 t n [x]) 1)) ∧ Below w.heap.size w w' := by
  have HT := Lib.hid (fun w' hb => hT.below (w' := w') (B := w.heap.size) hb hT.big)
  have HBX := Lib.hid (fun T T2 => boxF_new w 6 t n a 1 c 1 3 0 (txt wNot) T T2)
  obtain ⟨g0, g1, g2, g3⟩ := forms_alloc hT 6 (by omega) (.cells #[.int .i64 6, .string t, .int .i64 n, .slice a 1 c] 66)
  change _ = some (Value.int .i64 1) at g0; change _ = some (Value.int .i64 3) at g1; change _ = some (Value.int .i64 0) at g2; change _ = some (Value.string (txt wNot)) at g3
  have HK := Lib.hid (fun w' hb => hx.below (w' := w') hb)
  clear hx hT
  have l1 : (ByteArray.mk #[110, 111, 116, 32]).size = 4 := rfl
  obtain ⟨s, hs1⟩ : ∃ s, tE x (3 : Int).toNat = s := ⟨_, rfl⟩
  have hsz : s.size ≤ 8400 := by rw [← hs1]; exact tE_size hs (by omega)
  have HE : Hid (tE (.mk 6 t n [x]) 1 = (ByteArray.mk #[110, 111, 116, 32]) ++ s) := by unfold Hid; rw [tE_not, ← hs1]; rfl
  have HS := Lib.hid hs1
  clear hs1
  have ad0 : ∀ w, (Op.stringOp .add (ByteArray.mk #[110, 111, 116, 32]) s).run Tryz.prog w = .ok (.string ((ByteArray.mk #[110, 111, 116, 32]) ++ s)) w := fun w => run_string_add_sum w _ _ (by omega)
  obtain ⟨b, off, rfl, hbl, d0, d1, d2, hfit, a', c', d3, hkid⟩ := (HK.out ((w.alloc (.cells #[.int .i64 6, .string t, .int .i64 n, .slice a 1 c] 66)).alloc (.cells #[.int .i64 1, .int .i64 3, .int .i64 0, .string (txt wNot)] 144)) (HBX.out _ _).bel).spot (i := 0) (by simp)
  simp only [List.getElem_cons_zero, Nat.zero_mul, Nat.add_zero] at d0 d1 d2 d3 hkid hfit
  have HX := Lib.hid hkid
  clear hkid
  go_enter Tryz.func88, Tryz.ntmps88
  go_wp2_with fail
  refine (opText d ih x a' c' 3 _ (HT.out _ (HBX.out _ _).bel) hs (by omega) (by omega) HX.out s HS.out).mono ?_
  rintro z w2 ⟨rfl, hb2⟩
  have B2 := Lib.hid ((HBX.out _ _).below hb2).bel
  clear hb2 d0 d1 d2 d3 g0 g1 g2 g3
  go_wp2_with fail
  go_ret
  exact ⟨by rw [HE.out]; rfl, B2.out⟩

/-- The argument's box, its form's, and the kids, cell by cell. -/
structure FormK (w : World) (k : Int) (f0 f1 f2 : Int) (f3 : ByteArray) (bb off c : Nat) (l : Nat) (x y : Ex) (ax ay : Option Addr) (cx cy d : Nat) (w' : World) : Prop where
  lt : w.heap.size + 1 < w'.heap.size
  lb : bb < w'.heap.size
  k3 : w'.cell? ⟨w.heap.size, 3, none⟩ = some (.slice (some ⟨bb, off, none⟩) l c)
  g0 : w'.cell? ⟨w.heap.size + 1, 0, none⟩ = some (.int .i64 f0)
  g1 : w'.cell? ⟨w.heap.size + 1, 1, none⟩ = some (.int .i64 f1)
  g2 : w'.cell? ⟨w.heap.size + 1, 2, none⟩ = some (.int .i64 f2)
  g3 : w'.cell? ⟨w.heap.size + 1, 3, none⟩ = some (.string f3)
  x0 : w'.cell? ⟨bb, off, none⟩ = some (.int .i64 x.kind)
  x1 : w'.cell? ⟨bb, off + 1, none⟩ = some (.string x.text)
  x2 : w'.cell? ⟨bb, off + 2, none⟩ = some (.int .i64 x.num)
  x3 : w'.cell? ⟨bb, off + 3, none⟩ = some (.slice ax x.kids.length cx)
  y0 : l = 2 → w'.cell? ⟨bb, off + 4, none⟩ = some (.int .i64 y.kind)
  y1 : l = 2 → w'.cell? ⟨bb, off + 4 + 1, none⟩ = some (.string y.text)
  y2 : l = 2 → w'.cell? ⟨bb, off + 4 + 2, none⟩ = some (.int .i64 y.num)
  y3 : l = 2 → w'.cell? ⟨bb, off + 4 + 3, none⟩ = some (.slice ay y.kids.length cy)
  kx : KidsAt w' d ax cx x.kids
  ky : l = 2 → KidsAt w' d ay cy y.kids
  tab : Tabs w'
  bel : Below w.heap.size w w'

theorem FormK.below {w wa wb : World} {k f0 f1 f2 : Int} {f3 : ByteArray} {bb off c l : Nat} {x y : Ex} {ax ay : Option Addr} {cx cy d : Nat} (h : FormK w k f0 f1 f2 f3 bb off c l x y ax ay cx cy d wa) (hb : Below wa.heap.size wa wb) : FormK w k f0 f1 f2 f3 bb off c l x y ax ay cx cy d wb := by
  have e0 := fun o => hb.cell (p := ⟨w.heap.size, o, none⟩) (by have := h.lt; simp only; omega)
  have e1 := fun o => hb.cell (p := ⟨w.heap.size + 1, o, none⟩) h.lt
  have e2 := fun o => hb.cell (p := ⟨bb, o, none⟩) h.lb
  exact ⟨Nat.lt_of_lt_of_le h.lt hb.size, Nat.lt_of_lt_of_le h.lb hb.size, (e0 _).trans h.k3, (e1 _).trans h.g0, (e1 _).trans h.g1, (e1 _).trans h.g2, (e1 _).trans h.g3, (e2 _).trans h.x0, (e2 _).trans h.x1, (e2 _).trans h.x2, (e2 _).trans h.x3,
    fun q => (e2 _).trans (h.y0 q), fun q => (e2 _).trans (h.y1 q), fun q => (e2 _).trans (h.y2 q), fun q => (e2 _).trans (h.y3 q), h.kx.below hb, fun q => (h.ky q).below hb, h.tab.below hb h.tab.big, h.bel.trans (hb.mono h.bel.size)⟩

theorem FormK.drew {w wa : World} {k f0 f1 f2 : Int} {f3 : ByteArray} {bb off c l : Nat} {x y : Ex} {ax ay : Option Addr} {cx cy d : Nat} (h : FormK w k f0 f1 f2 f3 bb off c l x y ax ay cx cy d wa) : FormK w k f0 f1 f2 f3 bb off c l x y ax ay cx cy d wa.drew := h.below (below_drewE (Below.refl _ _))

set_option maxRecDepth 100000 in
set_option maxHeartbeats 4000000 in
theorem txtNull (d : Nat) (ih : TxtP d) (t : ByteArray) (n : Int) (x : Ex) (a : Option Addr) (c : Nat) (w : World) (hT : Tabs w) (hs : shapeE x = true) (hn : x.nodes ≤ 39) (hx : KidsAt w (d + 1) a c [x]) :
    Calls Tryz.prog 88 #[.agg #[.int .i64 7, .string t, .int .i64 n, .slice a 1 c]] w fun z w' => z = .returned (.string (tE (.mk 7 t n [x]) 1)) ∧ Below w.heap.size w w' := by
  have HT := Lib.hid (fun w' hb => hT.below (w' := w') (B := w.heap.size) hb hT.big)
  obtain ⟨st, hst⟩ : ∃ st : Int, st = 4 := ⟨_, rfl⟩
  obtain ⟨tk, htk⟩ : ∃ tk : Int, tk = 0 := ⟨_, rfl⟩
  obtain ⟨sg, hsg⟩ : ∃ sg, sg = txt wIs := ⟨_, rfl⟩
  have HBX := Lib.hid (fun T T2 => boxF_new w 7 t n a 1 c 1 st tk sg T T2)
  obtain ⟨g0, g1, g2, g3⟩ := forms_alloc hT 7 (by omega) (.cells #[.int .i64 7, .string t, .int .i64 n, .slice a 1 c] 66)
  change _ = some (Value.int .i64 1) at g0; change _ = some (Value.int .i64 4) at g1; change _ = some (Value.int .i64 0) at g2; change _ = some (Value.string (txt wIs)) at g3
  rw [← hst] at g1
  rw [← htk] at g2
  rw [← hsg] at g3
  have HK := Lib.hid (fun w' hb => hx.below (w' := w') hb)
  clear hx hT
  have hstr : 1 ≤ st ∧ st ≤ 7 := by omega
  have hfm : (5 : Int) = if st = 4 then 5 else st := by rw [if_pos hst]
  have l2 : (ByteArray.mk #[32, 105, 115, 32, 110, 117, 108, 108]).size = 8 := rfl
  obtain ⟨s, hs1⟩ : ∃ s, tE x (5 : Int).toNat = s := ⟨_, rfl⟩
  have hsz : s.size ≤ 8400 := by rw [← hs1]; exact tE_size hs (by omega)
  have HE : Hid (tE (.mk 7 t n [x]) 1 = s ++ (ByteArray.mk #[32, 105, 115, 32, 110, 117, 108, 108])) := by unfold Hid; rw [tE_null, ← hs1]; rfl
  have HS := Lib.hid hs1
  have HFM := Lib.hid hfm
  clear hs1 hst htk hsg hfm
  have ad0 : ∀ w, (Op.stringOp .add s (ByteArray.mk #[32, 105, 115, 32, 110, 117, 108, 108])).run Tryz.prog w = .ok (.string (s ++ (ByteArray.mk #[32, 105, 115, 32, 110, 117, 108, 108]))) w := fun w => run_string_add_sum w _ _ (by omega)
  go_enter Tryz.func88, Tryz.ntmps88
  go_wp2_with fail
  have BX := HBX.out 66 144
  generalize (w.alloc (.cells #[.int .i64 7, .string t, .int .i64 n, .slice a 1 c] 66)).alloc (.cells #[.int .i64 1, .int .i64 st, .int .i64 tk, .string sg] 144) = W1 at BX ⊢
  obtain ⟨b, off, rfl, hbl, d0, d1, d2, _, ax, cx, d3, hkx⟩ := (HK.out _ BX.bel).spot (i := 0) (by simp)
  simp only [List.getElem_cons_zero, Nat.zero_mul, Nat.add_zero] at d0 d1 d2 d3 hkx
  have T1 : Hid (FormK w 7 1 st tk sg b off c 1 x x ax ax cx cx d W1) := ⟨BX.lt, hbl, BX.c3, BX.g0, BX.g1, BX.g2, BX.g3, d0, d1, d2, d3, (fun h => by cases h), (fun h => by cases h), (fun h => by cases h), (fun h => by cases h), hkx, (fun h => by cases h), HT.out _ BX.bel, BX.bel⟩
  clear BX d0 d1 d2 d3 hkx g0 g1 g2 g3
  have hst : Hid (∀ p q : World, ((p.cell? ⟨w.heap.size, 3, none⟩ = some (.slice (some ⟨b, off, none⟩) 1 c) ∧ p.cell? ⟨w.heap.size + 1, 0, none⟩ = some (.int .i64 1) ∧ p.cell? ⟨w.heap.size + 1, 1, none⟩ = some (.int .i64 st) ∧ p.cell? ⟨w.heap.size + 1, 2, none⟩ = some (.int .i64 tk) ∧ p.cell? ⟨w.heap.size + 1, 3, none⟩ = some (.string sg) ∧ p.cell? ⟨b, off, none⟩ = some (.int .i64 x.kind) ∧ p.cell? ⟨b, off + 1, none⟩ = some (.string x.text) ∧ p.cell? ⟨b, off + 2, none⟩ = some (.int .i64 x.num) ∧ p.cell? ⟨b, off + 3, none⟩ = some (.slice ax x.kids.length cx)) ∧ Hid (FormK w 7 1 st tk sg b off c 1 x x ax ax cx cx d p)) → Below p.heap.size p q → ((q.cell? ⟨w.heap.size, 3, none⟩ = some (.slice (some ⟨b, off, none⟩) 1 c) ∧ q.cell? ⟨w.heap.size + 1, 0, none⟩ = some (.int .i64 1) ∧ q.cell? ⟨w.heap.size + 1, 1, none⟩ = some (.int .i64 st) ∧ q.cell? ⟨w.heap.size + 1, 2, none⟩ = some (.int .i64 tk) ∧ q.cell? ⟨w.heap.size + 1, 3, none⟩ = some (.string sg) ∧ q.cell? ⟨b, off, none⟩ = some (.int .i64 x.kind) ∧ q.cell? ⟨b, off + 1, none⟩ = some (.string x.text) ∧ q.cell? ⟨b, off + 2, none⟩ = some (.int .i64 x.num) ∧ q.cell? ⟨b, off + 3, none⟩ = some (.slice ax x.kids.length cx)) ∧ Hid (FormK w 7 1 st tk sg b off c 1 x x ax ax cx cx d q))) := fun p q h hb => by
    have z := h.2.out.below hb
    exact ⟨⟨z.k3, z.g0, z.g1, z.g2, z.g3, z.x0, z.x1, z.x2, z.x3⟩, z⟩
  have hS1 : (W1.drew.cell? ⟨w.heap.size, 3, none⟩ = some (.slice (some ⟨b, off, none⟩) 1 c) ∧ W1.drew.cell? ⟨w.heap.size + 1, 0, none⟩ = some (.int .i64 1) ∧ W1.drew.cell? ⟨w.heap.size + 1, 1, none⟩ = some (.int .i64 st) ∧ W1.drew.cell? ⟨w.heap.size + 1, 2, none⟩ = some (.int .i64 tk) ∧ W1.drew.cell? ⟨w.heap.size + 1, 3, none⟩ = some (.string sg) ∧ W1.drew.cell? ⟨b, off, none⟩ = some (.int .i64 x.kind) ∧ W1.drew.cell? ⟨b, off + 1, none⟩ = some (.string x.text) ∧ W1.drew.cell? ⟨b, off + 2, none⟩ = some (.int .i64 x.num) ∧ W1.drew.cell? ⟨b, off + 3, none⟩ = some (.slice ax x.kids.length cx)) ∧ Hid (FormK w 7 1 st tk sg b off c 1 x x ax ax cx cx d W1.drew) := by
    have z := T1.out.drew
    exact ⟨⟨z.k3, z.g0, z.g1, z.g2, z.g3, z.x0, z.x1, z.x2, z.x3⟩, z⟩
  have HS1 := Lib.hid hS1
  clear hS1
  go_region_held3 (fun w' => (w'.cell? ⟨w.heap.size, 3, none⟩ = some (.slice (some ⟨b, off, none⟩) 1 c) ∧ w'.cell? ⟨w.heap.size + 1, 0, none⟩ = some (.int .i64 1) ∧ w'.cell? ⟨w.heap.size + 1, 1, none⟩ = some (.int .i64 st) ∧ w'.cell? ⟨w.heap.size + 1, 2, none⟩ = some (.int .i64 tk) ∧ w'.cell? ⟨w.heap.size + 1, 3, none⟩ = some (.string sg) ∧ w'.cell? ⟨b, off, none⟩ = some (.int .i64 x.kind) ∧ w'.cell? ⟨b, off + 1, none⟩ = some (.string x.text) ∧ w'.cell? ⟨b, off + 2, none⟩ = some (.int .i64 x.num) ∧ w'.cell? ⟨b, off + 3, none⟩ = some (.slice ax x.kids.length cx)) ∧ Hid (FormK w 7 1 st tk sg b off c 1 x x ax ax cx cx d w')) (first | assumption | exact HS1.out)
    (first
      | (go_at_call 126; refine (firstNeeds _ _ _ _ _ hstr 5 HFM.out).mono ?_; rintro e wq ⟨rfl, bq⟩; have hq := hst.out _ _ (by assumption) bq)
      | (go_at_call 125; refine (opText d ih x ax cx 5 _ (And.right (by assumption : _ ∧ Hid (FormK w 7 1 st tk sg b off c 1 x x ax ax cx cx d _))).out.tab hs (by omega) (by omega) (And.right (by assumption : _ ∧ Hid (FormK w 7 1 st tk sg b off c 1 x x ax ax cx cx d _))).out.kx s HS.out).mono ?_; rintro e wz ⟨rfl, bz⟩; have hz := hst.out _ _ (by assumption) bz))
  have B9 := Lib.hid hz.2.out.bel
  clear hz hq
  go_wp2_with fail
  go_ret
  exact ⟨by rw [HE.out]; rfl, B9.out⟩

set_option maxRecDepth 100000 in
set_option maxHeartbeats 4000000 in
theorem txtTwo (d : Nat) (ih : TxtP d) (i : Nat) (hi : i < 19) (k : Int) (hki : k = i) (hk : k ∈ ([8, 9, 10, 11, 12, 13, 14, 15, 16, 17, 18] : List Int)) (t : ByteArray) (n : Int) (x y : Ex) (a : Option Addr) (c : Nat) (w : World) (hT : Tabs w) (hsx : shapeE x = true) (hsy : shapeE y = true) (hn : x.nodes ≤ 39 ∧ y.nodes ≤ 39) (hx : KidsAt w (d + 1) a c [x, y]) :
    Calls Tryz.prog 88 #[.agg #[.int .i64 (i : Int), .string t, .int .i64 n, .slice a 2 c]] w fun z w' => z = .returned (.string (tE (.mk k t n [x, y]) 1)) ∧ Below w.heap.size w w' := by
  have HT := Lib.hid (fun w' hb => hT.below (w' := w') (B := w.heap.size) hb hT.big)
  have HK := Lib.hid (fun w' hb => hx.below (w' := w') hb)
  obtain ⟨hb6, hb3⟩ := two_binds hk
  have hb1 := (binds_range k).1
  have hk18 : 8 ≤ k ∧ k ≤ 18 := by
    have : ∀ k ∈ ([8, 9, 10, 11, 12, 13, 14, 15, 16, 17, 18] : List Int), 8 ≤ k ∧ k ≤ 18 := by decide
    exact this k hk
  have hfm : (fm i).kids = 2 ∧ (fm i).strength = (bindsK k : Int) ∧ (fm i).text = signK k := by
    have : ∀ i, i < 19 → 8 ≤ i → (fm i).kids = 2 ∧ (fm i).strength = (bindsK (i : Int) : Int) ∧ (fm i).text = signK (i : Int) := by decide
    rw [hki]
    exact this i hi (by omega)
  have kb : ((i : Int) == 0) = false ∧ ((i : Int) == 1) = false ∧ ((i : Int) == 2) = false ∧ ((i : Int) == 3) = false ∧ ((i : Int) == 4) = false ∧ ((i : Int) == 5) = false ∧ ((i : Int) == 6) = false ∧ ((i : Int) == 7) = false := by
    refine ⟨?_, ?_, ?_, ?_, ?_, ?_, ?_, ?_⟩ <;> (simp; omega)
  obtain ⟨kb0, kb1, kb2, kb3, kb4, kb5, kb6, kb7⟩ := kb
  have hi0 : (0 : Int) ≤ (i : Int) := by omega
  have hi1 : (i : Int) < 19 := by omega
  obtain ⟨g0, g1, g2, g3⟩ := forms_alloc hT i hi (.cells #[.int .i64 (i : Int), .string t, .int .i64 n, .slice a 2 c] 66)
  rw [hfm.1] at g0
  rw [hfm.2.1] at g1
  rw [hfm.2.2] at g3
  obtain ⟨tk, htk⟩ : ∃ tk, (fm i).token = tk := ⟨_, rfl⟩
  rw [htk] at g2
  clear hx hT hfm htk
  have l5 : (ByteArray.mk #[32]).size = 1 := rfl
  obtain ⟨rs, hrs⟩ : ∃ rs : Ex → Int → ByteArray, rs = fun z m => tE z m.toNat := ⟨_, rfl⟩
  obtain ⟨sg, hsg⟩ : ∃ sg, txt (signK k) = sg := ⟨_, rfl⟩
  obtain ⟨st, hbI⟩ : ∃ st : Int, (bindsK k : Int) = st := ⟨_, rfl⟩
  obtain ⟨fi, hfi⟩ : ∃ fi : Int, (firstK k : Int) = fi := ⟨_, rfl⟩
  obtain ⟨si, hsi⟩ : ∃ si : Int, st + 1 = si := ⟨_, rfl⟩
  rw [hbI] at g1
  rw [hsg] at g3
  have hzx : (rs x fi).size ≤ 8400 := by rw [hrs]; exact tE_size hsx (by omega)
  have hzy : (rs y si).size ≤ 8400 := by rw [hrs]; exact tE_size hsy (by omega)
  have hzs : sg.size ≤ 3 := by rw [← hsg, txt_size]; exact (sign_no hk).2.2
  obtain ⟨p1, hp1⟩ : ∃ p, p = rs x fi ++ (ByteArray.mk #[32]) := ⟨_, rfl⟩
  obtain ⟨p2, hp2⟩ : ∃ p, p = p1 ++ sg := ⟨_, rfl⟩
  obtain ⟨p3, hp3⟩ : ∃ p, p = p2 ++ (ByteArray.mk #[32]) := ⟨_, rfl⟩
  obtain ⟨p4, hp4⟩ : ∃ p, p = p3 ++ rs y si := ⟨_, rfl⟩
  have z1 : p1.size ≤ 8401 := by rw [hp1, ByteArray.size_append]; omega
  have z2 : p2.size ≤ 8404 := by rw [hp2, ByteArray.size_append]; omega
  have z3 : p3.size ≤ 8405 := by rw [hp3, ByteArray.size_append]; omega
  have ad1 : ∀ w, (Op.stringOp .add (rs x fi) (ByteArray.mk #[32])).run Tryz.prog w = .ok (.string p1) w := fun w => by rw [hp1]; exact run_string_add_sum w _ _ (by omega)
  have ad2 : ∀ w, (Op.stringOp .add p1 sg).run Tryz.prog w = .ok (.string p2) w := fun w => by rw [hp2]; exact run_string_add_sum w _ _ (by omega)
  have ad3 : ∀ w, (Op.stringOp .add p2 (ByteArray.mk #[32])).run Tryz.prog w = .ok (.string p3) w := fun w => by rw [hp3]; exact run_string_add_sum w _ _ (by omega)
  have ad4 : ∀ w, (Op.stringOp .add p3 (rs y si)).run Tryz.prog w = .ok (.string p4) w := fun w => by rw [hp4]; exact run_string_add_sum w _ _ (by omega)
  have HE : Hid (tE (.mk k t n [x, y]) 1 = p4) := by
    unfold Hid
    rw [tE_two hk, hp4, hp3, hp2, hp1, hrs, hsg, ← hsi, ← hbI, ← hfi]
    simp only [Int.toNat_natCast]
    rw [show ((bindsK k : Int) + 1).toNat = bindsK k + 1 by omega]
    rfl
  have hf0 : 0 ≤ fi ∧ 0 ≤ si := by omega
  have HFM : Hid (fi = if st = 4 then 5 else st) := by
    unfold Hid
    rw [← hfi, ← hbI]
    unfold firstK
    split
    · rw [if_pos (by omega)]; rfl
    · rw [if_neg (by omega)]
  have HSI := Lib.hid hsi
  have hstr : 1 ≤ st ∧ st ≤ 7 := by omega
  have cxy : Hid (∀ (z : Ex) (za : Option Addr) (zc : Nat) (m : Int) (W : World), ((z = x ∧ m = fi) ∨ (z = y ∧ m = si)) → Tabs W → KidsAt W d za zc z.kids →
      Calls Tryz.prog 125 #[.agg #[.int .i64 z.kind, .string z.text, .int .i64 z.num, .slice za z.kids.length zc], .int .i64 m] W fun e w' => e = .returned (.string (rs z m)) ∧ Below W.heap.size W w') := by
    intro z za zc m W h hT hz
    rw [hrs]
    rcases h with ⟨rfl, rfl⟩ | ⟨rfl, rfl⟩
    · exact opText d ih z za zc m W hT hsx (by omega) hf0.1 hz _ rfl
    · exact opText d ih z za zc m W hT hsy (by omega) hf0.2 hz _ rfl
  have HBX := Lib.hid (fun T T2 => boxF_new w (i : Int) t n a 2 c 2 st tk sg T T2)
  clear hrs hsg hp1 hp2 hp3 hp4 hsi hfi hbI ih
  go_enter Tryz.func88, Tryz.ntmps88
  go_wp2_with fail
  have BX := HBX.out 66 144
  generalize (w.alloc (.cells #[.int .i64 (i : Int), .string t, .int .i64 n, .slice a 2 c] 66)).alloc (.cells #[.int .i64 2, .int .i64 st, .int .i64 tk, .string sg] 144) = W1 at BX ⊢
  obtain ⟨b, off, rfl, hbl, d0, d1, d2, _, ax, cx, d3, hkx⟩ := (HK.out _ BX.bel).spot (i := 0) (by simp)
  obtain ⟨b', off', he, hbl', e0, e1, e2, _, ay, cy, e3, hky⟩ := (HK.out _ BX.bel).spot (i := 1) (by simp)
  cases he
  simp only [List.getElem_cons_zero, List.getElem_cons_succ, Nat.zero_mul, Nat.one_mul, Nat.add_zero] at d0 d1 d2 d3 hkx e0 e1 e2 e3 hky
  have T1 : Hid (FormK w k 2 st tk sg b off c 2 x y ax ay cx cy d W1) := ⟨BX.lt, hbl, BX.c3, BX.g0, BX.g1, BX.g2, BX.g3, d0, d1, d2, d3, fun _ => e0, fun _ => e1, fun _ => e2, fun _ => e3, hkx, fun _ => hky, HT.out _ BX.bel, BX.bel⟩
  clear BX d0 d1 d2 d3 hkx e0 e1 e2 e3 hky g0 g1 g2 g3
  have hst : Hid (∀ p q : World, ((p.cell? ⟨w.heap.size, 3, none⟩ = some (.slice (some ⟨b, off, none⟩) 2 c) ∧ p.cell? ⟨w.heap.size + 1, 0, none⟩ = some (.int .i64 2) ∧ p.cell? ⟨w.heap.size + 1, 1, none⟩ = some (.int .i64 st) ∧ p.cell? ⟨w.heap.size + 1, 2, none⟩ = some (.int .i64 tk) ∧ p.cell? ⟨w.heap.size + 1, 3, none⟩ = some (.string sg) ∧ p.cell? ⟨b, off, none⟩ = some (.int .i64 x.kind) ∧ p.cell? ⟨b, off + 1, none⟩ = some (.string x.text) ∧ p.cell? ⟨b, off + 2, none⟩ = some (.int .i64 x.num) ∧ p.cell? ⟨b, off + 3, none⟩ = some (.slice ax x.kids.length cx) ∧ p.cell? ⟨b, off + 4, none⟩ = some (.int .i64 y.kind) ∧ p.cell? ⟨b, off + 4 + 1, none⟩ = some (.string y.text) ∧ p.cell? ⟨b, off + 4 + 2, none⟩ = some (.int .i64 y.num) ∧ p.cell? ⟨b, off + 4 + 3, none⟩ = some (.slice ay y.kids.length cy)) ∧ Hid (FormK w k 2 st tk sg b off c 2 x y ax ay cx cy d p)) → Below p.heap.size p q → ((q.cell? ⟨w.heap.size, 3, none⟩ = some (.slice (some ⟨b, off, none⟩) 2 c) ∧ q.cell? ⟨w.heap.size + 1, 0, none⟩ = some (.int .i64 2) ∧ q.cell? ⟨w.heap.size + 1, 1, none⟩ = some (.int .i64 st) ∧ q.cell? ⟨w.heap.size + 1, 2, none⟩ = some (.int .i64 tk) ∧ q.cell? ⟨w.heap.size + 1, 3, none⟩ = some (.string sg) ∧ q.cell? ⟨b, off, none⟩ = some (.int .i64 x.kind) ∧ q.cell? ⟨b, off + 1, none⟩ = some (.string x.text) ∧ q.cell? ⟨b, off + 2, none⟩ = some (.int .i64 x.num) ∧ q.cell? ⟨b, off + 3, none⟩ = some (.slice ax x.kids.length cx) ∧ q.cell? ⟨b, off + 4, none⟩ = some (.int .i64 y.kind) ∧ q.cell? ⟨b, off + 4 + 1, none⟩ = some (.string y.text) ∧ q.cell? ⟨b, off + 4 + 2, none⟩ = some (.int .i64 y.num) ∧ q.cell? ⟨b, off + 4 + 3, none⟩ = some (.slice ay y.kids.length cy)) ∧ Hid (FormK w k 2 st tk sg b off c 2 x y ax ay cx cy d q))) := fun p q h hb => by
    have z := h.2.out.below hb
    exact ⟨⟨z.k3, z.g0, z.g1, z.g2, z.g3, z.x0, z.x1, z.x2, z.x3, z.y0 rfl, z.y1 rfl, z.y2 rfl, z.y3 rfl⟩, z⟩
  have hS1 : (W1.drew.cell? ⟨w.heap.size, 3, none⟩ = some (.slice (some ⟨b, off, none⟩) 2 c) ∧ W1.drew.cell? ⟨w.heap.size + 1, 0, none⟩ = some (.int .i64 2) ∧ W1.drew.cell? ⟨w.heap.size + 1, 1, none⟩ = some (.int .i64 st) ∧ W1.drew.cell? ⟨w.heap.size + 1, 2, none⟩ = some (.int .i64 tk) ∧ W1.drew.cell? ⟨w.heap.size + 1, 3, none⟩ = some (.string sg) ∧ W1.drew.cell? ⟨b, off, none⟩ = some (.int .i64 x.kind) ∧ W1.drew.cell? ⟨b, off + 1, none⟩ = some (.string x.text) ∧ W1.drew.cell? ⟨b, off + 2, none⟩ = some (.int .i64 x.num) ∧ W1.drew.cell? ⟨b, off + 3, none⟩ = some (.slice ax x.kids.length cx) ∧ W1.drew.cell? ⟨b, off + 4, none⟩ = some (.int .i64 y.kind) ∧ W1.drew.cell? ⟨b, off + 4 + 1, none⟩ = some (.string y.text) ∧ W1.drew.cell? ⟨b, off + 4 + 2, none⟩ = some (.int .i64 y.num) ∧ W1.drew.cell? ⟨b, off + 4 + 3, none⟩ = some (.slice ay y.kids.length cy)) ∧ Hid (FormK w k 2 st tk sg b off c 2 x y ax ay cx cy d W1.drew) := by
    have z := T1.out.drew
    exact ⟨⟨z.k3, z.g0, z.g1, z.g2, z.g3, z.x0, z.x1, z.x2, z.x3, z.y0 rfl, z.y1 rfl, z.y2 rfl, z.y3 rfl⟩, z⟩
  have HS1 := Lib.hid hS1
  clear hS1
  go_region_held3 (fun w' => (w'.cell? ⟨w.heap.size, 3, none⟩ = some (.slice (some ⟨b, off, none⟩) 2 c) ∧ w'.cell? ⟨w.heap.size + 1, 0, none⟩ = some (.int .i64 2) ∧ w'.cell? ⟨w.heap.size + 1, 1, none⟩ = some (.int .i64 st) ∧ w'.cell? ⟨w.heap.size + 1, 2, none⟩ = some (.int .i64 tk) ∧ w'.cell? ⟨w.heap.size + 1, 3, none⟩ = some (.string sg) ∧ w'.cell? ⟨b, off, none⟩ = some (.int .i64 x.kind) ∧ w'.cell? ⟨b, off + 1, none⟩ = some (.string x.text) ∧ w'.cell? ⟨b, off + 2, none⟩ = some (.int .i64 x.num) ∧ w'.cell? ⟨b, off + 3, none⟩ = some (.slice ax x.kids.length cx) ∧ w'.cell? ⟨b, off + 4, none⟩ = some (.int .i64 y.kind) ∧ w'.cell? ⟨b, off + 4 + 1, none⟩ = some (.string y.text) ∧ w'.cell? ⟨b, off + 4 + 2, none⟩ = some (.int .i64 y.num) ∧ w'.cell? ⟨b, off + 4 + 3, none⟩ = some (.slice ay y.kids.length cy)) ∧ Hid (FormK w k 2 st tk sg b off c 2 x y ax ay cx cy d w')) (first | assumption | exact HS1.out)
    (first
      | (go_at_call 126; refine (firstNeeds _ _ _ _ _ hstr fi HFM.out).mono ?_; rintro e wq ⟨rfl, bq⟩; have hq := hst.out _ _ (by assumption) bq)
      | (go_at_call 127; refine (secondNeeds _ _ _ _ _ hstr si HSI.out).mono ?_; rintro e wq ⟨rfl, bq⟩; have hq := hst.out _ _ (by assumption) bq)
      | (go_at_call 125; refine (cxy.out _ _ _ _ _ (by first | exact .inl ⟨rfl, rfl⟩ | exact .inr ⟨rfl, rfl⟩) (And.right (by assumption : _ ∧ Hid (FormK w k 2 st tk sg b off c 2 x y ax ay cx cy d _))).out.tab (by first | exact (And.right (by assumption : _ ∧ Hid (FormK w k 2 st tk sg b off c 2 x y ax ay cx cy d _))).out.kx | exact (And.right (by assumption : _ ∧ Hid (FormK w k 2 st tk sg b off c 2 x y ax ay cx cy d _))).out.ky rfl)).mono ?_; rintro e wz ⟨rfl, bz⟩; have hz := hst.out _ _ (by assumption) bz))
  have B9 := Lib.hid hz.2.out.bel
  clear hz hq
  go_wp2_with fail
  go_ret
  exact ⟨by rw [HE.out]; rfl, B9.out⟩

theorem implText : ∀ d, TxtP d
  | 0 => fun _ _ _ _ _ _ _ h => h.elim
  | d + 1 => by
    intro e a c w hT hs hn hk
    obtain ⟨k, t, n, kids⟩ := e
    obtain ⟨h1, hl⟩ := shape_parts hs
    have hne := Ex.nodes_eq (.mk k t n kids)
    match kids, h1, hl, hk, hne with
    | [], h1, _, _, _ => exact txtLeaf k t n a c w hT h1
    | [x], h1, hl, hk, hne =>
      rw [shapeL, Bool.and_eq_true] at hl
      change _ = 1 + nodesL [x] at hne
      rw [nodesL, nodesL] at hne
      rcases one_kid (arity h1) with rfl | rfl
      · exact txtNot d (implText d) t n x a c w hT hl.1 (by omega) hk
      · exact txtNull d (implText d) t n x a c w hT hl.1 (by omega) hk
    | [x, y], h1, hl, hk, hne =>
      rw [shapeL, shapeL, Bool.and_eq_true, Bool.and_eq_true] at hl
      change _ = 1 + nodesL [x, y] at hne
      rw [nodesL, nodesL, nodesL] at hne
      have hin := kind_in h1
      obtain ⟨i, hi⟩ : ∃ i : Nat, k = i := ⟨k.toNat, by omega⟩
      have := txtTwo d (implText d) i (by omega) k hi (two_mem (arity h1)) t n x y a c w hT hl.1 hl.2.1 (by omega) hk
      rw [← hi] at this
      exact this
    | x :: y :: z :: r, h1, _, _, _ =>
      have := arity h1
      unfold kidsK at this
      simp only [List.length_cons] at this
      split at this
      · omega
      · split at this
        · omega
        · split at this <;> omega

set_option maxHeartbeats 1000000 in
theorem implPutExpr (e : Ex) (a : Option Addr) (c d : Nat) (w : World) (hT : Tabs w) (hfit : e.fit) (hk : KidsAt w d a c e.kids) (hn : e.nodes ≤ 1073741824) (r : ByteArray) (hr : putT e = r) :
    Calls Tryz.prog 44 #[.agg #[.int .i64 e.kind, .string e.text, .int .i64 e.num, .slice a e.kids.length c]] w fun x w' => x = .returned (.string r) ∧ Below w.heap.size w w' := by
  have HK := Lib.hid (fun w' hb => hk.below (w' := w') hb)
  have HT := Lib.hid (fun w' hb => hT.below (w' := w') (B := w.heap.size) hb hT.big)
  have HBX := Lib.hid (fun T => boxK_new w e.kind e.text e.num a e.kids.length c T)
  clear hk hT
  cases hok : (decide (e.nodes ≤ 40) && shapeE e) with
  | true =>
    have hr2 : tE e 1 = r := by rw [← hr, putT, if_pos hok]
    have HOK := Lib.hid hok
    have hb := hok
    rw [Bool.and_eq_true, decide_eq_true_eq] at hb
    have HR := Lib.hid hr2
    clear hok hr hr2
    go_enter Tryz.func44, Tryz.ntmps44
    go_wp2_with fail
    refine (implExprOk e a c d _ (HT.out _ (HBX.out _).bel).forms hfit (HK.out _ (HBX.out _).bel) hn true HOK.out).mono ?_
    rintro x w2 ⟨rfl, hb2⟩
    have BX := (HBX.out _).below hb2
    obtain ⟨hW1, c0, c1, c2, c3, bW1⟩ := BX
    clear hb2
    go_wp2_with fail
    have hput := implText d e a c w2 (HT.out _ bW1) hb.2 hb.1 (HK.out _ bW1)
    rw [HR.out] at hput
    refine hput.mono ?_
    rintro x w3 ⟨rfl, hb3⟩
    have B3 := Lib.hid (bW1.trans (hb3.mono bW1.size))
    clear hb3 hput
    go_wp2_with fail
    go_ret
    exact ⟨rfl, B3.out⟩
  | false =>
    have HOK := Lib.hid hok
    have HR : Hid (r = txt []) := by unfold Hid; rw [← hr, putT, if_neg (by rw [hok]; decide)]
    clear hok hr
    go_enter Tryz.func44, Tryz.ntmps44
    go_wp2_with fail
    refine (implExprOk e a c d _ (HT.out _ (HBX.out _).bel).forms hfit (HK.out _ (HBX.out _).bel) hn false HOK.out).mono ?_
    rintro x w2 ⟨rfl, hb2⟩
    have B2 := Lib.hid ((HBX.out _).below hb2).bel
    clear hb2
    go_wp2_with fail
    go_ret
    exact ⟨by rw [HR.out]; rfl, B2.out⟩

end Go.Proofs.YtpdcmmhhgnackaaGreatDoor
