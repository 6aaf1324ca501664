/- impl.ExprOk: the walk over the nodes leaves by a panic where one is not right. -/
/- impl.listFits over expressions. Written by tools/gen_every.py. -/
/- impl.TypeOk. -/
/- The program's own look at columns. -/
/- impl.listFits over names. Written by tools/gen_every.py. -/
import Derived.Test.YtpdcmmhhgnackaaGreatDoorMOkI
import Derived.Test.YtpdcmmhhgnackaaGreatDoorMExSz
import Derived.Defers
import Derived.Recover
import Derived.Test.YtpdcmmhhgnackaaGreatDoorMNameImpl
import Derived.Deep.RegionHeld3
namespace Go.Proofs.YtpdcmmhhgnackaaGreatDoor
open Go.RowKit

def chkE (e : Ex) : Bool := node1 e.kind e.text e.num e.kids.length

theorem all_shape : ∀ e : Ex, e.all chkE = shapeE e := by
  intro e
  induction hn : e.nodes using Nat.strongRecOn generalizing e with
  | ind n ih =>
    have key : ∀ l : List Ex, nodesL l < n → allL chkE l = shapeL l := by
      intro l
      induction l with
      | nil => intro _; rfl
      | cons x r ihl =>
        intro h
        rw [nodesL] at h
        rw [allL, shapeL, ih x.nodes (by omega) x rfl, ihl (by omega)]
    have hne := Ex.nodes_eq e
    obtain ⟨k, t, m, kids⟩ := e
    change (Ex.mk k t m kids).nodes = 1 + nodesL kids at hne
    have hkk := key kids (by omega)
    rw [Ex.all_eq, shapeE]
    show (node1 k t m kids.length && allL chkE kids) = _
    rw [hkk]

def noExpr : ByteArray := ⟨#[110, 111, 116, 32, 97, 110, 32, 101, 120, 112, 114, 101, 115, 115, 105, 111, 110]⟩
def noPanic : List PanicEntry := [{ v := .iface 9 (.string noExpr), recovered := false }]

set_option maxHeartbeats 1000000 in
theorem countCall (wb : Nat) (e : Ex) (a : Option Addr) (c m : Nat) (w : World) (hc : w.cell? ⟨wb, 0, none⟩ = some (.int .i64 m)) (hz : w.frozen? ⟨wb, 0, none⟩ = false) (hm : m ≤ 1073741824) :
    Calls Tryz.prog 138 #[.pointer (some ⟨wb, 0, none⟩), .agg #[.int .i64 e.kind, .string e.text, .int .i64 e.num, .slice a e.kids.length c]] w fun x w' =>
      x = .returned (.tuple #[]) ∧ w.grownBy w' (some wb) ∧ w'.cell? ⟨wb, 0, none⟩ = some (.int .i64 (m + 1 : Nat)) ∧ w'.frozen? ⟨wb, 0, none⟩ = false := by
  have hlt := World.block_lt_of_cell? w ⟨wb, 0, none⟩ hc
  have H := Lib.hid (count_grown hc hz)
  go_enter Tryz.func138, Tryz.ntmps138
  go_wp2_with fail
  refine bodyPost_end (results_none rfl _ _ _) rfl ?_
  obtain ⟨h1, h2, h3⟩ := H.out _ (by go_num) rfl
  exact ⟨rfl, h1, h2, h3⟩

theorem FormsAt.grown {w w' : World} {wb : Nat} (h : FormsAt w) (hg : w.grownBy w' (some wb)) (hne : wb ≠ 1) : FormsAt w' := by
  refine ⟨Nat.lt_of_lt_of_le h.1 hg.size, fun i hi => ?_⟩
  obtain ⟨h0, h1, h2, h3⟩ := h.2 i hi
  have e := cell_grown hg h.1 (fun h => hne (Option.some.inj h))
  exact ⟨(e _).trans h0, (e _).trans h1, (e _).trans h2, (e _).trans h3⟩

set_option maxRecDepth 100000 in
set_option maxHeartbeats 2000000 in
theorem checkSees (wb : Nat) (hwb : wb ≠ 1) : Sees FormsAt 117 wb chkE 40 noPanic := by
  intro e a c d m w hFw hfit hk hc hz hm
  have hlt := World.block_lt_of_cell? w ⟨wb, 0, none⟩ hc
  have hl := hk.len
  have hts := hfit.1
  have hg0 := fun o => grownBy_alloc w o (some wb)
  have HBX := Lib.hid (fun T => boxK_new w e.kind e.text e.num a e.kids.length c T)
  have HF := Lib.hid hFw
  clear hk hfit hFw
  have HC : Hid (∀ o, (w.alloc o).cell? ⟨wb, 0, none⟩ = some (.int .i64 m) ∧ (w.alloc o).frozen? ⟨wb, 0, none⟩ = false) := fun o =>
    ⟨((grownBy_alloc w o none).cell_far ⟨wb, 0, none⟩ hlt (by simp)).trans hc, ((grownBy_alloc w o none).frozen_far ⟨wb, 0, none⟩ hlt (by simp)).trans hz⟩
  go_enter Tryz.func117, Tryz.ntmps117
  go_wp2_with fail
  refine (countCall wb e a c m _ (HC.out _).1 (HC.out _).2 hm).mono ?_
  rintro x w2 ⟨rfl, hg2, hc2, hz2⟩
  have BX : BoxK w e.kind e.text e.num a e.kids.length c w2 ∨ True := .inr trivial
  have hcells : w2.cell? ⟨w.heap.size, 0, none⟩ = some (.int .i64 e.kind) ∧ w2.cell? ⟨w.heap.size, 1, none⟩ = some (.string e.text) ∧ w2.cell? ⟨w.heap.size, 2, none⟩ = some (.int .i64 e.num) ∧ w2.cell? ⟨w.heap.size, 3, none⟩ = some (.slice a e.kids.length c) := by
    obtain ⟨q0, q1, q2, q3, q4, _⟩ := HBX.out 66
    have e' := cell_grown hg2 q0 (fun h => by have := Option.some.inj h; omega)
    exact ⟨(e' _).trans q1, (e' _).trans q2, (e' _).trans q3, (e' _).trans q4⟩
  obtain ⟨b0, b1, b2, b3⟩ := hcells
  have HG2 := Lib.hid ((hg0 _).trans hg2)
  have HF2 := Lib.hid ((HF.out.grown (hg0 (.cells #[.int .i64 e.kind, .string e.text, .int .i64 e.num, .slice a e.kids.length c] 66)) hwb).grown hg2 hwb)
  clear hg2 BX hg0
  by_cases h40 : m + 1 ≤ 40
  · have hd : decide (40 < ((m + 1 : Nat) : Int)) = false := by simp; omega
    have hd2 : decide (m + 1 ≤ 40) = true := decide_eq_true h40
    cases hck : chkE e with
    | true =>
      have HCK := Lib.hid (show node1 e.kind e.text e.num e.kids.length = true from hck)
      clear hck
      go_wp2_with fail
      refine (implNodeOk e.kind e.text e.num a e.kids.length c _ HF2.out hts hl true HCK.out).mono ?_
      rintro x w3 ⟨rfl, hb3⟩
      have HB3 := Lib.hid hb3
      clear hb3
      go_wp2_with fail
      refine bodyPost_end (results_none rfl _ _ _) rfl ?_
      have hlt2 : wb < w2.heap.size := Nat.lt_of_lt_of_le hlt HG2.out.size
      have hb3 := HB3.out
      exact ⟨HG2.out.trans ⟨hb3.os, hb3.tape, hb3.output, hb3.size, fun k hk _ => hb3.block k hk⟩, (hb3.cell (p := ⟨wb, 0, none⟩) hlt2).trans hc2, (hb3.frozen (p := ⟨wb, 0, none⟩) hlt2).trans hz2, by rw [show chkE e = true from HCK.out]; first | rfl | (rw [hd2]; rfl)⟩
    | false =>
      have HCK := Lib.hid (show node1 e.kind e.text e.num e.kids.length = false from hck)
      clear hck
      go_wp2_with fail
      refine (implNodeOk e.kind e.text e.num a e.kids.length c _ HF2.out hts hl false HCK.out).mono ?_
      rintro x w3 ⟨rfl, hb3⟩
      have HB3 := Lib.hid hb3
      clear hb3
      go_wp2_with fail
      have hlt2 : wb < w2.heap.size := Nat.lt_of_lt_of_le hlt HG2.out.size
      have hb3 := HB3.out
      exact ⟨rfl, HG2.out.trans ⟨hb3.os, hb3.tape, hb3.output, hb3.size, fun k hk _ => hb3.block k hk⟩, (hb3.cell (p := ⟨wb, 0, none⟩) hlt2).trans hc2, (hb3.frozen (p := ⟨wb, 0, none⟩) hlt2).trans hz2, by rw [show chkE e = false from HCK.out]; rfl⟩
  · have hd : decide (40 < ((m + 1 : Nat) : Int)) = true := by simp; omega
    have hd2 : decide (m + 1 ≤ 40) = false := decide_eq_false h40
    go_wp2_with fail
    exact ⟨rfl, HG2.out, hc2, hz2, by first | rfl | (rw [hd2, Bool.and_false]; rfl)⟩

theorem catchP (p : Addr) (x : Bool) (u : TypeId) (pv : Value) (older : List PanicEntry) (w : World) (hc : w.cell? p = some (.bool x)) (hz : w.frozen? p = false) :
    CallsD Tryz.prog 115 #[.pointer (some p)] (.panicking ({ v := .iface u pv, recovered := false } :: older)) w fun e u' w' =>
      e = .returned (.tuple #[]) ∧ u' = .panicking ({ v := .iface u pv, recovered := true } :: older) ∧ w' = w.setCell p (.bool false) := by
  refine callsD_of_wpS Tryz.func115 rfl fun c₀ cs hu => ?_
  apply wpS_seq
  apply wpS_region
  simp [wpOpsS, go_sem, recoverD, hu, Tryz.ntmps115, Exit.thenS]
  refine wpS_cond (t := true) (by simp [Act.eval, Array.replicate]) ?_
  simp only [if_true]
  apply wpS_region
  simp [wpOpsS, go_sem, hc, hz, bodyPostS, results, Tryz.results115]

theorem catchI (p : Addr) (w : World) :
    CallsD Tryz.prog 115 #[.pointer (some p)] .returning w fun e u' w' => e = .returned (.tuple #[]) ∧ u' = .returning ∧ w' = w := by
  refine callsD_of_wpS Tryz.func115 rfl fun c₀ cs hu => ?_
  apply wpS_seq
  apply wpS_region
  simp [wpOpsS, go_sem, recoverD, hu, Tryz.ntmps115, Exit.thenS]
  refine wpS_cond (t := false) (by simp [Act.eval, Array.replicate]) ?_
  simp only [Bool.false_eq_true, if_false]
  refine wpS_of_wp (wp_skip ?_)
  cases c₀
  simp_all [bodyPostS, results, Tryz.results115]

set_option maxRecDepth 100000 in
set_option maxHeartbeats 2000000 in
theorem implExprOk (e : Ex) (a : Option Addr) (c d : Nat) (w : World) (hF : FormsAt w) (hfit : e.fit) (hk : KidsAt w d a c e.kids) (hn : e.nodes ≤ 1073741824) (v : Bool) (hv : (decide (e.nodes ≤ 40) && shapeE e) = v) :
    Calls Tryz.prog 75 #[.agg #[.int .i64 e.kind, .string e.text, .int .i64 e.num, .slice a e.kids.length c]] w fun x w' => x = .returned (.bool v) ∧ Below w.heap.size w w' := by
  have hmf : ∀ (fn : Fn) (first cap : Array Value) (w : World), (Instr.makeFunc fn first cap).run Tryz.prog w = .ok (.func fn first cap) w := fun _ _ _ _ => rfl
  have hGlt := hF.1
  have HB : Hid (∀ o1 o2 o3 W, W = ((w.alloc o1).alloc o2).alloc o3 → Below w.heap.size w W) := by
    intro o1 o2 o3 W hW
    subst hW; exact (((Below.refl _ _).alloc (Nat.le_refl _) _).alloc (by simp) _).alloc (by simp; omega) _
  have HK : Hid (∀ o1 o2 o3 W, W = ((w.alloc o1).alloc o2).alloc o3 → KidsQ (fun b => b ≠ w.heap.size + 2) W d a c e.kids ∧ FormsAt W) := by
    intro o1 o2 o3 W hW
    have hb := HB.out o1 o2 o3 W hW
    exact ⟨(hk.q.agree hb.size fun b h _ o => hb.cell (p := ⟨b, o, none⟩) h).imp fun b h _ => by omega, hF.below hb hGlt⟩
  have HV : Hid ((e.all chkE && decide (0 + e.nodes ≤ 40)) = v) := by unfold Hid; rw [all_shape, Nat.zero_add, Bool.and_comm]; exact hv
  clear hk hF hv
  go_enter_defers Tryz.func75, Tryz.ntmps75
  go_wp2_with fail
  refine (eachCheck (checkSees (w.heap.size + 2) (by omega)) e a c d 0 _ (fun w' hg => (HK.out _ _ _ _ rfl).2.grown hg (by omega)) hfit (HK.out _ _ _ _ rfl).1 (by simp) (by simp [go_sem]) (by simp [go_sem]) (by omega)).mono ?_
  rintro x w2 ⟨hg, rfl, _⟩
  rw [HV.out]
  have hbox : w2.cell? ⟨w.heap.size + 1, 0, none⟩ = some (.bool false) ∧ w2.frozen? ⟨w.heap.size + 1, 0, none⟩ = false := by
    refine ⟨(cell_grown hg (b := w.heap.size + 1) (by simp) (fun h => by have := Option.some.inj h; omega) 0).trans (by simp [go_sem]), (hg.frozen_far ⟨w.heap.size + 1, 0, none⟩ (by simp) (fun h => by have := Option.some.inj h; simp only at this; omega)).trans (by simp [go_sem])⟩
  obtain ⟨hbx, hbz⟩ := hbox
  have HB2 : Hid (Below w.heap.size w w2) := by
    refine Below.trans (HB.out _ _ _ _ rfl) ⟨hg.os, hg.tape, hg.output, hg.size, fun k hk => hg.block k ?_ ?_⟩
    · simp; omega
    · intro h; have := Option.some.inj h; omega
  clear hg
  cases v with
  | true =>
    simp only [SeeX, if_true]
    go_wp2_with fail
    refine leaves_cons (f := 115) (args := #[.pointer (some ⟨w.heap.size + 1, 0, none⟩)]) (by simp) (by simp [go_sem]) ?_
    refine (catchI ⟨w.heap.size + 1, 0, none⟩ _).mono ?_
    rintro e u' w'' ⟨rfl, rfl, rfl⟩
    simp [Leaves, settle, results, Tryz.results75, go_sem, hbx]
    exact HB2.out.setCell (p := ⟨w.heap.size + 1, 0, none⟩) (by simp) _
  | false =>
    simp only [SeeX, Bool.false_eq_true, if_false, noPanic]
    go_wp2_with fail
    refine leaves_cons (f := 115) (args := #[.pointer (some ⟨w.heap.size + 1, 0, none⟩)]) (by simp) (by simp [go_sem]) ?_
    refine (catchP ⟨w.heap.size + 1, 0, none⟩ false 9 _ [] _ hbx hbz).mono ?_
    rintro e u' w'' ⟨rfl, rfl, rfl⟩
    simp [Leaves, settle, results, Tryz.results75, go_sem, hbx]
    exact HB2.out.setCell (p := ⟨w.heap.size + 1, 0, none⟩) (by simp) _

end Go.Proofs.YtpdcmmhhgnackaaGreatDoor

namespace Go.Proofs.YtpdcmmhhgnackaaGreatDoor
open Go.RowKit

theorem okX1 (d : Nat) (vs : List Value) (x : Ex) (w : World) (hR : RE d 0 w vs x) (hJ : FormsAt w) (hq : x.wt ≤ 1048576) :
    Calls Tryz.prog 75 #[.agg vs.toArray] w fun e w' => e = .returned (.bool (okX x)) ∧ Below w.heap.size w w' := by
  obtain ⟨a0, c0, rfl, hfit, hk⟩ := hR
  exact implExprOk x a0 c0 d w hJ hfit hk.at (by have := nodes_wt x; omega) _ rfl

set_option maxRecDepth 100000 in
set_option maxHeartbeats 1000000 in
theorem notX (d : Nat) (vs : List Value) (x : Ex) (nb : Nat) (w : World) (hR : (RE d) 0 w vs x) (hJ : FormsAt w) (hq : x.wt ≤ 1048576) (hnb : w.cell? ⟨nb, 0, none⟩ = some (.func (.func 75) #[] #[])) (hlt : nb < w.heap.size) :
    Calls Tryz.prog 137 #[.agg vs.toArray, .pointer (some ⟨nb, 0, none⟩)] w fun e w' => e = .returned (.bool (!okX x)) ∧ Below w.heap.size w w' := by
  have HO := Lib.hid (fun w2 (hb : Below w.heap.size w w2) => okX1 d vs x w2 ((goodRE d).kept hR (Kept.below hb)) (hJ.call hb) hq)
  obtain ⟨a0, c0, rfl, _⟩ := hR
  have QN := Lib.hid ((World.cell?_alloc_lt w (.cells [.int .i64 x.kind, .string x.text, .int .i64 x.num, .slice a0 x.kids.length c0].toArray 66) ⟨nb, 0, none⟩ hlt).trans hnb)
  clear hJ
  go_enter Tryz.func137, Tryz.ntmps137
  go_wp2_with fail
  refine (HO.out _ (by ((repeat (first | refine Below.alloc ?_ (by first | omega | (simp; done) | (simp; omega)) _ | refine Below.setCell ?_ (by first | omega | (simp; done) | (simp; omega)) _)); first | exact Below.refl _ _ | exact Below.refl _ _))).mono ?_
  rintro e w2 ⟨rfl, b2⟩
  have B2 := Lib.hid (show Below w.heap.size w w2 from Below.call b2 (by ((repeat (first | refine Below.alloc ?_ (by first | omega | (simp; done) | (simp; omega)) _ | refine Below.setCell ?_ (by first | omega | (simp; done) | (simp; omega)) _)); first | exact Below.refl _ _ | exact Below.refl _ _)))
  clear b2
  go_wp2_with fail
  go_ret
  exact ⟨rfl, B2.out⟩

set_option maxRecDepth 100000 in
set_option maxHeartbeats 2000000 in
theorem idxX (d : Nat) (a : Option Addr) (c : Nat) (xs : List Ex) (nb : Nat) (w : World) (hx : Sl 4 (RE d) 0 w a c xs) (hJ : FormsAt w) (hq : ∀ x ∈ xs, x.wt ≤ 1048576) (hnb : w.cell? ⟨nb, 0, none⟩ = some (.func (.func 75) #[] #[])) (hlt0 : nb < w.heap.size) :
    Calls Tryz.prog 148 #[.slice a xs.length c, .func (.func 137) #[] #[.pointer (some ⟨nb, 0, none⟩)]] w fun e w' =>
      ∃ r : Int, e = .returned (.int .i64 r) ∧ Hid (decide (0 ≤ r) = !xs.all okX) ∧ Below w.heap.size w w' := by
  have hl := hx.len
  have HX := Lib.hid (fun w' (hb : Below w.heap.size w w') => hx.kept (goodRE d) (Kept.below hb))
  have HJ := Lib.hid (fun w' (hb : Below w.heap.size w w') => hJ.call hb)
  have HN := Lib.hid (fun w' (hb : Below w.heap.size w w') => (And.intro ((hb.cell (p := ⟨nb, 0, none⟩) hlt0).trans hnb) (Nat.lt_of_lt_of_le hlt0 hb.size)))
  have HQ := Lib.hid hq
  clear hx hJ hq
  go_enter Tryz.func148, Tryz.ntmps148
  go_wp2
  go_loopw [8] (fun i wr => ∃ k : Nat, k ≤ xs.length ∧ i = .int .i64 k ∧ Hid (∀ m (hm : m < xs.length), m < k → okX xs[m] = true) ∧ Below w.heap.size w wr) (fun i _ => xs.length - (intOf i).toNat)
  case atStart => exact ⟨0, Nat.zero_le _, rfl, fun m h hm => absurd hm (by omega), Below.refl _ _⟩
  case round =>
    obtain ⟨k, hk, rfl, hall, hb⟩ := hrel
    by_cases hlt : k < xs.length
    · obtain ⟨b, off, vs, rfl, hbl, hcs, hR⟩ := (HX.out _ hb).spot hlt
      obtain ⟨hn1, hn2⟩ := HN.out _ hb
      have HR := hR
      obtain ⟨a0, c0, rfl, _⟩ := hR
      have hc0 : wr.cell? ⟨b, off + k * 4, none⟩ = some (.int .i64 xs[k].kind) := hcs 0 (by simp)
      have hc1 : wr.cell? ⟨b, off + k * 4 + 1, none⟩ = some (.string xs[k].text) := hcs 1 (by simp)
      have hc2 : wr.cell? ⟨b, off + k * 4 + 2, none⟩ = some (.int .i64 xs[k].num) := hcs 2 (by simp)
      have hc3 : wr.cell? ⟨b, off + k * 4 + 3, none⟩ = some (.slice a0 xs[k].kids.length c0) := hcs 3 (by simp)
      have HK := Lib.hid HR
      clear HR hcs
      go_wp2_with fail
      refine (notX d _ xs[k] nb _ HK.out (HJ.out _ hb) (HQ.out _ (List.getElem_mem hlt)) hn1 hn2).mono ?_
      rintro e w2 ⟨rfl, hb2⟩
      have HB2 := Lib.hid (hb.trans (hb2.mono hb.size))
      clear hb2
      cases he : okX xs[k] with
      | false =>
        have HE := Lib.hid (all_hit okX xs k hlt he)
        clear he
        go_wp2_with fail
        go_ret
        exact ⟨k, rfl, by unfold Hid; rw [HE.out]; simp, HB2.out⟩
      | true =>
        have HE := Lib.hid he
        clear he
        go_wp2_with fail
        go_roundw
        case rel => exact ⟨k + 1, by omega, by go_num, fun m hm h1 => by
          rcases Nat.lt_or_ge m k with h2 | h2
          · exact hall.out m hm h2
          · obtain rfl : m = k := by omega
            exact HE.out, HB2.out⟩
        case measure => simp [intOf]; omega
    · have HE := Lib.hid (all_miss okX xs fun m hm => hall.out m hm (by omega))
      go_wp2_with fail
      go_ret
      exact ⟨-1, rfl, by unfold Hid; rw [HE.out]; rfl, hb⟩

set_option maxHeartbeats 1000000 in
theorem contX (d : Nat) (a : Option Addr) (c : Nat) (xs : List Ex) (nb : Nat) (w : World) (hx : Sl 4 (RE d) 0 w a c xs) (hJ : FormsAt w) (hq : ∀ x ∈ xs, x.wt ≤ 1048576) (hnb : w.cell? ⟨nb, 0, none⟩ = some (.func (.func 75) #[] #[])) (hlt0 : nb < w.heap.size) :
    Calls Tryz.prog 136 #[.slice a xs.length c, .func (.func 137) #[] #[.pointer (some ⟨nb, 0, none⟩)]] w fun e w' =>
      e = .returned (.bool (!xs.all okX)) ∧ Below w.heap.size w w' := by
  have HC := Lib.hid (idxX d a c xs nb w hx hJ hq hnb hlt0)
  clear hx hJ hq hnb
  go_enter Tryz.func136, Tryz.ntmps136
  go_wp2_with fail
  refine HC.out.mono ?_
  rintro e w2 ⟨r, rfl, hr, b2⟩
  have B2 := Lib.hid b2
  clear b2
  go_wp2_with fail
  go_ret
  exact ⟨by rw [← hr.out]; rfl, B2.out⟩

set_option maxHeartbeats 1000000 in
theorem everyX (d : Nat) (a : Option Addr) (c : Nat) (xs : List Ex) (w : World) (hx : Sl 4 (RE d) 0 w a c xs) (hJ : FormsAt w) (hq : ∀ x ∈ xs, x.wt ≤ 1048576) (v : Bool) (hv : xs.all okX = v) :
    Calls Tryz.prog 114 #[.slice a xs.length c, .func (.func 75) #[] #[]] w fun e w' => e = .returned (.bool v) ∧ Below w.heap.size w w' := by
  have hmf : ∀ (fn : Fn) (first cap : Array Value) (w : World), (Instr.makeFunc fn first cap).run Tryz.prog w = .ok (.func fn first cap) w := fun _ _ _ _ => rfl
  have HX := Lib.hid (fun w' (hb : Below w.heap.size w w') => And.intro (hx.kept (goodRE d) (Kept.below hb)) (hJ.call hb))
  have HQ := Lib.hid hq
  have HV := Lib.hid hv
  clear hx hJ hq hv
  go_enter Tryz.func114, Tryz.ntmps114
  go_wp2_with fail
  refine (contX d a c xs w.heap.size _ (HX.out _ (by ((repeat (first | refine Below.alloc ?_ (by first | omega | (simp; done) | (simp; omega)) _ | refine Below.setCell ?_ (by first | omega | (simp; done) | (simp; omega)) _)); first | exact Below.refl _ _ | exact Below.refl _ _))).1 (HX.out _ (by ((repeat (first | refine Below.alloc ?_ (by first | omega | (simp; done) | (simp; omega)) _ | refine Below.setCell ?_ (by first | omega | (simp; done) | (simp; omega)) _)); first | exact Below.refl _ _ | exact Below.refl _ _))).2 HQ.out (by simp [go_sem]) (by simp)).mono ?_
  rintro e w2 ⟨rfl, b2⟩
  have B2 := Lib.hid (show Below w.heap.size w w2 from Below.call b2 (by ((repeat (first | refine Below.alloc ?_ (by first | omega | (simp; done) | (simp; omega)) _ | refine Below.setCell ?_ (by first | omega | (simp; done) | (simp; omega)) _)); first | exact Below.refl _ _ | exact Below.refl _ _)))
  clear b2
  go_wp2_with fail
  go_ret
  exact ⟨by rw [HV.out]; cases v <;> rfl, B2.out⟩

set_option maxHeartbeats 1000000 in
theorem fitsX (d : Nat) (a : Option Addr) (c : Nat) (xs : List Ex) (lo hi : Int) (w : World) (hx : Sl 4 (RE d) 0 w a c xs) (hJ : FormsAt w) (hq : ∀ x ∈ xs, x.wt ≤ 1048576) (v : Bool) (hv : (inI xs.length lo hi && xs.all okX) = v) :
    Calls Tryz.prog 74 #[.slice a xs.length c, .agg #[.int .i64 lo, .int .i64 hi], .func (.func 75) #[] #[]] w fun e w' => e = .returned (.bool v) ∧ Below w.heap.size w w' := by
  have hl := hx.len
  have HE := Lib.hid (fun w' (hb : Below w.heap.size w w') => everyX d a c xs w' (hx.kept (goodRE d) (Kept.below hb)) (hJ.call hb) hq _ rfl)
  clear hx hJ hq
  cases h1 : inI xs.length lo hi with
  | false =>
    have HV : Hid (v = false) := by unfold Hid; rw [← hv, h1]; rfl
    have HI := Lib.hid h1
    clear hv h1
    go_enter Tryz.func74, Tryz.ntmps74
    go_wp2_with fail
    refine (spanAllows lo hi xs.length _ false HI.out).mono ?_
    rintro e w1 ⟨rfl, b1⟩
    have B1 := Lib.hid (show Below w.heap.size w w1 from Below.call b1 (by ((repeat (first | refine Below.alloc ?_ (by first | omega | (simp; done) | (simp; omega)) _ | refine Below.setCell ?_ (by first | omega | (simp; done) | (simp; omega)) _)); first | exact Below.refl _ _ | exact Below.refl _ _)))
    clear b1
    go_wp2_with fail
    go_ret
    exact ⟨by rw [HV.out] <;> rfl, B1.out⟩
  | true =>
    have HV : Hid (xs.all okX = v) := by unfold Hid; rw [← hv, h1]; rfl
    have HI := Lib.hid h1
    clear hv h1
    go_enter Tryz.func74, Tryz.ntmps74
    go_wp2_with fail
    refine (spanAllows lo hi xs.length _ true HI.out).mono ?_
    rintro e w1 ⟨rfl, b1⟩
    have B1 := Lib.hid (show Below w.heap.size w w1 from Below.call b1 (by ((repeat (first | refine Below.alloc ?_ (by first | omega | (simp; done) | (simp; omega)) _ | refine Below.setCell ?_ (by first | omega | (simp; done) | (simp; omega)) _)); first | exact Below.refl _ _ | exact Below.refl _ _)))
    clear b1
    go_wp2_with fail
    refine (HE.out _ B1.out).mono ?_
    rintro e w2 ⟨rfl, b2⟩
    have B2 := Lib.hid (show Below w.heap.size w w2 from Below.call b2 B1.out)
    clear b2
    go_wp2_with fail
    go_ret
    exact ⟨by rw [HV.out] <;> rfl, B2.out⟩

end Go.Proofs.YtpdcmmhhgnackaaGreatDoor

namespace Go.Proofs.YtpdcmmhhgnackaaGreatDoor
open Go.RowKit

theorem drew_heap (W : World) : W.drew.heap = W.heap := rfl

theorem blockCells {W w1 : World} (hb : Below W.heap.size W w1) : (∀ b o, b < W.heap.size → w1.cell? ⟨b, o, none⟩ = W.cell? ⟨b, o, none⟩) ∧ (∀ b o, b < W.heap.size → w1.frozen? ⟨b, o, none⟩ = W.frozen? ⟨b, o, none⟩) :=
  ⟨fun b o h => hb.cell (p := ⟨b, o, none⟩) h, fun b o h => hb.frozen (p := ⟨b, o, none⟩) h⟩

theorem below_setCell {B : Nat} {w0 w : World} (h : Below B w0 w) {q j : Nat} {v : Value} (hB : B ≤ w.heap.size) (hq : B ≤ q) : Below B w0 (w.setCell ⟨q, j, none⟩ v) :=
  h.grown (row := some q) ⟨rfl, rfl, rfl, by simp [World.setCell], fun k _ hne => Below.heap_setCell _ _ _ _ (fun e => hne (by rw [e]))⟩ hB (fun k hk => by cases hk; exact hq)

theorem size_setCell (w : World) (a : Addr) (v : Value) : (w.setCell a v).heap.size = w.heap.size := by simp [World.setCell]

set_option maxHeartbeats 2000000 in
theorem implTypeOk (k l : Int) (s : ByteArray) (w : World) (hk : (Lit.int .i64 k).wf = true) (v : Bool) (hv : typeOkB k l s = v) :
    Calls Tryz.prog 73 #[.agg #[.int .i64 k, .int .i64 l, .string s]] w fun e w' => e = .returned (.bool v) ∧ Below w.heap.size w w' := by
  have hlay := Lib.hid (lay1_new w 29 k l s)
  by_cases hr : 0 ≤ k ∧ k ≤ 4
  · obtain ⟨f, mn, mx, nm, hf, hfit⟩ := typeOk_eq k l s hr
    have hd : decide (0 ≤ k ∧ k ≤ 4) = true := decide_eq_true hr
    have HL : Hid (∀ (W : World) (b : Nat), W.ownsMap Tryz.prog 3 formR b 5 formsD → (Instr.lookup 116 (.map (some b)) (.int .i64 k) true).run Tryz.prog W = .ok (.tuple #[.agg #[.string f, .int .i64 mn, .int .i64 mx, .bool nm], .bool true]) W) :=
      fun W b h => by rw [lookForm h k hk, hf, hd]
    have HF : Hid (fitsB mn mx nm l s = v) := hfit.trans hv
    clear hf hfit hv hr hd hk
    go_enter Tryz.func73, Tryz.ntmps73
    go_wp2_with fail
    generalize w.alloc (.cells #[.int .i64 k, .int .i64 l, .string s] 29) = W0 at hlay ⊢
    obtain ⟨⟨c0, c1, c2⟩, hlt0, hb0⟩ := hlay.out
    have hne : ¬ W0.heap.size = w.heap.size := by omega
    have hne' : ¬ w.heap.size = W0.heap.size := by omega
    have hst : Hid (∀ a b : World, W0.heap.size ≤ a.heap.size → (a.cell? ⟨w.heap.size, 0, none⟩ = some (.int .i64 k) ∧ a.cell? ⟨w.heap.size, 1, none⟩ = some (.int .i64 l) ∧ a.cell? ⟨w.heap.size, 2, none⟩ = some (.string s)) → Below a.heap.size a b → (b.cell? ⟨w.heap.size, 0, none⟩ = some (.int .i64 k) ∧ b.cell? ⟨w.heap.size, 1, none⟩ = some (.int .i64 l) ∧ b.cell? ⟨w.heap.size, 2, none⟩ = some (.string s))) :=
      fun a b hle h hb => ⟨(hb.cell (p := ⟨w.heap.size, 0, none⟩) (Nat.lt_of_lt_of_le hlt0 hle)).trans h.1, (hb.cell (p := ⟨w.heap.size, 1, none⟩) (Nat.lt_of_lt_of_le hlt0 hle)).trans h.2.1, (hb.cell (p := ⟨w.heap.size, 2, none⟩) (Nat.lt_of_lt_of_le hlt0 hle)).trans h.2.2⟩
    have HB0 := Lib.hid hb0
    clear hb0
    go_region_held3 (fun w' => w'.cell? ⟨w.heap.size, 0, none⟩ = some (.int .i64 k) ∧ w'.cell? ⟨w.heap.size, 1, none⟩ = some (.int .i64 l) ∧ w'.cell? ⟨w.heap.size, 2, none⟩ = some (.string s))
      (go_keep)
      ((go_at_call 80; refine (implForms _).mono ?_; rintro e w1 ⟨rfl, o1, b1⟩; have q1 := HL.out _ _ o1; have q2 := fun o => HL.out _ _ (World.ownsMap.alloc o1 o); obtain ⟨hcw, hfw⟩ := blockCells b1; (try simp only [World.size_alloc, drew_heap] at q1 q2); obtain ⟨d0, d1, d2⟩ := hst.out _ _ (by simp) (by assumption) b1; have O1 := Lib.hid o1; have B1 := Lib.hid b1; clear o1 b1))
    · go_wp2_with fail
      refine (implFits f mn mx nm k l s _ v HF.out).mono ?_
      rintro e w9 ⟨rfl, b9⟩
      go_wp2_with fail
      go_ret
      have h0 := HB0.out.drew
      have h1 : Below w.heap.size w w1 := h0.trans (B1.out.mono h0.size)
      have h2 := h1.alloc h1.size (.cells #[.string f, .int .i64 mn, .int .i64 mx, .bool nm] 114)
      exact ⟨rfl, h2.trans (b9.mono h2.size)⟩
    · go_wp2_with fail
      refine (implFits f mn mx nm k l s _ v HF.out).mono ?_
      rintro e w9 ⟨rfl, b9⟩
      go_wp2_with fail
      go_ret
      have h0 := HB0.out.drew
      have h1 : Below w.heap.size w w1 := h0.trans (B1.out.mono h0.size)
      have h2 := h1.alloc h1.size (.cells #[.string f, .int .i64 mn, .int .i64 mx, .bool nm] 114)
      exact ⟨rfl, h2.trans (b9.mono h2.size)⟩
    · go_wp2_with fail
      refine (implFits f mn mx nm k l s _ v HF.out).mono ?_
      rintro e w9 ⟨rfl, b9⟩
      go_wp2_with fail
      go_ret
      have h0 := HB0.out.drew
      have h0a := h0.alloc h0.size (.cells #[.string ⟨#[]⟩, .int .i64 0, .int .i64 0, .bool false] 114)
      have h1 : Below w.heap.size w w1 := h0a.trans (B1.out.mono h0a.size)
      have hq : w.heap.size ≤ W0.heap.size := Nat.le_of_lt hlt0
      have s1 := below_setCell (j := 0) (v := .string f) h1 h1.size hq
      have s2 := below_setCell (j := 1) (v := .int .i64 mn) s1 s1.size hq
      have s3 := below_setCell (j := 2) (v := .int .i64 mx) s2 s2.size hq
      have h2 := below_setCell (j := 3) (v := .bool nm) s3 s3.size hq
      exact ⟨rfl, h2.trans (b9.mono h2.size)⟩
  · have hd : decide (0 ≤ k ∧ k ≤ 4) = false := decide_eq_false hr
    obtain ⟨f, mn, mx, nm, hf⟩ : ∃ f mn mx nm, formOf k = .agg #[.string f, .int .i64 mn, .int .i64 mx, .bool nm] := ⟨⟨#[]⟩, 0, 0, false, by
      unfold formOf
      rw [if_neg (by omega), if_neg (by omega), if_neg (by omega), if_neg (by omega), if_neg (by omega)]
      rfl⟩
    have HL : Hid (∀ (W : World) (b : Nat), W.ownsMap Tryz.prog 3 formR b 5 formsD → (Instr.lookup 116 (.map (some b)) (.int .i64 k) true).run Tryz.prog W = .ok (.tuple #[.agg #[.string f, .int .i64 mn, .int .i64 mx, .bool nm], .bool false]) W) :=
      fun W b h => by rw [lookForm h k hk, hf, hd]
    have HF : Hid (v = false) := by
      unfold Hid
      rw [← hv, typeOkB, if_neg (by omega), if_neg (by omega), if_neg (by omega)]
    clear hf hv hr hd hk
    go_enter Tryz.func73, Tryz.ntmps73
    go_wp2_with fail
    generalize w.alloc (.cells #[.int .i64 k, .int .i64 l, .string s] 29) = W0 at hlay ⊢
    obtain ⟨⟨c0, c1, c2⟩, hlt0, hb0⟩ := hlay.out
    have hne : ¬ W0.heap.size = w.heap.size := by omega
    have hne' : ¬ w.heap.size = W0.heap.size := by omega
    have hst : Hid (∀ a b : World, W0.heap.size ≤ a.heap.size → (a.cell? ⟨w.heap.size, 0, none⟩ = some (.int .i64 k) ∧ a.cell? ⟨w.heap.size, 1, none⟩ = some (.int .i64 l) ∧ a.cell? ⟨w.heap.size, 2, none⟩ = some (.string s)) → Below a.heap.size a b → (b.cell? ⟨w.heap.size, 0, none⟩ = some (.int .i64 k) ∧ b.cell? ⟨w.heap.size, 1, none⟩ = some (.int .i64 l) ∧ b.cell? ⟨w.heap.size, 2, none⟩ = some (.string s))) :=
      fun a b hle h hb => ⟨(hb.cell (p := ⟨w.heap.size, 0, none⟩) (Nat.lt_of_lt_of_le hlt0 hle)).trans h.1, (hb.cell (p := ⟨w.heap.size, 1, none⟩) (Nat.lt_of_lt_of_le hlt0 hle)).trans h.2.1, (hb.cell (p := ⟨w.heap.size, 2, none⟩) (Nat.lt_of_lt_of_le hlt0 hle)).trans h.2.2⟩
    have HB0 := Lib.hid hb0
    clear hb0
    go_region_held3 (fun w' => w'.cell? ⟨w.heap.size, 0, none⟩ = some (.int .i64 k) ∧ w'.cell? ⟨w.heap.size, 1, none⟩ = some (.int .i64 l) ∧ w'.cell? ⟨w.heap.size, 2, none⟩ = some (.string s))
      (go_keep)
      ((go_at_call 80; refine (implForms _).mono ?_; rintro e w1 ⟨rfl, o1, b1⟩; have q1 := HL.out _ _ o1; have q2 := fun o => HL.out _ _ (World.ownsMap.alloc o1 o); obtain ⟨hcw, hfw⟩ := blockCells b1; (try simp only [World.size_alloc, drew_heap] at q1 q2); obtain ⟨d0, d1, d2⟩ := hst.out _ _ (by simp) (by assumption) b1; have O1 := Lib.hid o1; have B1 := Lib.hid b1; clear o1 b1))
    · go_wp2_with fail
      go_ret
      have h0 := HB0.out.drew
      have h1 : Below w.heap.size w w1 := h0.trans (B1.out.mono h0.size)
      have h2 := h1.alloc h1.size (.cells #[.string f, .int .i64 mn, .int .i64 mx, .bool nm] 114)
      exact ⟨by rw [HF.out]; rfl, h2⟩
    · go_wp2_with fail
      go_ret
      have h0 := HB0.out.drew
      have h1 : Below w.heap.size w w1 := h0.trans (B1.out.mono h0.size)
      have h2 := h1.alloc h1.size (.cells #[.string f, .int .i64 mn, .int .i64 mx, .bool nm] 114)
      exact ⟨by rw [HF.out]; rfl, h2⟩
    · go_wp2_with fail
      go_ret
      have h0 := HB0.out.drew
      have h0a := h0.alloc h0.size (.cells #[.string ⟨#[]⟩, .int .i64 0, .int .i64 0, .bool false] 114)
      have h1 : Below w.heap.size w w1 := h0a.trans (B1.out.mono h0a.size)
      have hq : w.heap.size ≤ W0.heap.size := Nat.le_of_lt hlt0
      have s1 := below_setCell (j := 0) (v := .string f) h1 h1.size hq
      have s2 := below_setCell (j := 1) (v := .int .i64 mn) s1 s1.size hq
      have s3 := below_setCell (j := 2) (v := .int .i64 mx) s2 s2.size hq
      have h2 := below_setCell (j := 3) (v := .bool nm) s3 s3.size hq
      exact ⟨by rw [HF.out]; rfl, h2⟩

end Go.Proofs.YtpdcmmhhgnackaaGreatDoor

namespace Go.Proofs.YtpdcmmhhgnackaaGreatDoor
open Go.RowKit

theorem Ks.sl {lo : Nat} {w : World} {a : Option Addr} {c : Nat} {kids : List Ex} (h : Ks lo w a c kids) : ∃ d, Sl 4 (RE d) lo w a c kids := by
  obtain ⟨d, h⟩ := h
  exact ⟨d, h.sl⟩

theorem i64_wf {n : Int} (h : i64E n) : (Lit.int .i64 n).wf = true := by
  have hmin : IntKind.i64.min = -9223372036854775808 := by decide
  have hmax : IntKind.i64.max = 9223372036854775807 := by decide
  simp [Lit.wf, hmin, hmax]
  exact h

set_option maxRecDepth 100000 in
set_option maxHeartbeats 2000000 in
theorem implColFits (vs : List Value) (x : Co) (w : World) (hJ : FormsAt w) (hR : RCo 0 w vs x) (hwt : x.wt ≤ 1048576) (v : Bool) (hv : colB x = v) :
    Calls Tryz.prog 29 #[.agg vs.toArray] w fun e w' => e = .returned (.bool v) ∧ Below w.heap.size w w' := by
  obtain ⟨a0, c0, rfl, hfit, k0⟩ := hR
  have HK := Lib.hid (fun w' (hb : Below w.heap.size w w') => And.intro (k0.kept (Kept.below hb)) (hJ.call hb))
  have HB := Lib.hid (fun T => boxCo_new w x a0 c0 T)
  have hW : x.wt = x.name.size + x.ty.name.size + (x.dflt.length + wtL x.dflt) := rfl
  have HD := Lib.hid (fun (e : Ex) (hm : e ∈ x.dflt) => (show e.wt ≤ 1048576 by have := wtL_mem hm; omega))
  have HF := Lib.hid (i64_wf hfit.2.2.1)
  unfold colB at hv
  clear k0 hW hJ
  cases h1 : nmB x.name with
  | false =>
    have H1 : Hid (nameB x.name.data.toList = false) := h1
    have HV : Hid (v = false) := by unfold Hid; rw [← hv, h1]; rfl
    clear hv h1
    go_enter Tryz.func29, Tryz.ntmps29
    go_wp2_with fail
    refine (implNameOk x.name _ _ H1.out).mono ?_
    rintro e w1 ⟨rfl, rfl⟩
    go_wp2_with fail
    go_ret
    exact ⟨by rw [HV.out] <;> rfl, (HB.out _).2⟩
  | true =>
    have H1 : Hid (nameB x.name.data.toList = true) := h1
    cases h2 : tyB x.ty with
    | false =>
      have H2 := Lib.hid h2
      have HV : Hid (v = false) := by unfold Hid; rw [← hv, h2]; simp
      clear hv h1 h2
      go_enter Tryz.func29, Tryz.ntmps29
      go_wp2_with fail
      refine (implNameOk x.name _ _ H1.out).mono ?_
      rintro e w1 ⟨rfl, rfl⟩
      go_wp2_with fail
      refine (implTypeOk x.ty.kind x.ty.len x.ty.name _ HF.out _ H2.out).mono ?_
      rintro e w2 ⟨rfl, b2⟩
      have B2 := Lib.hid ((HB.out 32).call b2)
      clear b2
      go_wp2_with fail
      go_ret
      exact ⟨by rw [HV.out] <;> rfl, B2.out.2⟩
    | true =>
      have H2 := Lib.hid h2
      have HV : Hid ((inI x.dflt.length 0 1 && x.dflt.all okX) = v) := by unfold Hid; rw [← hv, h1, h2]; rfl
      clear hv h1 h2
      go_enter Tryz.func29, Tryz.ntmps29
      go_wp2_with fail
      refine (implNameOk x.name _ _ H1.out).mono ?_
      rintro e w1 ⟨rfl, rfl⟩
      go_wp2_with fail
      refine (implTypeOk x.ty.kind x.ty.len x.ty.name _ HF.out _ H2.out).mono ?_
      rintro e w2 ⟨rfl, b2⟩
      have B2 := Lib.hid ((HB.out 32).call b2)
      clear b2
      have g5 : w2.cell? ⟨w.heap.size, 5, none⟩ = some (.slice a0 x.dflt.length c0) := (B2.out.1.2 5 (by simp)).1
      go_wp2_with fail
      obtain ⟨d, hsl⟩ := (HK.out _ B2.out.2).1.sl
      refine (fitsX d a0 c0 x.dflt 0 1 _ hsl (HK.out _ B2.out.2).2 HD.out v HV.out).mono ?_
      rintro e w3 ⟨rfl, b3⟩
      have B3 := Lib.hid (B2.out.call b3)
      clear b3
      go_wp2_with fail
      go_ret
      exact ⟨rfl, B3.out.2⟩

end Go.Proofs.YtpdcmmhhgnackaaGreatDoor

namespace Go.Proofs.YtpdcmmhhgnackaaGreatDoor
open Go.RowKit

theorem okN (vs : List Value) (x : ByteArray) (w : World) (hR : RNm 0 w vs x) (hJ : AnyW w) (hq : True) :
    Calls Tryz.prog 72 #[.string x] w fun e w' => e = .returned (.bool (nmB x)) ∧ Below w.heap.size w w' := by
  refine (implNameOk x w _ rfl).mono ?_
  rintro e w' ⟨rfl, rfl⟩
  exact ⟨rfl, Below.refl _ _⟩

set_option maxRecDepth 100000 in
set_option maxHeartbeats 1000000 in
theorem notN (vs : List Value) (x : ByteArray) (nb : Nat) (w : World) (hR : RNm 0 w vs x) (hJ : AnyW w) (hq : True) (hnb : w.cell? ⟨nb, 0, none⟩ = some (.func (.func 72) #[] #[])) (hlt : nb < w.heap.size) :
    Calls Tryz.prog 153 #[.string x, .pointer (some ⟨nb, 0, none⟩)] w fun e w' => e = .returned (.bool (!nmB x)) ∧ Below w.heap.size w w' := by
  go_enter Tryz.func153, Tryz.ntmps153
  go_wp2_with fail
  refine (okN vs x _ hR hJ hq).mono ?_
  rintro e w2 ⟨rfl, b2⟩
  have B2 := Lib.hid b2
  clear b2
  go_wp2_with fail
  go_ret
  exact ⟨rfl, B2.out⟩

set_option maxRecDepth 100000 in
set_option maxHeartbeats 2000000 in
theorem idxN (a : Option Addr) (c : Nat) (xs : List ByteArray) (nb : Nat) (w : World) (hx : Sl 1 RNm 0 w a c xs) (hJ : AnyW w) (hq : ∀ x ∈ xs, True) (hnb : w.cell? ⟨nb, 0, none⟩ = some (.func (.func 72) #[] #[])) (hlt0 : nb < w.heap.size) :
    Calls Tryz.prog 164 #[.slice a xs.length c, .func (.func 153) #[] #[.pointer (some ⟨nb, 0, none⟩)]] w fun e w' =>
      ∃ r : Int, e = .returned (.int .i64 r) ∧ Hid (decide (0 ≤ r) = !xs.all nmB) ∧ Below w.heap.size w w' := by
  have hl := hx.len
  have HX := Lib.hid (fun w' (hb : Below w.heap.size w w') => hx.kept goodRNm (Kept.below hb))
  have HJ := Lib.hid (fun w' (hb : Below w.heap.size w w') => hJ.call hb)
  have HN := Lib.hid (fun w' (hb : Below w.heap.size w w') => (And.intro ((hb.cell (p := ⟨nb, 0, none⟩) hlt0).trans hnb) (Nat.lt_of_lt_of_le hlt0 hb.size)))
  have HQ := Lib.hid hq
  clear hx hJ hq
  go_enter Tryz.func164, Tryz.ntmps164
  go_wp2
  go_loopw [8] (fun i wr => ∃ k : Nat, k ≤ xs.length ∧ i = .int .i64 k ∧ Hid (∀ m (hm : m < xs.length), m < k → nmB xs[m] = true) ∧ Below w.heap.size w wr) (fun i _ => xs.length - (intOf i).toNat)
  case atStart => exact ⟨0, Nat.zero_le _, rfl, fun m h hm => absurd hm (by omega), Below.refl _ _⟩
  case round =>
    obtain ⟨k, hk, rfl, hall, hb⟩ := hrel
    by_cases hlt : k < xs.length
    · obtain ⟨b, off, vs, rfl, hbl, hcs, hR⟩ := (HX.out _ hb).spot hlt
      obtain ⟨hn1, hn2⟩ := HN.out _ hb
      have HR := hR
      obtain ⟨rfl, _⟩ := hR
      have hc0 : wr.cell? ⟨b, off + k, none⟩ = some (.string xs[k]) := by have := hcs 0 (by simp); simpa using this
      have HK := Lib.hid HR
      clear HR hcs
      go_wp2_with fail
      refine (notN _ xs[k] nb _ HK.out (HJ.out _ hb) (HQ.out _ (List.getElem_mem hlt)) hn1 hn2).mono ?_
      rintro e w2 ⟨rfl, hb2⟩
      have HB2 := Lib.hid (hb.trans (hb2.mono hb.size))
      clear hb2
      cases he : nmB xs[k] with
      | false =>
        have HE := Lib.hid (all_hit nmB xs k hlt he)
        clear he
        go_wp2_with fail
        go_ret
        exact ⟨k, rfl, by unfold Hid; rw [HE.out]; simp, HB2.out⟩
      | true =>
        have HE := Lib.hid he
        clear he
        go_wp2_with fail
        go_roundw
        case rel => exact ⟨k + 1, by omega, by go_num, fun m hm h1 => by
          rcases Nat.lt_or_ge m k with h2 | h2
          · exact hall.out m hm h2
          · obtain rfl : m = k := by omega
            exact HE.out, HB2.out⟩
        case measure => simp [intOf]; omega
    · have HE := Lib.hid (all_miss nmB xs fun m hm => hall.out m hm (by omega))
      go_wp2_with fail
      go_ret
      exact ⟨-1, rfl, by unfold Hid; rw [HE.out]; rfl, hb⟩

set_option maxHeartbeats 1000000 in
theorem contN (a : Option Addr) (c : Nat) (xs : List ByteArray) (nb : Nat) (w : World) (hx : Sl 1 RNm 0 w a c xs) (hJ : AnyW w) (hq : ∀ x ∈ xs, True) (hnb : w.cell? ⟨nb, 0, none⟩ = some (.func (.func 72) #[] #[])) (hlt0 : nb < w.heap.size) :
    Calls Tryz.prog 152 #[.slice a xs.length c, .func (.func 153) #[] #[.pointer (some ⟨nb, 0, none⟩)]] w fun e w' =>
      e = .returned (.bool (!xs.all nmB)) ∧ Below w.heap.size w w' := by
  have HC := Lib.hid (idxN a c xs nb w hx hJ hq hnb hlt0)
  clear hx hJ hq hnb
  go_enter Tryz.func152, Tryz.ntmps152
  go_wp2_with fail
  refine HC.out.mono ?_
  rintro e w2 ⟨r, rfl, hr, b2⟩
  have B2 := Lib.hid b2
  clear b2
  go_wp2_with fail
  go_ret
  exact ⟨by rw [← hr.out]; rfl, B2.out⟩

set_option maxHeartbeats 1000000 in
theorem everyN (a : Option Addr) (c : Nat) (xs : List ByteArray) (w : World) (hx : Sl 1 RNm 0 w a c xs) (hJ : AnyW w) (hq : ∀ x ∈ xs, True) (v : Bool) (hv : xs.all nmB = v) :
    Calls Tryz.prog 144 #[.slice a xs.length c, .func (.func 72) #[] #[]] w fun e w' => e = .returned (.bool v) ∧ Below w.heap.size w w' := by
  have hmf : ∀ (fn : Fn) (first cap : Array Value) (w : World), (Instr.makeFunc fn first cap).run Tryz.prog w = .ok (.func fn first cap) w := fun _ _ _ _ => rfl
  have HX := Lib.hid (fun w' (hb : Below w.heap.size w w') => And.intro (hx.kept goodRNm (Kept.below hb)) (hJ.call hb))
  have HQ := Lib.hid hq
  have HV := Lib.hid hv
  clear hx hJ hq hv
  go_enter Tryz.func144, Tryz.ntmps144
  go_wp2_with fail
  refine (contN a c xs w.heap.size _ (HX.out _ (by ((repeat (first | refine Below.alloc ?_ (by first | omega | (simp; done) | (simp; omega)) _ | refine Below.setCell ?_ (by first | omega | (simp; done) | (simp; omega)) _)); first | exact Below.refl _ _ | exact Below.refl _ _))).1 (HX.out _ (by ((repeat (first | refine Below.alloc ?_ (by first | omega | (simp; done) | (simp; omega)) _ | refine Below.setCell ?_ (by first | omega | (simp; done) | (simp; omega)) _)); first | exact Below.refl _ _ | exact Below.refl _ _))).2 HQ.out (by simp [go_sem]) (by simp)).mono ?_
  rintro e w2 ⟨rfl, b2⟩
  have B2 := Lib.hid (show Below w.heap.size w w2 from Below.call b2 (by ((repeat (first | refine Below.alloc ?_ (by first | omega | (simp; done) | (simp; omega)) _ | refine Below.setCell ?_ (by first | omega | (simp; done) | (simp; omega)) _)); first | exact Below.refl _ _ | exact Below.refl _ _)))
  clear b2
  go_wp2_with fail
  go_ret
  exact ⟨by rw [HV.out]; cases v <;> rfl, B2.out⟩

set_option maxHeartbeats 1000000 in
theorem fitsN (a : Option Addr) (c : Nat) (xs : List ByteArray) (lo hi : Int) (w : World) (hx : Sl 1 RNm 0 w a c xs) (hJ : AnyW w) (hq : ∀ x ∈ xs, True) (v : Bool) (hv : (inI xs.length lo hi && xs.all nmB) = v) :
    Calls Tryz.prog 124 #[.slice a xs.length c, .agg #[.int .i64 lo, .int .i64 hi], .func (.func 72) #[] #[]] w fun e w' => e = .returned (.bool v) ∧ Below w.heap.size w w' := by
  have hl := hx.len
  have HE := Lib.hid (fun w' (hb : Below w.heap.size w w') => everyN a c xs w' (hx.kept goodRNm (Kept.below hb)) (hJ.call hb) hq _ rfl)
  clear hx hJ hq
  cases h1 : inI xs.length lo hi with
  | false =>
    have HV : Hid (v = false) := by unfold Hid; rw [← hv, h1]; rfl
    have HI := Lib.hid h1
    clear hv h1
    go_enter Tryz.func124, Tryz.ntmps124
    go_wp2_with fail
    refine (spanAllows lo hi xs.length _ false HI.out).mono ?_
    rintro e w1 ⟨rfl, b1⟩
    have B1 := Lib.hid (show Below w.heap.size w w1 from Below.call b1 (by ((repeat (first | refine Below.alloc ?_ (by first | omega | (simp; done) | (simp; omega)) _ | refine Below.setCell ?_ (by first | omega | (simp; done) | (simp; omega)) _)); first | exact Below.refl _ _ | exact Below.refl _ _)))
    clear b1
    go_wp2_with fail
    go_ret
    exact ⟨by rw [HV.out] <;> rfl, B1.out⟩
  | true =>
    have HV : Hid (xs.all nmB = v) := by unfold Hid; rw [← hv, h1]; rfl
    have HI := Lib.hid h1
    clear hv h1
    go_enter Tryz.func124, Tryz.ntmps124
    go_wp2_with fail
    refine (spanAllows lo hi xs.length _ true HI.out).mono ?_
    rintro e w1 ⟨rfl, b1⟩
    have B1 := Lib.hid (show Below w.heap.size w w1 from Below.call b1 (by ((repeat (first | refine Below.alloc ?_ (by first | omega | (simp; done) | (simp; omega)) _ | refine Below.setCell ?_ (by first | omega | (simp; done) | (simp; omega)) _)); first | exact Below.refl _ _ | exact Below.refl _ _)))
    clear b1
    go_wp2_with fail
    refine (HE.out _ B1.out).mono ?_
    rintro e w2 ⟨rfl, b2⟩
    have B2 := Lib.hid (show Below w.heap.size w w2 from Below.call b2 B1.out)
    clear b2
    go_wp2_with fail
    go_ret
    exact ⟨by rw [HV.out] <;> rfl, B2.out⟩

end Go.Proofs.YtpdcmmhhgnackaaGreatDoor
