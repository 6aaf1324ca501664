/- impl.ExprOk: the walk over the nodes leaves by a panic where one is not right. -/
/- impl.Gives. -/
/- What the model and the program say of an expression is one thing: pure. -/
/- The model's and the program's word on an expression agree. -/
import Derived.Test.YthebkfanpnbanaaDoorMNameImpl
import Derived.Test.YthebkfanpnbanaaDoorMBytes1
import Derived.Defers
import Derived.Recover
import Derived.Test.YthebkfanpnbanaaDoorMOpnK
import Derived.Test.YthebkfanpnbanaaDoorMDat
import Derived.Test.YthebkfanpnbanaaDoorMGivS
namespace Go.Proofs.YthebkfanpnbanaaDoor
open Go.RowKit

def chkE (e : Ex) : Bool := node1 e.kind e.text e.num e.kids.length

theorem all_shape : ∀ e : Ex, e.all chkE = shapeE e := by
  intro e
  induction hn : e.nodes using Nat.strongRecOn generalizing e with
  | ind n ih =>
    have key : ∀ l : List Ex, nodesL l < n → allL chkE l = shapeL l := by
      intro l
      induction l with
      | nil => intro _; rfl
      | cons x r ihl =>
        intro h
        rw [nodesL] at h
        rw [allL, shapeL, ih x.nodes (by omega) x rfl, ihl (by omega)]
    have hne := Ex.nodes_eq e
    obtain ⟨k, t, m, kids⟩ := e
    change (Ex.mk k t m kids).nodes = 1 + nodesL kids at hne
    have hkk := key kids (by omega)
    rw [Ex.all_eq, shapeE]
    show (node1 k t m kids.length && allL chkE kids) = _
    rw [hkk]

def noExpr : ByteArray := ⟨#[110, 111, 116, 32, 97, 110, 32, 101, 120, 112, 114, 101, 115, 115, 105, 111, 110]⟩
def noPanic : List PanicEntry := [{ v := .iface 9 (.string noExpr), recovered := false }]

set_option maxHeartbeats 1000000 in
theorem countCall (wb : Nat) (e : Ex) (a : Option Addr) (c m : Nat) (w : World) (hc : w.cell? ⟨wb, 0, none⟩ = some (.int .i64 m)) (hz : w.frozen? ⟨wb, 0, none⟩ = false) (hm : m ≤ 1073741824) :
    Calls Tryd.prog 44 #[.pointer (some ⟨wb, 0, none⟩), .agg #[.int .i64 e.kind, .string e.text, .int .i64 e.num, .slice a e.kids.length c]] w fun x w' =>
      x = .returned (.tuple #[]) ∧ w.grownBy w' (some wb) ∧ w'.cell? ⟨wb, 0, none⟩ = some (.int .i64 (m + 1 : Nat)) ∧ w'.frozen? ⟨wb, 0, none⟩ = false := by
  have hlt := World.block_lt_of_cell? w ⟨wb, 0, none⟩ hc
  have H := Lib.hid (count_grown hc hz)
  go_enter Tryd.func44, Tryd.ntmps44
  go_wp2_with fail
  refine bodyPost_end (results_none rfl _ _ _) rfl ?_
  obtain ⟨h1, h2, h3⟩ := H.out _ (by go_num) rfl
  exact ⟨rfl, h1, h2, h3⟩

theorem FormsAt.grown {w w' : World} {wb : Nat} (h : FormsAt w) (hg : w.grownBy w' (some wb)) (hne : wb ≠ 0) : FormsAt w' := by
  refine ⟨Nat.lt_of_lt_of_le h.1 hg.size, fun i hi => ?_⟩
  obtain ⟨h0, h1, h2, h3⟩ := h.2 i hi
  have e := cell_grown hg h.1 (fun h => hne (Option.some.inj h))
  exact ⟨(e _).trans h0, (e _).trans h1, (e _).trans h2, (e _).trans h3⟩

set_option maxRecDepth 100000 in
set_option maxHeartbeats 2000000 in
theorem checkSees (wb : Nat) (hwb : wb ≠ 0) : Sees FormsAt 30 wb chkE 40 noPanic := by
  intro e a c d m w hFw hfit hk hc hz hm
  have hlt := World.block_lt_of_cell? w ⟨wb, 0, none⟩ hc
  have hl := hk.len
  have hts := hfit.1
  have hg0 := fun o => grownBy_alloc w o (some wb)
  have HBX := Lib.hid (fun T => boxK_new w e.kind e.text e.num a e.kids.length c T)
  have HF := Lib.hid hFw
  clear hk hfit hFw
  have HC : Hid (∀ o, (w.alloc o).cell? ⟨wb, 0, none⟩ = some (.int .i64 m) ∧ (w.alloc o).frozen? ⟨wb, 0, none⟩ = false) := fun o =>
    ⟨((grownBy_alloc w o none).cell_far ⟨wb, 0, none⟩ hlt (by simp)).trans hc, ((grownBy_alloc w o none).frozen_far ⟨wb, 0, none⟩ hlt (by simp)).trans hz⟩
  go_enter Tryd.func30, Tryd.ntmps30
  go_wp2_with fail
  refine (countCall wb e a c m _ (HC.out _).1 (HC.out _).2 hm).mono ?_
  rintro x w2 ⟨rfl, hg2, hc2, hz2⟩
  have BX : BoxK w e.kind e.text e.num a e.kids.length c w2 ∨ True := .inr trivial
  have hcells : w2.cell? ⟨w.heap.size, 0, none⟩ = some (.int .i64 e.kind) ∧ w2.cell? ⟨w.heap.size, 1, none⟩ = some (.string e.text) ∧ w2.cell? ⟨w.heap.size, 2, none⟩ = some (.int .i64 e.num) ∧ w2.cell? ⟨w.heap.size, 3, none⟩ = some (.slice a e.kids.length c) := by
    obtain ⟨q0, q1, q2, q3, q4, _⟩ := HBX.out 26
    have e' := cell_grown hg2 q0 (fun h => by have := Option.some.inj h; omega)
    exact ⟨(e' _).trans q1, (e' _).trans q2, (e' _).trans q3, (e' _).trans q4⟩
  obtain ⟨b0, b1, b2, b3⟩ := hcells
  have HG2 := Lib.hid ((hg0 _).trans hg2)
  have HF2 := Lib.hid ((HF.out.grown (hg0 (.cells #[.int .i64 e.kind, .string e.text, .int .i64 e.num, .slice a e.kids.length c] 26)) hwb).grown hg2 hwb)
  clear hg2 BX hg0
  by_cases h40 : m + 1 ≤ 40
  · have hd : decide (40 < ((m + 1 : Nat) : Int)) = false := by simp; omega
    have hd2 : decide (m + 1 ≤ 40) = true := decide_eq_true h40
    cases hck : chkE e with
    | true =>
      have HCK := Lib.hid (show node1 e.kind e.text e.num e.kids.length = true from hck)
      clear hck
      go_wp2_with fail
      refine (implNodeOk e.kind e.text e.num a e.kids.length c _ HF2.out hts hl true HCK.out).mono ?_
      rintro x w3 ⟨rfl, hb3⟩
      have HB3 := Lib.hid hb3
      clear hb3
      go_wp2_with fail
      refine bodyPost_end (results_none rfl _ _ _) rfl ?_
      have hlt2 : wb < w2.heap.size := Nat.lt_of_lt_of_le hlt HG2.out.size
      have hb3 := HB3.out
      exact ⟨HG2.out.trans ⟨hb3.os, hb3.tape, hb3.output, hb3.size, fun k hk _ => hb3.block k hk⟩, (hb3.cell (p := ⟨wb, 0, none⟩) hlt2).trans hc2, (hb3.frozen (p := ⟨wb, 0, none⟩) hlt2).trans hz2, by rw [show chkE e = true from HCK.out]; first | rfl | (rw [hd2]; rfl)⟩
    | false =>
      have HCK := Lib.hid (show node1 e.kind e.text e.num e.kids.length = false from hck)
      clear hck
      go_wp2_with fail
      refine (implNodeOk e.kind e.text e.num a e.kids.length c _ HF2.out hts hl false HCK.out).mono ?_
      rintro x w3 ⟨rfl, hb3⟩
      have HB3 := Lib.hid hb3
      clear hb3
      go_wp2_with fail
      have hlt2 : wb < w2.heap.size := Nat.lt_of_lt_of_le hlt HG2.out.size
      have hb3 := HB3.out
      exact ⟨rfl, HG2.out.trans ⟨hb3.os, hb3.tape, hb3.output, hb3.size, fun k hk _ => hb3.block k hk⟩, (hb3.cell (p := ⟨wb, 0, none⟩) hlt2).trans hc2, (hb3.frozen (p := ⟨wb, 0, none⟩) hlt2).trans hz2, by rw [show chkE e = false from HCK.out]; rfl⟩
  · have hd : decide (40 < ((m + 1 : Nat) : Int)) = true := by simp; omega
    have hd2 : decide (m + 1 ≤ 40) = false := decide_eq_false h40
    go_wp2_with fail
    exact ⟨rfl, HG2.out, hc2, hz2, by first | rfl | (rw [hd2, Bool.and_false]; rfl)⟩

theorem catchP (p : Addr) (x : Bool) (u : TypeId) (pv : Value) (older : List PanicEntry) (w : World) (hc : w.cell? p = some (.bool x)) (hz : w.frozen? p = false) :
    CallsD Tryd.prog 29 #[.pointer (some p)] (.panicking ({ v := .iface u pv, recovered := false } :: older)) w fun e u' w' =>
      e = .returned (.tuple #[]) ∧ u' = .panicking ({ v := .iface u pv, recovered := true } :: older) ∧ w' = w.setCell p (.bool false) := by
  refine callsD_of_wpS Tryd.func29 rfl fun c₀ cs hu => ?_
  apply wpS_seq
  apply wpS_region
  simp [wpOpsS, go_sem, recoverD, hu, Tryd.ntmps29, Exit.thenS]
  refine wpS_cond (t := true) (by simp [Act.eval, Array.replicate]) ?_
  simp only [if_true]
  apply wpS_region
  simp [wpOpsS, go_sem, hc, hz, bodyPostS, results, Tryd.results29]

theorem catchI (p : Addr) (w : World) :
    CallsD Tryd.prog 29 #[.pointer (some p)] .returning w fun e u' w' => e = .returned (.tuple #[]) ∧ u' = .returning ∧ w' = w := by
  refine callsD_of_wpS Tryd.func29 rfl fun c₀ cs hu => ?_
  apply wpS_seq
  apply wpS_region
  simp [wpOpsS, go_sem, recoverD, hu, Tryd.ntmps29, Exit.thenS]
  refine wpS_cond (t := false) (by simp [Act.eval, Array.replicate]) ?_
  simp only [Bool.false_eq_true, if_false]
  refine wpS_of_wp (wp_skip ?_)
  cases c₀
  simp_all [bodyPostS, results, Tryd.results29]

set_option maxRecDepth 100000 in
set_option maxHeartbeats 2000000 in
theorem implExprOk (e : Ex) (a : Option Addr) (c d : Nat) (w : World) (hF : FormsAt w) (hfit : e.fit) (hk : KidsAt w d a c e.kids) (hn : e.nodes ≤ 1073741824) (v : Bool) (hv : (decide (e.nodes ≤ 40) && shapeE e) = v) :
    Calls Tryd.prog 16 #[.agg #[.int .i64 e.kind, .string e.text, .int .i64 e.num, .slice a e.kids.length c]] w fun x w' => x = .returned (.bool v) ∧ Below w.heap.size w w' := by
  have hmf : ∀ (fn : Fn) (first cap : Array Value) (w : World), (Instr.makeFunc fn first cap).run Tryd.prog w = .ok (.func fn first cap) w := fun _ _ _ _ => rfl
  have hGlt := hF.1
  have HB : Hid (∀ o1 o2 o3 W, W = ((w.alloc o1).alloc o2).alloc o3 → Below w.heap.size w W) := by
    intro o1 o2 o3 W hW
    subst hW; exact (((Below.refl _ _).alloc (Nat.le_refl _) _).alloc (by simp) _).alloc (by simp; omega) _
  have HK : Hid (∀ o1 o2 o3 W, W = ((w.alloc o1).alloc o2).alloc o3 → KidsQ (fun b => b ≠ w.heap.size + 2) W d a c e.kids ∧ FormsAt W) := by
    intro o1 o2 o3 W hW
    have hb := HB.out o1 o2 o3 W hW
    exact ⟨(hk.q.agree hb.size fun b h _ o => hb.cell (p := ⟨b, o, none⟩) h).imp fun b h _ => by omega, hF.below hb hGlt⟩
  have HV : Hid ((e.all chkE && decide (0 + e.nodes ≤ 40)) = v) := by unfold Hid; rw [all_shape, Nat.zero_add, Bool.and_comm]; exact hv
  clear hk hF hv
  go_enter_defers Tryd.func16, Tryd.ntmps16
  go_wp2_with fail
  refine (eachCheck (checkSees (w.heap.size + 2) (by omega)) e a c d 0 _ (fun w' hg => (HK.out _ _ _ _ rfl).2.grown hg (by omega)) hfit (HK.out _ _ _ _ rfl).1 (by simp) (by simp [go_sem]) (by simp [go_sem]) (by omega)).mono ?_
  rintro x w2 ⟨hg, rfl, _⟩
  rw [HV.out]
  have hbox : w2.cell? ⟨w.heap.size + 1, 0, none⟩ = some (.bool false) ∧ w2.frozen? ⟨w.heap.size + 1, 0, none⟩ = false := by
    refine ⟨(cell_grown hg (b := w.heap.size + 1) (by simp) (fun h => by have := Option.some.inj h; omega) 0).trans (by simp [go_sem]), (hg.frozen_far ⟨w.heap.size + 1, 0, none⟩ (by simp) (fun h => by have := Option.some.inj h; simp only at this; omega)).trans (by simp [go_sem])⟩
  obtain ⟨hbx, hbz⟩ := hbox
  have HB2 : Hid (Below w.heap.size w w2) := by
    refine Below.trans (HB.out _ _ _ _ rfl) ⟨hg.os, hg.tape, hg.output, hg.size, fun k hk => hg.block k ?_ ?_⟩
    · simp; omega
    · intro h; have := Option.some.inj h; omega
  clear hg
  cases v with
  | true =>
    simp only [SeeX, if_true]
    go_wp2_with fail
    refine leaves_cons (f := 29) (args := #[.pointer (some ⟨w.heap.size + 1, 0, none⟩)]) (by simp) (by simp [go_sem]) ?_
    refine (catchI ⟨w.heap.size + 1, 0, none⟩ _).mono ?_
    rintro e u' w'' ⟨rfl, rfl, rfl⟩
    simp [Leaves, settle, results, Tryd.results16, go_sem, hbx]
    exact HB2.out.setCell (p := ⟨w.heap.size + 1, 0, none⟩) (by simp) _
  | false =>
    simp only [SeeX, Bool.false_eq_true, if_false, noPanic]
    go_wp2_with fail
    refine leaves_cons (f := 29) (args := #[.pointer (some ⟨w.heap.size + 1, 0, none⟩)]) (by simp) (by simp [go_sem]) ?_
    refine (catchP ⟨w.heap.size + 1, 0, none⟩ false 9 _ [] _ hbx hbz).mono ?_
    rintro e u' w'' ⟨rfl, rfl, rfl⟩
    simp [Leaves, settle, results, Tryd.results16, go_sem, hbx]
    exact HB2.out.setCell (p := ⟨w.heap.size + 1, 0, none⟩) (by simp) _

end Go.Proofs.YthebkfanpnbanaaDoor

namespace Go.Proofs.YthebkfanpnbanaaDoor
open Go.RowKit

def gvO (ls : List Lb) (t : Ty) : Option Opd → Bool
  | none => false
  | some o => stoB ls t.kind t.len t.name o

/-- What impl.Gives answers. -/
def gvI (ls : List Lb) (t : Ty) (e : Ex) : Bool := if (decide (e.nodes ≤ 40) && shapeE e) = true then gvO ls t (opdE (fun _ => none) ls e) else false

mutual
theorem ar_of : (e : Ex) → shapeE e = true → arE e = true
  | .mk k t n kids => by
    intro hs
    rw [shapeE, Bool.and_eq_true] at hs
    rw [arE, Bool.and_eq_true]
    refine ⟨?_, arL_of kids hs.2⟩
    have h1 := hs.1
    unfold node1 at h1
    simp only [Bool.and_eq_true, decide_eq_true_eq] at h1
    rw [Bool.or_eq_true]
    by_cases h10 : k = 10 ∨ k = 11
    · right
      have : kidsK k = 2 := by rcases h10 with h | h <;> subst h <;> rfl
      have h2 := h1.1.1
      rw [this] at h2
      simp
      omega
    · left
      simp only [not_or] at h10
      simp [h10.1, h10.2]
theorem arL_of : (l : List Ex) → shapeL l = true → arL l = true
  | [] => fun _ => by rw [arL]
  | e :: r => by
    intro hs
    rw [shapeL, Bool.and_eq_true] at hs
    rw [arL, Bool.and_eq_true]
    exact ⟨ar_of e hs.1, arL_of r hs.2⟩
end

theorem resK_plain (k : Int) : ∃ m, resK k = .plain m := by
  unfold resK
  split
  · exact ⟨_, rfl⟩
  · exact ⟨_, rfl⟩

theorem opd_text {ls : List Lb} {e : Ex} {s : ByteArray} (h : opdE (fun _ => none) ls e = some (.text s)) : s = e.text := by
  obtain ⟨k, t, n, kids⟩ := e
  rw [opdE] at h
  split at h
  · cases h
  · split at h
    · cases h
    · split at h
      · cases h; rfl
      · split at h
        · cases h
        · split at h
          · cases h
          · cases hl : opdL (fun _ => none) ls kids with
            | none => rw [hl] at h; cases h
            | some xs =>
              rw [hl] at h
              simp only at h
              obtain ⟨m, hm⟩ := resK_plain k
              split at h
              · rw [hm] at h; cases h
              · cases h

set_option maxRecDepth 100000 in
set_option maxHeartbeats 8000000 in
theorem implGives (e : Ex) (ak : Option Addr) (ck d : Nat) (t : Ty) (la : Option Addr) (lc : Nat) (ls : List Lb) (w : World) (hF : FormsAt w) (hfit : e.fit) (hk : KidsAt w d ak ck e.kids) (hwt : e.wt ≤ 1048576) (hL : Lbs w la lc ls) :
    Calls Tryd.prog 6 #[.agg #[.int .i64 e.kind, .string e.text, .int .i64 e.num, .slice ak e.kids.length ck], .agg #[.int .i64 t.kind, .int .i64 t.len, .string t.name], .slice la ls.length lc] w fun x w' => x = .returned (.bool (gvI ls t e)) ∧ Below w.heap.size w w' := by
  have HK := Lib.hid (fun w' hb => hk.below (w' := w') hb)
  have HL := Lib.hid (fun w' hb => hL.below (w' := w') hb)
  have HF := Lib.hid (fun w' hb => hF.below (w' := w') (B := w.heap.size) hb hF.1)
  have hnw := nodes_wt e
  have hok : ∃ v, (decide (e.nodes ≤ 40) && shapeE e) = v := ⟨_, rfl⟩
  obtain ⟨v, hv⟩ := hok
  have HV := Lib.hid hv
  have HOP := Lib.hid (implOpd none 0 0 la lc ls (fun _ => none) w hL (implColNone la lc ls w) d)
  have HB0 : Hid (∀ o1 o2, Below w.heap.size w ((w.alloc o1).alloc o2)) := fun o1 o2 => ((Below.refl _ _).alloc (Nat.le_refl _) _).alloc (by simp) _
  clear hk hL hF
  go_enter Tryd.func6, Tryd.ntmps6
  go_wp2_with fail
  refine (implExprOk e ak ck d _ (HF.out _ (HB0.out _ _)) hfit (HK.out _ (HB0.out _ _)) (by omega) v hv).mono ?_
  rintro x w1 ⟨rfl, b1⟩
  have BE := Lib.hid (Blk.call b1 ((blk_new w _ [.int .i64 e.kind, .string e.text, .int .i64 e.num, .slice ak e.kids.length ck]).alloc _))
  have BT := Lib.hid (Blk.call b1 (blk_new' (w := w.alloc _) (b := w.heap.size + 1) (by simp) _ [.int .i64 t.kind, .int .i64 t.len, .string t.name]))
  have HB := Lib.hid (show Below w.heap.size w w1 from Below.call b1 (HB0.out _ _))
  have e0 : w1.cell? ⟨w.heap.size, 0, none⟩ = some (.int .i64 e.kind) := (BE.out.2 0 (by simp)).1
  have e1 : w1.cell? ⟨w.heap.size, 1, none⟩ = some (.string e.text) := (BE.out.2 1 (by simp)).1
  have e2 : w1.cell? ⟨w.heap.size, 2, none⟩ = some (.int .i64 e.num) := (BE.out.2 2 (by simp)).1
  have e3 : w1.cell? ⟨w.heap.size, 3, none⟩ = some (.slice ak e.kids.length ck) := (BE.out.2 3 (by simp)).1
  have he0 : w.heap.size < w1.heap.size := BE.out.1
  have ht0 : w.heap.size + 1 < w1.heap.size := BT.out.1
  clear b1 hv
  cases v with
  | false =>
    have HE : Hid (gvI ls t e = false) := by unfold Hid gvI; rw [if_neg (by rw [HV.out]; simp)]
    go_wp2_with fail
    go_ret
    exact ⟨by rw [HE.out]; rfl, HB.out⟩
  | true =>
    have HSH : Hid (arE e = true) := by have := HV.out; rw [Bool.and_eq_true] at this; exact ar_of e this.2
    have HG : Hid (gvI ls t e = gvO ls t (opdE (fun _ => none) ls e)) := by unfold Hid gvI; rw [if_pos HV.out]
    have HB2 : Hid (∀ o, Below w.heap.size w (w1.alloc o)) := fun o => HB.out.alloc (by omega) o
    have hn2 : e.nodes ≤ 1048577 := by omega
    go_wp2_with fail
    refine (HOP.out e ak ck _ (HB2.out _) (HK.out _ (HB2.out _)) HSH.out hn2).mono ?_
    cases ho : opdE (fun _ => none) ls e with
    | none =>
      simp only [resV]
      rintro x w2 ⟨rfl, b2⟩
      have HE : Hid (gvI ls t e = false) := by unfold Hid; rw [HG.out, ho]; rfl
      have HB3 := Lib.hid (Below.call b2 (HB2.out _))
      clear b2 ho
      go_wp2_with fail
      go_ret
      exact ⟨by rw [HE.out]; rfl, HB3.out⟩
    | some o =>
      simp only [resV]
      rintro x w2 ⟨rfl, b2⟩
      have HE : Hid (gvI ls t e = stoB ls t.kind t.len t.name o) := by unfold Hid; rw [HG.out, ho]; rfl
      have HTX : Hid (∀ s, o = .text s → s.size ≤ 1048576) := fun s hs => by
        rw [hs] at ho
        rw [opd_text ho]
        have := Ex.wt_eq e
        omega
      have HB3 := Lib.hid (Below.call b2 (HB2.out _))
      have BT2 := Lib.hid (Blk.call b2 (BT.out.alloc _))
      have BS2 := Lib.hid (Blk.call b2 (blk_new w1 _ [.slice none 0 0, .slice la ls.length lc]))
      have t0 : w2.cell? ⟨w.heap.size + 1, 0, none⟩ = some (.int .i64 t.kind) := (BT2.out.2 0 (by simp)).1
      have t1 : w2.cell? ⟨w.heap.size + 1, 1, none⟩ = some (.int .i64 t.len) := (BT2.out.2 1 (by simp)).1
      have t2 : w2.cell? ⟨w.heap.size + 1, 2, none⟩ = some (.string t.name) := (BT2.out.2 2 (by simp)).1
      have s0 : w2.cell? ⟨w1.heap.size, 0, none⟩ = some (.slice none 0 0) := (BS2.out.2 0 (by simp)).1
      have s1 : w2.cell? ⟨w1.heap.size, 1, none⟩ = some (.slice la ls.length lc) := (BS2.out.2 1 (by simp)).1
      have HST := Lib.hid (fun W (hb : Below w.heap.size w W) => implStoB none 0 0 la lc ls t.kind t.len t.name o W (HL.out W hb) HTX.out)
      clear b2 ho e0 e1 e2 e3
      go_wp2_with fail
      refine (HST.out _ HB3.out).mono ?_
      rintro x w3 ⟨rfl, b3⟩
      have HB4 := Lib.hid (Below.call b3 HB3.out)
      clear b3
      go_wp2_with fail
      go_ret
      exact ⟨by rw [HE.out]; rfl, HB4.out⟩

end Go.Proofs.YthebkfanpnbanaaDoor

namespace Go.Proofs.YthebkfanpnbanaaDoor
open Go.RowKit

def sortO : Opd → So
  | .plain k => soK k
  | .text _ => soK 1
  | .enum n => ⟨3, n⟩

theorem sortO_kind (o : Opd) : (sortO o).kind = o.kind := by cases o <;> rfl

theorem allS_map (xs : List Opd) (k : Int) : allS (xs.map sortO) k = allK xs k := by
  unfold allS allK
  rw [List.all_map]
  congr 1
  funext x
  simp only [Function.comp_apply, sortO_kind]

/-- A column's operand is no text and no plain enumeration. -/
def colOk (col : ByteArray → Option Opd) : Prop := ∀ s o, col s = some o → (∀ t, o ≠ .text t) ∧ o ≠ .plain 3

/-- An operand is a text just where the expression is one. -/
theorem opd_facts {col : ByteArray → Option Opd} (hcol : colOk col) {ls : List Lb} {e : Ex} {o : Opd} (h : opdE col ls e = some o) : (∀ s, o = .text s → e.kind = 2 ∧ s = e.text) ∧ (e.kind = 2 → o = .text e.text) ∧ o ≠ .plain 3 := by
  obtain ⟨k, t, n, kids⟩ := e
  rw [opdE] at h
  split at h
  · rename_i h0
    have := hcol _ _ h
    refine ⟨fun s hs => absurd hs (this.1 s), fun h2 => ?_, this.2⟩
    simp [Ex.kind] at h0 h2
    omega
  · split at h
    · rename_i h0
      cases h
      refine ⟨fun s hs => by (cases hs), fun h2 => ?_, by simp⟩
      simp [Ex.kind] at h0 h2
      omega
    · split at h
      · rename_i h0
        cases h
        exact ⟨fun s hs => by cases hs; exact ⟨by simpa [Ex.kind] using h0, rfl⟩, fun _ => rfl, by simp⟩
      · rename_i n2
        have hn2 : k ≠ 2 := by simpa using n2
        split at h
        · cases h
          exact ⟨fun s hs => by (cases hs), fun h2 => absurd h2 hn2, by simp⟩
        · split at h
          · cases h
            exact ⟨fun s hs => by (cases hs), fun h2 => absurd h2 hn2, by simp⟩
          · cases hl : opdL col ls kids with
            | none => rw [hl] at h; cases h
            | some xs =>
              rw [hl] at h
              simp only at h
              split at h
              · cases h
                unfold resK
                split
                · exact ⟨fun s hs => by (cases hs), fun h2 => absurd h2 hn2, by simp⟩
                · exact ⟨fun s hs => by (cases hs), fun h2 => absurd h2 hn2, by simp⟩
              · cases h

theorem cmp_fit {ls : List Lb} {x y : Ex} {a b : Opd} (ha : (∀ s, a = .text s → x.kind = 2 ∧ s = x.text) ∧ (x.kind = 2 → a = .text x.text) ∧ a ≠ .plain 3) (hb : (∀ s, b = .text s → y.kind = 2 ∧ s = y.text) ∧ (y.kind = 2 → b = .text y.text) ∧ b ≠ .plain 3) :
    fitS ls x y (sortO a) (sortO b) = cmpB ls a b := by
  obtain ⟨ha1, ha2, ha3⟩ := ha
  obtain ⟨hb1, hb2, hb3⟩ := hb
  cases a with
  | plain k =>
    have hx : (x.kind == 2) = false := by
      cases hh : (x.kind == 2) with
      | false => rfl
      | true => have := ha2 (by simpa using hh); cases this
    have hk : k ≠ 3 := fun h => ha3 (by rw [h])
    cases b with
    | plain m =>
      have hm : m ≠ 3 := fun h => hb3 (by rw [h])
      unfold fitS cmpB
      by_cases h1 : k = 4 <;> by_cases h2 : m = 4 <;> by_cases h3 : k = m <;> simp [sortO, soK, soEq, Opd.kind, hk, hm, h1, h2, h3]
    | text s =>
      unfold fitS cmpB
      by_cases h1 : k = 4 <;> by_cases h3 : k = 1 <;> simp [sortO, soK, soEq, Opd.kind, hk, h1, h3]
    | enum n =>
      unfold fitS cmpB cmpE
      by_cases h1 : k = 4 <;> simp [sortO, soK, soEq, Opd.kind, hk, h1, hx]
  | text s =>
    obtain ⟨hx, rfl⟩ := ha1 s rfl
    cases b with
    | plain m =>
      have hm : m ≠ 3 := fun h => hb3 (by rw [h])
      unfold fitS cmpB
      by_cases h2 : m = 4 <;> by_cases h3 : 1 = m <;> simp [sortO, soK, soEq, Opd.kind, hm, h2, h3]
    | text r =>
      unfold fitS cmpB
      simp [sortO, soK, soEq, Opd.kind]
    | enum n =>
      unfold fitS cmpB cmpE
      simp [sortO, soK, soEq, Opd.kind, hx]
  | enum n =>
    cases b with
    | plain m =>
      have hm : m ≠ 3 := fun h => hb3 (by rw [h])
      have hm' : ¬ (3 = m) := fun h => hm h.symm
      have hy : (y.kind == 2) = false := by
        cases hh : (y.kind == 2) with
        | false => rfl
        | true => have := hb2 (by simpa using hh); cases this
      unfold fitS cmpB cmpE
      by_cases h2 : m = 4 <;> simp [sortO, soK, soEq, Opd.kind, hm, hm', h2, hy]
    | text r =>
      obtain ⟨hy, rfl⟩ := hb1 r rfl
      unfold fitS cmpB cmpE
      simp [sortO, soK, soEq, Opd.kind, hy]
    | enum m =>
      have hy : (y.kind == 2) = false := by
        cases hh : (y.kind == 2) with
        | false => rfl
        | true => have := hb2 (by simpa using hh); cases this
      have hx : (x.kind == 2) = false := by
        cases hh : (x.kind == 2) with
        | false => rfl
        | true => have := ha2 (by simpa using hh); cases this
      unfold fitS cmpB cmpE
      by_cases h : n.toList = m.toList
      · simp [sortO, soEq, Opd.kind, h, hx, hy]
      · have h' : ¬ (m.toList = n.toList) := fun q => h q.symm
        simp [sortO, soEq, Opd.kind, h, h', hx, hy]

end Go.Proofs.YthebkfanpnbanaaDoor

namespace Go.Proofs.YthebkfanpnbanaaDoor
open Go.RowKit

theorem range_of {k : Int} {m : Nat} (h : (m : Int) = kidsK k) : 0 ≤ k ∧ k ≤ 18 := by
  unfold kidsK at h
  split at h
  · omega
  · omega

theorem node_agree {col : ByteArray → Option Opd} {cf : ByteArray → Option So} {ls : List Lb} (hcf : ∀ s, cf s = (col s).map sortO) (hcol : colOk col) (k : Int) (t : ByteArray) (n : Int) (kids : List Ex) (hk : (kids.length : Int) = kidsK k)
    (ih : srtL cf ls kids = (opdL col ls kids).map (List.map sortO)) (hlk : ∀ xs, opdL col ls kids = some xs → xs.length = kids.length ∧ ∀ (i : Nat) (h : i < kids.length) (h' : i < xs.length), opdE col ls kids[i] = some xs[i]) :
    srtE cf ls (.mk k t n kids) = (opdE col ls (.mk k t n kids)).map sortO := by
  have hr := range_of hk
  rw [srtE, ih, opdE]
  by_cases h5 : k ≤ 5
  · have h0 : kids = [] := by
      have : kidsK k = 0 := by unfold kidsK; rw [if_neg (by omega), if_pos h5]
      exact List.eq_nil_of_length_eq_zero (by omega)
    subst h0
    simp only [opdL, Option.map_some, List.map_nil]
    have hc : k = 0 ∨ k = 1 ∨ k = 2 ∨ k = 3 ∨ k = 4 ∨ k = 5 := by omega
    rcases hc with rfl | rfl | rfl | rfl | rfl | rfl
    · simp [nodeS, hcf]
    all_goals simp [nodeS, sortO]
  · cases hl : opdL col ls kids with
    | none =>
      have e0 : (k == 0) = false := by simp; omega
      have e1 : (k == 1) = false := by simp; omega
      have e2 : (k == 2) = false := by simp; omega
      have e3 : (k == 3) = false := by simp; omega
      have e4 : (k == 4) = false := by simp; omega
      have e5 : (k == 5) = false := by simp; omega
      simp [e0, e1, e2, e3, e4, e5]
    | some xs =>
      simp only [Option.map_some]
      have hc : k = 6 ∨ k = 7 ∨ k = 8 ∨ k = 9 ∨ k = 10 ∨ k = 11 ∨ k = 12 ∨ k = 13 ∨ k = 14 ∨ k = 15 ∨ k = 16 ∨ k = 17 ∨ k = 18 := by omega
      rcases hc with rfl | rfl | rfl | rfl | rfl | rfl | rfl | rfl | rfl | rfl | rfl | rfl | rfl
      case inr.inr.inr.inr.inl =>
        obtain ⟨hxl, hxe⟩ := hlk xs hl
        have h2 : kids.length = 2 := by have : kidsK 10 = 2 := rfl; omega
        obtain ⟨x, y, rfl⟩ : ∃ x y, kids = [x, y] := by
          clear hxe hxl hl ih hlk hk
          match kids, h2 with
          | [x, y], _ => exact ⟨x, y, rfl⟩
        obtain ⟨a, b, rfl⟩ : ∃ a b, xs = [a, b] := by
          clear hxe hl
          match xs, hxl with
          | [a, b], _ => exact ⟨a, b, rfl⟩
        have h1 := hxe 0 (by simp) (by simp)
        have h3 := hxe 1 (by simp) (by simp)
        simp only [List.getElem_cons_zero, List.getElem_cons_succ] at h1 h3
        have hf := cmp_fit (ls := ls) (opd_facts hcol h1) (opd_facts hcol h3)
        simp [nodeS, accB, resK, hf]
        try (split <;> rfl)
      case inr.inr.inr.inr.inr.inl =>
        obtain ⟨hxl, hxe⟩ := hlk xs hl
        have h2 : kids.length = 2 := by have : kidsK 11 = 2 := rfl; omega
        obtain ⟨x, y, rfl⟩ : ∃ x y, kids = [x, y] := by
          clear hxe hxl hl ih hlk hk
          match kids, h2 with
          | [x, y], _ => exact ⟨x, y, rfl⟩
        obtain ⟨a, b, rfl⟩ : ∃ a b, xs = [a, b] := by
          clear hxe hl
          match xs, hxl with
          | [a, b], _ => exact ⟨a, b, rfl⟩
        have h1 := hxe 0 (by simp) (by simp)
        have h3 := hxe 1 (by simp) (by simp)
        simp only [List.getElem_cons_zero, List.getElem_cons_succ] at h1 h3
        have hf := cmp_fit (ls := ls) (opd_facts hcol h1) (opd_facts hcol h3)
        simp [nodeS, accB, resK, hf]
        try (split <;> rfl)
      all_goals
        simp [nodeS, accB, resK, allS_map]
        first | done | rfl | (split <;> rfl) | skip

theorem opdL_get {col : ByteArray → Option Opd} {ls : List Lb} : ∀ {l : List Ex} {xs : List Opd}, opdL col ls l = some xs → xs.length = l.length ∧ ∀ (i : Nat) (h : i < l.length) (h' : i < xs.length), opdE col ls l[i] = some xs[i]
  | [], xs, h => by
    simp only [opdL, Option.some.injEq] at h
    subst h
    exact ⟨rfl, fun i h => by simp at h⟩
  | e :: r, xs, h => by
    rw [opdL] at h
    cases he : opdE col ls e with
    | none => rw [he] at h; cases h
    | some o =>
      rw [he] at h
      simp only at h
      cases hr : opdL col ls r with
      | none => rw [hr] at h; cases h
      | some ys =>
        rw [hr] at h
        simp only [Option.some.injEq] at h
        subst h
        obtain ⟨h1, h2⟩ := opdL_get hr
        refine ⟨by simp [h1], fun i hi hi' => ?_⟩
        cases i with
        | zero => exact he
        | succ i => exact h2 i (by simpa using hi) (by simpa using hi')

mutual
theorem agree {col : ByteArray → Option Opd} {cf : ByteArray → Option So} {ls : List Lb} (hcf : ∀ s, cf s = (col s).map sortO) (hcol : colOk col) : (e : Ex) → shapeE e = true → srtE cf ls e = (opdE col ls e).map sortO
  | .mk k t n kids => by
    intro hs
    rw [shapeE, Bool.and_eq_true] at hs
    have h1 := hs.1
    unfold node1 at h1
    simp only [Bool.and_eq_true, decide_eq_true_eq] at h1
    exact node_agree hcf hcol k t n kids h1.1.1 (agreeL hcf hcol kids hs.2) fun xs hx => opdL_get hx
theorem agreeL {col : ByteArray → Option Opd} {cf : ByteArray → Option So} {ls : List Lb} (hcf : ∀ s, cf s = (col s).map sortO) (hcol : colOk col) : (l : List Ex) → shapeL l = true → srtL cf ls l = (opdL col ls l).map (List.map sortO)
  | [] => fun _ => by simp [srtL, opdL]
  | e :: r => by
    intro hs
    rw [shapeL, Bool.and_eq_true] at hs
    rw [srtL, opdL, agree hcf hcol e hs.1, agreeL hcf hcol r hs.2]
    cases opdE col ls e with
    | none => rfl
    | some o =>
      simp only [Option.map_some]
      cases opdL col ls r with
      | none => rfl
      | some ys => rfl
end

mutual
theorem no_cols {ls : List Lb} : (e : Ex) → shapeE e = true → (opdE (fun _ => none) ls e).isSome = true → e.cols = []
  | .mk k t n kids => by
    intro hs ho
    rw [shapeE, Bool.and_eq_true] at hs
    have h1 := hs.1
    unfold node1 at h1
    simp only [Bool.and_eq_true, decide_eq_true_eq] at h1
    have hk := h1.1.1
    have hr := range_of hk
    rw [opdE] at ho
    rw [Ex.cols]
    by_cases h5 : k ≤ 5
    · have h0 : kids = [] := by
        have : kidsK k = 0 := by unfold kidsK; rw [if_neg (by omega), if_pos h5]
        exact List.eq_nil_of_length_eq_zero (by omega)
      subst h0
      by_cases hz : k = 0
      · subst hz; simp at ho
      · simp [own1, Ex.kind, hz, colsL]
    · have hz : k ≠ 0 := by omega
      cases hl : opdL (fun _ => none) ls kids with
      | none =>
        have e0 : (k == 0) = false := by simp; omega
        have e1 : (k == 1) = false := by simp; omega
        have e2 : (k == 2) = false := by simp; omega
        have e3 : (k == 3) = false := by simp; omega
        have e4 : (k == 4) = false := by simp; omega
        have e5 : (k == 5) = false := by simp; omega
        simp [e0, e1, e2, e3, e4, e5, hl] at ho
      | some xs => rw [no_colsL kids hs.2 (by rw [hl]; rfl)]; simp [own1, Ex.kind, hz]
theorem no_colsL {ls : List Lb} : (l : List Ex) → shapeL l = true → (opdL (fun _ => none) ls l).isSome = true → colsL l = []
  | [] => fun _ _ => by rw [colsL]
  | e :: r => by
    intro hs ho
    rw [shapeL, Bool.and_eq_true] at hs
    rw [opdL] at ho
    cases he : opdE (fun _ => none) ls e with
    | none => rw [he] at ho; cases ho
    | some o =>
      rw [he] at ho
      simp only at ho
      cases hl : opdL (fun _ => none) ls r with
      | none => rw [hl] at ho; cases ho
      | some xs => rw [colsL, no_cols e hs.1 (by rw [he]; rfl), no_colsL r hs.2 (by rw [hl]; rfl)]; rfl
end

theorem opd_plain {ls : List Lb} {e : Ex} {o : Opd} (h : opdE (fun _ => none) ls e = some o) : (∃ s, o = .text s) ∨ o = .plain 0 ∨ o = .plain 2 ∨ o = .plain 4 := by
  obtain ⟨k, t, n, kids⟩ := e
  rw [opdE] at h
  split at h
  · cases h
  · split at h
    · cases h; simp
    · split at h
      · cases h; exact .inl ⟨_, rfl⟩
      · split at h
        · cases h; simp
        · split at h
          · cases h; simp
          · cases hl : opdL (fun _ => none) ls kids with
            | none => rw [hl] at h; cases h
            | some xs =>
              rw [hl] at h
              simp only at h
              split at h
              · cases h
                unfold resK
                split
                · simp
                · simp
              · cases h

theorem gives_agree (ls : List Lb) (t : Ty) (e : Ex) : gvS ls t e = gvI ls t e := by
  have hcf : ∀ s, colF [] s = ((fun _ => none : ByteArray → Option Opd) s).map sortO := fun s => by simp [colF, findAt]
  have hcol : colOk (fun _ => none) := fun s o h => by cases h
  unfold gvS gvI sofS
  cases hok : (decide (e.nodes ≤ 40) && shapeE e) with
  | false => simp
  | true =>
    have hsh : shapeE e = true := by rw [Bool.and_eq_true] at hok; exact hok.2
    have hag := agree (ls := ls) hcf hcol e hsh
    cases ho : opdE (fun _ => none) ls e with
    | none =>
      rw [ho] at hag
      simp only [if_true, gvO]
      rw [hag]
      simp only [Option.map_none]
      split
      · simp
      · simp
    | some o =>
      have hnc := no_cols (ls := ls) e hsh (by rw [ho]; rfl)
      have huc : e.ucols = [] := by
        apply List.eq_nil_iff_forall_not_mem.2
        intro s hs
        have := ((ucols_facts e).2.1 s).1 hs
        rw [hnc] at this
        simp at this
      rw [ho] at hag
      simp only [if_true, gvO, huc, List.all_nil, hag, Option.map_some]
      rw [sortO_kind]
      have hfx := opd_facts hcol ho
      rcases opd_plain ho with ⟨s, rfl⟩ | rfl | rfl | rfl
      · obtain ⟨hk2, rfl⟩ := hfx.1 s rfl
        simp only [Opd.kind, gvK, stoB, stoT]
        by_cases k1 : t.kind = 1 <;> by_cases k3 : t.kind = 3 <;> by_cases k4 : t.kind = 4 <;> by_cases hl : (e.text.size : Int) ≤ t.len <;> simp [k1, k3, k4, hl, hk2]
      · simp [Opd.kind, gvK, stoB]
      · simp [Opd.kind, gvK, stoB]
      · simp [Opd.kind, gvK, stoB]

/-- The content of an enumeration. -/
def Lb.c0 (x : Lb) : Lab := ⟨x.name, x.list⟩

theorem labB_congr : ∀ {l1 l2 : List Lb}, l1.map Lb.c0 = l2.map Lb.c0 → ∀ n s, labB l1 n s = labB l2 n s
  | [], [], _, _, _ => rfl
  | [], _ :: _, h, _, _ => by simp at h
  | _ :: _, [], h, _, _ => by simp at h
  | x :: r, y :: q, h, n, s => by
    simp only [List.map_cons, List.cons.injEq, Lb.c0, Lab.mk.injEq] at h
    rw [labB, labB, h.1.1, h.1.2, labB_congr h.2]

theorem cmpB_congr {l1 l2 : List Lb} (h : ∀ n s, labB l1 n s = labB l2 n s) (x y : Opd) : cmpB l1 x y = cmpB l2 x y := by
  have hE : ∀ n z, cmpE l1 n z = cmpE l2 n z := fun n z => by cases z <;> simp [cmpE, h]
  unfold cmpB
  cases x <;> cases y <;> simp [hE]

theorem accB_congr {l1 l2 : List Lb} (h : ∀ n s, labB l1 n s = labB l2 n s) (k : Int) (xs : List Opd) : accB l1 k xs = accB l2 k xs := by
  have hc : cmpB l1 = cmpB l2 := by funext x y; exact cmpB_congr h x y
  unfold accB
  rw [hc]

mutual
theorem opdE_congr {col : ByteArray → Option Opd} {l1 l2 : List Lb} (h : ∀ n s, labB l1 n s = labB l2 n s) : (e : Ex) → opdE col l1 e = opdE col l2 e
  | .mk k t n kids => by
    rw [opdE, opdE, opdL_congr h kids]
    cases opdL col l2 kids with
    | none => rfl
    | some xs => simp only [accB_congr h k xs]
theorem opdL_congr {col : ByteArray → Option Opd} {l1 l2 : List Lb} (h : ∀ n s, labB l1 n s = labB l2 n s) : (l : List Ex) → opdL col l1 l = opdL col l2 l
  | [] => by rw [opdL, opdL]
  | e :: r => by rw [opdL, opdL, opdE_congr h e, opdL_congr h r]
end

theorem gvI_congr {l1 l2 : List Lb} (h : ∀ n s, labB l1 n s = labB l2 n s) (t : Ty) (e : Ex) : gvI l1 t e = gvI l2 t e := by
  unfold gvI
  rw [opdE_congr h e]
  cases opdE (fun _ => none) l2 e with
  | none => rfl
  | some o =>
    have : stoB l1 t.kind t.len t.name o = stoB l2 t.kind t.len t.name o := by cases o <;> simp [stoB, stoT, h]
    simp only [gvO, this]

theorem Sl.lbs {w : World} {a : Option Addr} {c : Nat} {xs : List Lab} (h : Sl 2 RLab 0 w a c xs) : ∃ ls : List Lb, ls.map Lb.c0 = xs ∧ Lbs w a c ls := by
  have hp : ∀ (i : Nat) (hi : i < xs.length), ∃ x : Lb, x.c0 = xs[i] ∧ ∀ b off, a = some ⟨b, off, none⟩ → LbAt w b (off + i * 2) x := by
    intro i hi
    obtain ⟨b, off, vs, ha, hb, hcs, hR⟩ := h.spot hi
    obtain ⟨a0, c0, rfl, hf, hs⟩ := hR
    refine ⟨⟨xs[i].name, xs[i].list, a0, c0⟩, rfl, fun b' off' ha' => ?_⟩
    rw [ha] at ha'
    cases ha'
    exact ⟨hcs 0 (by simp), hcs 1 (by simp), hf, hs.1⟩
  obtain ⟨ls, hl, hls⟩ : ∃ ls : List Lb, ls.length = xs.length ∧ ∀ (i : Nat) (h1 : i < ls.length) (h2 : i < xs.length), ls[i].c0 = xs[i] ∧ ∀ b off, a = some ⟨b, off, none⟩ → LbAt w b (off + i * 2) ls[i] := by
    suffices H : ∀ z, z ≤ xs.length → ∃ ls : List Lb, ls.length = z ∧ ∀ (i : Nat) (h1 : i < ls.length) (h2 : i < xs.length), ls[i].c0 = xs[i] ∧ ∀ b off, a = some ⟨b, off, none⟩ → LbAt w b (off + i * 2) ls[i] from H _ (Nat.le_refl _)
    intro z
    induction z with
    | zero => exact fun _ => ⟨[], rfl, fun i h => by simp at h⟩
    | succ z ih =>
      intro hz
      obtain ⟨ls, hl, hls⟩ := ih (by omega)
      obtain ⟨x, hx⟩ := hp z (by omega)
      refine ⟨ls ++ [x], by simp [hl], fun i h1 h2 => ?_⟩
      by_cases hi : i < ls.length
      · rw [List.getElem_append_left hi]; exact hls i hi h2
      · have : i = z := by simp at h1; omega
        subst this
        rw [List.getElem_append_right (by omega)]
        simpa [hl] using hx
  refine ⟨ls, ?_, ?_⟩
  · apply List.ext_getElem
    · simp [hl]
    · intro i h1 h2
      rw [List.getElem_map]
      exact (hls i (by simpa using h1) h2).1
  · obtain ⟨h1, h2, h3, h4⟩ := h
    refine ⟨by omega, h2, h3, fun hpos => ?_⟩
    obtain ⟨b, off, ha, _, hb, _⟩ := h4 (by omega)
    exact ⟨b, off, ha, hb, fun i hi => (hls i hi (by omega)).2 b off ha⟩

end Go.Proofs.YthebkfanpnbanaaDoor
