/- impl.ExprOk: the walk over the nodes leaves by a panic where one is not right. -/
/- impl.ParseExpr reads what parseI says. -/
/- impl.Quote answers the text between quotes, each of its quotes doubled. -/
/- impl.PutName. -/
/- spec.l04Binds, spec.l04Sign. -/
/- spec.PutName. -/
import Derived.Test.YtgnillmhpockkaaGreatDoorMExprN
import Derived.Test.YtgnillmhpockkaaGreatDoorMExWalk
import Derived.Test.YtgnillmhpockkaaGreatDoorMRdr7
import Derived.Defers
import Derived.Recover
import Derived.Test.YtgnillmhpockkaaGreatDoorMLexImplA
import Derived.Test.YtgnillmhpockkaaGreatDoorMBytes1
import Derived.Test.YtgnillmhpockkaaGreatDoorMLexImpl5
import Derived.Test.YtgnillmhpockkaaGreatDoorMShelf
import Derived.Test.YtgnillmhpockkaaGreatDoorMMem
import Derived.Test.YtgnillmhpockkaaGreatDoorMDecImpl
namespace Go.Proofs.YtgnillmhpockkaaGreatDoor
open Go.RowKit

def chkE (e : Ex) : Bool := node1 e.kind e.text e.num e.kids.length

theorem all_shape : ∀ e : Ex, e.all chkE = shapeE e := by
  intro e
  induction hn : e.nodes using Nat.strongRecOn generalizing e with
  | ind n ih =>
    have key : ∀ l : List Ex, nodesL l < n → allL chkE l = shapeL l := by
      intro l
      induction l with
      | nil => intro _; rfl
      | cons x r ihl =>
        intro h
        rw [nodesL] at h
        rw [allL, shapeL, ih x.nodes (by omega) x rfl, ihl (by omega)]
    have hne := Ex.nodes_eq e
    obtain ⟨k, t, m, kids⟩ := e
    change (Ex.mk k t m kids).nodes = 1 + nodesL kids at hne
    have hkk := key kids (by omega)
    rw [Ex.all_eq, shapeE]
    show (node1 k t m kids.length && allL chkE kids) = _
    rw [hkk]

def noExpr : ByteArray := ⟨#[110, 111, 116, 32, 97, 110, 32, 101, 120, 112, 114, 101, 115, 115, 105, 111, 110]⟩
def noPanic : List PanicEntry := [{ v := .iface 9 (.string noExpr), recovered := false }]

set_option maxHeartbeats 1000000 in
theorem countCall (wb : Nat) (e : Ex) (a : Option Addr) (c m : Nat) (w : World) (hc : w.cell? ⟨wb, 0, none⟩ = some (.int .i64 m)) (hz : w.frozen? ⟨wb, 0, none⟩ = false) (hm : m ≤ 1073741824) :
    Calls Tryz.prog 87 #[.pointer (some ⟨wb, 0, none⟩), .agg #[.int .i64 e.kind, .string e.text, .int .i64 e.num, .slice a e.kids.length c]] w fun x w' =>
      x = .returned (.tuple #[]) ∧ w.grownBy w' (some wb) ∧ w'.cell? ⟨wb, 0, none⟩ = some (.int .i64 (m + 1 : Nat)) ∧ w'.frozen? ⟨wb, 0, none⟩ = false := by
  have hlt := World.block_lt_of_cell? w ⟨wb, 0, none⟩ hc
  have H := Lib.hid (count_grown hc hz)
  go_enter Tryz.func87, Tryz.ntmps87
  go_wp2_with fail
  refine bodyPost_end (results_none rfl _ _ _) rfl ?_
  obtain ⟨h1, h2, h3⟩ := H.out _ (by go_num) rfl
  exact ⟨rfl, h1, h2, h3⟩

theorem FormsAt.grown {w w' : World} {wb : Nat} (h : FormsAt w) (hg : w.grownBy w' (some wb)) (hne : wb ≠ 0) : FormsAt w' := by
  refine ⟨Nat.lt_of_lt_of_le h.1 hg.size, fun i hi => ?_⟩
  obtain ⟨h0, h1, h2, h3⟩ := h.2 i hi
  have e := cell_grown hg h.1 (fun h => hne (Option.some.inj h))
  exact ⟨(e _).trans h0, (e _).trans h1, (e _).trans h2, (e _).trans h3⟩

set_option maxRecDepth 100000 in
set_option maxHeartbeats 2000000 in
theorem checkSees (wb : Nat) (hwb : wb ≠ 0) : Sees FormsAt 54 wb chkE 40 noPanic := by
  intro e a c d m w hFw hfit hk hc hz hm
  have hlt := World.block_lt_of_cell? w ⟨wb, 0, none⟩ hc
  have hl := hk.len
  have hts := hfit.1
  have hg0 := fun o => grownBy_alloc w o (some wb)
  have HBX := Lib.hid (fun T => boxK_new w e.kind e.text e.num a e.kids.length c T)
  have HF := Lib.hid hFw
  clear hk hfit hFw
  have HC : Hid (∀ o, (w.alloc o).cell? ⟨wb, 0, none⟩ = some (.int .i64 m) ∧ (w.alloc o).frozen? ⟨wb, 0, none⟩ = false) := fun o =>
    ⟨((grownBy_alloc w o none).cell_far ⟨wb, 0, none⟩ hlt (by simp)).trans hc, ((grownBy_alloc w o none).frozen_far ⟨wb, 0, none⟩ hlt (by simp)).trans hz⟩
  go_enter Tryz.func54, Tryz.ntmps54
  go_wp2_with fail
  refine (countCall wb e a c m _ (HC.out _).1 (HC.out _).2 hm).mono ?_
  rintro x w2 ⟨rfl, hg2, hc2, hz2⟩
  have BX : BoxK w e.kind e.text e.num a e.kids.length c w2 ∨ True := .inr trivial
  have hcells : w2.cell? ⟨w.heap.size, 0, none⟩ = some (.int .i64 e.kind) ∧ w2.cell? ⟨w.heap.size, 1, none⟩ = some (.string e.text) ∧ w2.cell? ⟨w.heap.size, 2, none⟩ = some (.int .i64 e.num) ∧ w2.cell? ⟨w.heap.size, 3, none⟩ = some (.slice a e.kids.length c) := by
    obtain ⟨q0, q1, q2, q3, q4, _⟩ := HBX.out 32
    have e' := cell_grown hg2 q0 (fun h => by have := Option.some.inj h; omega)
    exact ⟨(e' _).trans q1, (e' _).trans q2, (e' _).trans q3, (e' _).trans q4⟩
  obtain ⟨b0, b1, b2, b3⟩ := hcells
  have HG2 := Lib.hid ((hg0 _).trans hg2)
  have HF2 := Lib.hid ((HF.out.grown (hg0 (.cells #[.int .i64 e.kind, .string e.text, .int .i64 e.num, .slice a e.kids.length c] 32)) hwb).grown hg2 hwb)
  clear hg2 BX hg0
  by_cases h40 : m + 1 ≤ 40
  · have hd : decide (40 < ((m + 1 : Nat) : Int)) = false := by simp; omega
    have hd2 : decide (m + 1 ≤ 40) = true := decide_eq_true h40
    cases hck : chkE e with
    | true =>
      have HCK := Lib.hid (show node1 e.kind e.text e.num e.kids.length = true from hck)
      clear hck
      go_wp2_with fail
      refine (implNodeOk e.kind e.text e.num a e.kids.length c _ HF2.out hts hl true HCK.out).mono ?_
      rintro x w3 ⟨rfl, hb3⟩
      have HB3 := Lib.hid hb3
      clear hb3
      go_wp2_with fail
      refine bodyPost_end (results_none rfl _ _ _) rfl ?_
      have hlt2 : wb < w2.heap.size := Nat.lt_of_lt_of_le hlt HG2.out.size
      have hb3 := HB3.out
      exact ⟨HG2.out.trans ⟨hb3.os, hb3.tape, hb3.output, hb3.size, fun k hk _ => hb3.block k hk⟩, (hb3.cell (p := ⟨wb, 0, none⟩) hlt2).trans hc2, (hb3.frozen (p := ⟨wb, 0, none⟩) hlt2).trans hz2, by rw [show chkE e = true from HCK.out]; first | rfl | (rw [hd2]; rfl)⟩
    | false =>
      have HCK := Lib.hid (show node1 e.kind e.text e.num e.kids.length = false from hck)
      clear hck
      go_wp2_with fail
      refine (implNodeOk e.kind e.text e.num a e.kids.length c _ HF2.out hts hl false HCK.out).mono ?_
      rintro x w3 ⟨rfl, hb3⟩
      have HB3 := Lib.hid hb3
      clear hb3
      go_wp2_with fail
      have hlt2 : wb < w2.heap.size := Nat.lt_of_lt_of_le hlt HG2.out.size
      have hb3 := HB3.out
      exact ⟨rfl, HG2.out.trans ⟨hb3.os, hb3.tape, hb3.output, hb3.size, fun k hk _ => hb3.block k hk⟩, (hb3.cell (p := ⟨wb, 0, none⟩) hlt2).trans hc2, (hb3.frozen (p := ⟨wb, 0, none⟩) hlt2).trans hz2, by rw [show chkE e = false from HCK.out]; rfl⟩
  · have hd : decide (40 < ((m + 1 : Nat) : Int)) = true := by simp; omega
    have hd2 : decide (m + 1 ≤ 40) = false := decide_eq_false h40
    go_wp2_with fail
    exact ⟨rfl, HG2.out, hc2, hz2, by first | rfl | (rw [hd2, Bool.and_false]; rfl)⟩

theorem catchP (p : Addr) (x : Bool) (u : TypeId) (pv : Value) (older : List PanicEntry) (w : World) (hc : w.cell? p = some (.bool x)) (hz : w.frozen? p = false) :
    CallsD Tryz.prog 52 #[.pointer (some p)] (.panicking ({ v := .iface u pv, recovered := false } :: older)) w fun e u' w' =>
      e = .returned (.tuple #[]) ∧ u' = .panicking ({ v := .iface u pv, recovered := true } :: older) ∧ w' = w.setCell p (.bool false) := by
  refine callsD_of_wpS Tryz.func52 rfl fun c₀ cs hu => ?_
  apply wpS_seq
  apply wpS_region
  simp [wpOpsS, go_sem, recoverD, hu, Tryz.ntmps52, Exit.thenS]
  refine wpS_cond (t := true) (by simp [Act.eval, Array.replicate]) ?_
  simp only [if_true]
  apply wpS_region
  simp [wpOpsS, go_sem, hc, hz, bodyPostS, results, Tryz.results52]

theorem catchI (p : Addr) (w : World) :
    CallsD Tryz.prog 52 #[.pointer (some p)] .returning w fun e u' w' => e = .returned (.tuple #[]) ∧ u' = .returning ∧ w' = w := by
  refine callsD_of_wpS Tryz.func52 rfl fun c₀ cs hu => ?_
  apply wpS_seq
  apply wpS_region
  simp [wpOpsS, go_sem, recoverD, hu, Tryz.ntmps52, Exit.thenS]
  refine wpS_cond (t := false) (by simp [Act.eval, Array.replicate]) ?_
  simp only [Bool.false_eq_true, if_false]
  refine wpS_of_wp (wp_skip ?_)
  cases c₀
  simp_all [bodyPostS, results, Tryz.results52]

set_option maxRecDepth 100000 in
set_option maxHeartbeats 2000000 in
theorem implExprOk (e : Ex) (a : Option Addr) (c d : Nat) (w : World) (hF : FormsAt w) (hfit : e.fit) (hk : KidsAt w d a c e.kids) (hn : e.nodes ≤ 1073741824) (v : Bool) (hv : (decide (e.nodes ≤ 40) && shapeE e) = v) :
    Calls Tryz.prog 19 #[.agg #[.int .i64 e.kind, .string e.text, .int .i64 e.num, .slice a e.kids.length c]] w fun x w' => x = .returned (.bool v) ∧ Below w.heap.size w w' := by
  have hmf : ∀ (fn : Fn) (first cap : Array Value) (w : World), (Instr.makeFunc fn first cap).run Tryz.prog w = .ok (.func fn first cap) w := fun _ _ _ _ => rfl
  have hGlt := hF.1
  have HB : Hid (∀ o1 o2 o3 W, W = ((w.alloc o1).alloc o2).alloc o3 → Below w.heap.size w W) := by
    intro o1 o2 o3 W hW
    subst hW; exact (((Below.refl _ _).alloc (Nat.le_refl _) _).alloc (by simp) _).alloc (by simp; omega) _
  have HK : Hid (∀ o1 o2 o3 W, W = ((w.alloc o1).alloc o2).alloc o3 → KidsQ (fun b => b ≠ w.heap.size + 2) W d a c e.kids ∧ FormsAt W) := by
    intro o1 o2 o3 W hW
    have hb := HB.out o1 o2 o3 W hW
    exact ⟨(hk.q.agree hb.size fun b h _ o => hb.cell (p := ⟨b, o, none⟩) h).imp fun b h _ => by omega, hF.below hb hGlt⟩
  have HV : Hid ((e.all chkE && decide (0 + e.nodes ≤ 40)) = v) := by unfold Hid; rw [all_shape, Nat.zero_add, Bool.and_comm]; exact hv
  clear hk hF hv
  go_enter_defers Tryz.func19, Tryz.ntmps19
  go_wp2_with fail
  refine (eachCheck (checkSees (w.heap.size + 2) (by omega)) e a c d 0 _ (fun w' hg => (HK.out _ _ _ _ rfl).2.grown hg (by omega)) hfit (HK.out _ _ _ _ rfl).1 (by simp) (by simp [go_sem]) (by simp [go_sem]) (by omega)).mono ?_
  rintro x w2 ⟨hg, rfl, _⟩
  rw [HV.out]
  have hbox : w2.cell? ⟨w.heap.size + 1, 0, none⟩ = some (.bool false) ∧ w2.frozen? ⟨w.heap.size + 1, 0, none⟩ = false := by
    refine ⟨(cell_grown hg (b := w.heap.size + 1) (by simp) (fun h => by have := Option.some.inj h; omega) 0).trans (by simp [go_sem]), (hg.frozen_far ⟨w.heap.size + 1, 0, none⟩ (by simp) (fun h => by have := Option.some.inj h; simp only at this; omega)).trans (by simp [go_sem])⟩
  obtain ⟨hbx, hbz⟩ := hbox
  have HB2 : Hid (Below w.heap.size w w2) := by
    refine Below.trans (HB.out _ _ _ _ rfl) ⟨hg.os, hg.tape, hg.output, hg.size, fun k hk => hg.block k ?_ ?_⟩
    · simp; omega
    · intro h; have := Option.some.inj h; omega
  clear hg
  cases v with
  | true =>
    simp only [SeeX, if_true]
    go_wp2_with fail
    refine leaves_cons (f := 52) (args := #[.pointer (some ⟨w.heap.size + 1, 0, none⟩)]) (by simp) (by simp [go_sem]) ?_
    refine (catchI ⟨w.heap.size + 1, 0, none⟩ _).mono ?_
    rintro e u' w'' ⟨rfl, rfl, rfl⟩
    simp [Leaves, settle, results, Tryz.results19, go_sem, hbx]
    exact HB2.out.setCell (p := ⟨w.heap.size + 1, 0, none⟩) (by simp) _
  | false =>
    simp only [SeeX, Bool.false_eq_true, if_false, noPanic]
    go_wp2_with fail
    refine leaves_cons (f := 52) (args := #[.pointer (some ⟨w.heap.size + 1, 0, none⟩)]) (by simp) (by simp [go_sem]) ?_
    refine (catchP ⟨w.heap.size + 1, 0, none⟩ false 9 _ [] _ hbx hbz).mono ?_
    rintro e u' w'' ⟨rfl, rfl, rfl⟩
    simp [Leaves, settle, results, Tryz.results19, go_sem, hbx]
    exact HB2.out.setCell (p := ⟨w.heap.size + 1, 0, none⟩) (by simp) _

end Go.Proofs.YtgnillmhpockkaaGreatDoor

namespace Go.Proofs.YtgnillmhpockkaaGreatDoor
open Go.RowKit

/-- How ParseExpr answers. -/
def ParseR (w : World) (ans : Option (Ex × Nat)) (x : Ending) (w' : World) : Prop :=
  match ans with
  | some (e, m) => ∃ a c, x = .returned (.tuple #[.agg #[.int .i64 e.kind, .string e.text, .int .i64 e.num, .slice a e.kids.length c], .int .i64 (m : Int)]) ∧ TrQ w' (fun b => w.heap.size ≤ b) e a c ∧ Below w.heap.size w w'
  | none => x = .returned (.tuple #[.agg #[.int .i64 0, .string ⟨#[]⟩, .int .i64 0, .slice none 0 0], .int .i64 (-1)]) ∧ Below w.heap.size w w'

theorem ParseR.no {w W : World} {v0 v1 v2 v3 : Value} (hb : Below w.heap.size w W) {W' : World} (hW : W' = (((W.setCell ⟨w.heap.size, 0, none⟩ v0).setCell ⟨w.heap.size, 1, none⟩ v1).setCell ⟨w.heap.size, 2, none⟩ v2).setCell ⟨w.heap.size, 3, none⟩ v3) :
    ParseR w none (.returned (.tuple #[.agg #[.int .i64 0, .string ⟨#[]⟩, .int .i64 0, .slice none 0 0], .int .i64 (-1)])) W' := by
  subst hW
  exact ⟨rfl, (((hb.setCell (p := ⟨w.heap.size, 0, none⟩) (Nat.le_refl _) v0).setCell (p := ⟨w.heap.size, 1, none⟩) (Nat.le_refl _) v1).setCell (p := ⟨w.heap.size, 2, none⟩) (Nat.le_refl _) v2).setCell (p := ⟨w.heap.size, 3, none⟩) (Nat.le_refl _) v3⟩

theorem ParseR.yes {w W1 W : World} {e : Ex} {m : Nat} {a : Option Addr} {c : Nat} (ht : TrQ W (fun b => W1.heap.size ≤ b) e a c) (hw : w.heap.size < W1.heap.size) (hb : Below w.heap.size w W) {v0 v1 v2 v3 : Value} {W' : World} (hW : W' = (((W.setCell ⟨w.heap.size, 0, none⟩ v0).setCell ⟨w.heap.size, 1, none⟩ v1).setCell ⟨w.heap.size, 2, none⟩ v2).setCell ⟨w.heap.size, 3, none⟩ v3) :
    ParseR w (some (e, m)) (.returned (.tuple #[.agg #[.int .i64 e.kind, .string e.text, .int .i64 e.num, .slice a e.kids.length c], .int .i64 (m : Int)])) W' := by
  subst hW
  have hq : ¬ W1.heap.size ≤ w.heap.size := by omega
  refine ⟨a, c, rfl, ((((ht.set hq 0 v0).set hq 1 v1).set hq 2 v2).set hq 3 v3).imp fun b hb _ => by omega, ?_⟩
  exact (((hb.setCell (p := ⟨w.heap.size, 0, none⟩) (Nat.le_refl _) v0).setCell (p := ⟨w.heap.size, 1, none⟩) (Nat.le_refl _) v1).setCell (p := ⟨w.heap.size, 2, none⟩) (Nat.le_refl _) v2).setCell (p := ⟨w.heap.size, 3, none⟩) (Nat.le_refl _) v3

set_option maxRecDepth 100000 in
set_option maxHeartbeats 4000000 in
theorem implParse (tp : TypeId) (p : Value) (a : Option Addr) (c : Nat) (l : List Tk) (at_ : Int) (w : World) (hG : RG tp p w) (ht : Toks w a c l) (hl : l.length ≤ 1000000) (hi : i64E at_) :
    Calls Tryz.prog 15 #[.slice a l.length c, .int .i64 at_] w (ParseR w (parseI l at_)) := by
  have hi' := hi
  unfold i64E at hi'
  have HB0 := Lib.hid (show Below w.heap.size w (w.alloc (.cells #[.int .i64 0, .string ⟨#[]⟩, .int .i64 0, .slice none 0 0] 32)) from (Below.refl _ _).alloc (Nat.le_refl _) _)
  by_cases h0 : 20000 < l.length ∨ at_ < 0 ∨ (l.length : Int) ≤ at_
  · have HP : Hid (parseI l at_ = none) := by unfold Hid parseI; rw [if_pos h0]
    rw [HP.out]
    have h0' : Hid ((20000 : Int) < (l.length : Int) ∨ at_ < 0 ∨ (l.length : Int) ≤ at_) := by
      unfold Hid
      rcases h0 with h | h | h
      · left; omega
      · right; left; exact h
      · right; right; exact h
    clear h0 ht hG
    by_cases h1 : (20000 : Int) < (l.length : Int)
    · go_enter Tryz.func15, Tryz.ntmps15
      go_wp2_with fail
      refine bodyPost_ret (v := .tuple #[.agg #[.int .i64 0, .string ⟨#[]⟩, .int .i64 0, .slice none 0 0], .int .i64 (-1)]) (by simp [results, Tryz.results15, go_sem]) rfl ?_
      exact ⟨rfl, HB0.out⟩
    · by_cases h2 : at_ < 0
      · go_enter Tryz.func15, Tryz.ntmps15
        go_wp2_with fail
        refine bodyPost_ret (v := .tuple #[.agg #[.int .i64 0, .string ⟨#[]⟩, .int .i64 0, .slice none 0 0], .int .i64 (-1)]) (by simp [results, Tryz.results15, go_sem]) rfl ?_
        exact ⟨rfl, HB0.out⟩
      · have h3 : (l.length : Int) ≤ at_ := by rcases h0'.out with h | h | h <;> first | exact absurd h (by assumption) | exact h
        go_enter Tryz.func15, Tryz.ntmps15
        go_wp2_with fail
        refine bodyPost_ret (v := .tuple #[.agg #[.int .i64 0, .string ⟨#[]⟩, .int .i64 0, .slice none 0 0], .int .i64 (-1)]) (by simp [results, Tryz.results15, go_sem]) rfl ?_
        exact ⟨rfl, HB0.out⟩
  · obtain ⟨i, rfl⟩ : ∃ i : Nat, at_ = (i : Int) := ⟨at_.toNat, by omega⟩
    have hlt : i < l.length := by omega
    have HP : Hid (parseI l (i : Int) = match exprI (3 * l.length + 3) 1 (left l i) with | some (e, _, r) => if (decide (e.nodes ≤ 40) && shapeE e) = true then some (e, l.length - r.length) else none | none => none) := by
      unfold Hid parseI
      rw [if_neg h0, show (i : Int).toNat = i by omega]
      cases exprI (3 * l.length + 3) 1 (left l i) with
      | none => rfl
      | some q => rfl
    have h1 : ¬ (20000 : Int) < (l.length : Int) := by omega
    have h2 : ¬ (i : Int) < 0 := by omega
    have h3 : ¬ (l.length : Int) ≤ (i : Int) := by omega
    have HB1 := Lib.hid (show Below w.heap.size w ((w.alloc (.cells #[.int .i64 0, .string ⟨#[]⟩, .int .i64 0, .slice none 0 0] 32)).alloc (.cells #[.slice a l.length c, .int .i64 (i : Int)] 65)) from HB0.out.alloc HB0.out.size _)
    have HR1 := Lib.hid (show ExRow ((w.alloc (.cells #[.int .i64 0, .string ⟨#[]⟩, .int .i64 0, .slice none 0 0] 32)).alloc (.cells #[.slice a l.length c, .int .i64 (i : Int)] 65)) w.heap.size 0 ⟨#[]⟩ 0 (.slice none 0 0) from (exRow_new w _ _ _ _).alloc _)
    have HZ1 : Hid (((w.alloc (.cells #[.int .i64 0, .string ⟨#[]⟩, .int .i64 0, .slice none 0 0] 32)).alloc (.cells #[.slice a l.length c, .int .i64 (i : Int)] 65)).heap.size = w.heap.size + 2) := by unfold Hid; simp
    have HD1 : Hid (Rdy tp p ((w.alloc (.cells #[.int .i64 0, .string ⟨#[]⟩, .int .i64 0, .slice none 0 0] 32)).alloc (.cells #[.slice a l.length c, .int .i64 (i : Int)] 65)) (w.heap.size + 1) a c l i) := by
      obtain ⟨b, off, hab, hbl, _⟩ := ht.spot hlt
      refine ⟨⟨?_, ht.below HB1.out, fun b' off' h' => ?_, hl⟩, hG.below HB1.out hG.big, by have := hG.big; omega, by omega⟩
      · have := heap_alloc_new (w.alloc (.cells #[.int .i64 0, .string ⟨#[]⟩, .int .i64 0, .slice none 0 0] 32)) (.cells #[.slice a l.length c, .int .i64 (i : Int)] 65)
        rw [size_allocE] at this
        exact this
      · rw [hab] at h'
        cases h'
        omega
    have HNA := Lib.hid (fun e s r (h : exprI (3 * l.length + 3) 1 (left l i) = some (e, s, r)) => (nodes_all (3 * l.length + 3)).2.1 1 (left l i) e s r h)
    have HLL := Lib.hid (left_len l i)
    clear h0 ht hG HB0
    go_enter Tryz.func15, Tryz.ntmps15
    go_wp2_with fail
    generalize (w.alloc (.cells #[.int .i64 0, .string ⟨#[]⟩, .int .i64 0, .slice none 0 0] 32)).alloc (.cells #[.slice a l.length c, .int .i64 (i : Int)] 65) = W1 at HB1 HR1 HZ1 HD1 ⊢
    refine (rdAll tp p (w.heap.size + 1) a c l (3 * l.length + 3) 1 i W1 (Nat.le_refl _) (by omega) HD1.out (by have := HLL.out; unfold roomI; omega)).mono ?_
    intro x w1 hx
    unfold ReadR at hx
    cases hexp : exprI (3 * l.length + 3) 1 (left l i) with
    | none =>
      rw [hexp] at hx
      obtain ⟨v0, v1, v2, va, vn, vc, v4, m, rfl, hs⟩ := hx
      have HQ : Hid (parseI l (i : Int) = none) := by unfold Hid; rw [HP.out, hexp]
      have HR2 := Lib.hid ((HR1.out.kept hs.gr (fun e => by have := Option.some.inj e; omega)).alloc (.cells #[.int .i64 v0, .string v1, .int .i64 v2, .slice va vn vc, .int .i64 v4] 67))
      have HB2 := Lib.hid (show Below w.heap.size w (w1.alloc (.cells #[.int .i64 v0, .string v1, .int .i64 v2, .slice va vn vc, .int .i64 v4] 67)) from (HB1.out.grown hs.gr HB1.out.size (fun q hq => by cases hq; omega)).alloc (by have h1 := hs.gr.size; have h2 := HB1.out.size; omega) _)
      clear hs HP hexp
      obtain ⟨r0, r1, r2, r3, rf⟩ := HR2.out.cells
      go_wp2_with fail
      generalize w1.alloc (.cells #[.int .i64 v0, .string v1, .int .i64 v2, .slice va vn vc, .int .i64 v4] 67) = W2 at *
      go_wp2_with fail
      refine bodyPost_ret (v := .tuple #[.agg #[.int .i64 0, .string ⟨#[]⟩, .int .i64 0, .slice none 0 0], .int .i64 (-1)]) (by simp [results, Tryz.results15, go_sem, r0, r1, r2, r3]) rfl ?_
      rw [HQ.out]
      exact ParseR.no HB2.out rfl
    | some z =>
      obtain ⟨e, s, r⟩ := z
      rw [hexp] at hx
      obtain ⟨ea, ec, m, rfl, rfl, hm1, hm2, hs, htr⟩ := hx
      have hnodes : e.nodes ≤ 1073741824 := by have h1 := HNA.out _ _ _ hexp; have h2 := HLL.out; omega
      have HQ : Hid (parseI l (i : Int) = if (decide (e.nodes ≤ 40) && shapeE e) = true then some (e, m) else none) := by
        unfold Hid
        rw [HP.out, hexp]
        have h2 := left_len l m
        have h3 : l.length - (left l m).length = m := by omega
        simp only
        rw [h3]
      have hb2 : Below w1.heap.size w1 (w1.alloc (.cells #[.int .i64 e.kind, .string e.text, .int .i64 e.num, .slice ea e.kids.length ec, .int .i64 (s : Int)] 67)) := (Below.refl _ _).alloc (Nat.le_refl _) _
      have HR2 := Lib.hid ((HR1.out.kept hs.gr (fun e => by have := Option.some.inj e; omega)).below hb2)
      have HB2 := Lib.hid (show Below w.heap.size w (w1.alloc (.cells #[.int .i64 e.kind, .string e.text, .int .i64 e.num, .slice ea e.kids.length ec, .int .i64 (s : Int)] 67)) from (HB1.out.grown hs.gr HB1.out.size (fun q hq => by cases hq; omega)).alloc (by have h1 := hs.gr.size; have h2 := HB1.out.size; omega) _)
      have HS2 := Lib.hid (hs.below hb2)
      have HT2 := Lib.hid (htr.below hb2)
      have HX2 := Lib.hid (bx_new w1 e.kind e.text e.num (.slice ea e.kids.length ec) (s : Int))
      have HG2 := Lib.hid ((HD1.out.g.grown hs.gr HD1.out.hrb).below hb2 (by have h1 := hs.gr.size; have h2 := HD1.out.g.big; omega))
      have hz : w.heap.size + 1 < w1.heap.size := by have h1 := hs.gr.size; have h2 := HZ1.out; omega
      obtain ⟨b0, b1, b2, b3, b4, bf⟩ := HX2.out.cells
      obtain ⟨dk, hk⟩ := HT2.out.kids
      have HK := Lib.hid hk.at
      obtain ⟨v, hv⟩ : ∃ v, (decide (e.nodes ≤ 40) && shapeE e) = v := ⟨_, rfl⟩
      rw [hv] at HQ
      have HV := Lib.hid hv
      have HN := Lib.hid hnodes
      clear hs htr HP hexp hb2 hk hv hnodes
      go_wp2_with fail
      generalize w1.alloc (.cells #[.int .i64 e.kind, .string e.text, .int .i64 e.num, .slice ea e.kids.length ec, .int .i64 (s : Int)] 67) = W2 at *
      go_wp2_with fail
      refine (implExprOk e ea ec dk W2 HG2.out.forms HT2.out.fit HK.out HN.out v HV.out).mono ?_
      rintro x w3 ⟨rfl, hb3⟩
      have HR3 := Lib.hid (HR2.out.below hb3)
      have HB3 := Lib.hid (HB2.out.trans (hb3.mono HB2.out.size))
      have HX3 := Lib.hid (HX2.out.below hb3)
      have HS3 := Lib.hid (HS2.out.below hb3)
      have HT3 := Lib.hid (HT2.out.below hb3)
      clear b0 b1 b2 b3 b4 bf HK HR2 HX2 HS2 HT2 HG2
      obtain ⟨r0, r1, r2, r3, rf⟩ := HR3.out.cells
      obtain ⟨b0, b1, b2, b3, b4, bf⟩ := HX3.out.cells
      cases v with
      | false =>
        go_wp2_with fail
        refine bodyPost_ret (v := .tuple #[.agg #[.int .i64 0, .string ⟨#[]⟩, .int .i64 0, .slice none 0 0], .int .i64 (-1)]) (by simp [results, Tryz.results15, go_sem, r0, r1, r2, r3]) rfl ?_
        rw [HQ.out, if_neg (by decide)]
        exact ParseR.no HB3.out rfl
      | true =>
        have hsh : e.nodes ≤ 40 ∧ shapeE e = true := by have h := HV.out; rw [Bool.and_eq_true, decide_eq_true_eq] at h; exact h
        have hwt : e.wt ≤ 1048576 := by have h := shape_wt e hsh.2; omega
        have HSD := Lib.hid (HS3.out.below (below_drewE (Below.refl _ _)))
        have HRD := Lib.hid (HR3.out.below (below_drewE (Below.refl _ _)))
        have HTD := Lib.hid (HT3.out.below (below_drewE (Below.refl _ _)))
        have HBD := Lib.hid (below_drewE HB3.out)
        have HWT := Lib.hid hwt
        obtain ⟨_, q1, _⟩ := HSD.out.rd.cells
        have HC : Hid (∀ W, Below w3.drew.heap.size w3.drew W → W.cell? ⟨w.heap.size + 1, 1, none⟩ = some (.int .i64 (m : Int))) := fun W hb => ((HSD.out.below hb).rd.cells).2.1
        clear hsh hwt
        go_wp2_with fail
        go_region_with (go_at_call 47; refine (copyX _ e ea ec _ HTD.out.fit HWT.out (Exists.choose_spec HTD.out.kids).at).mono ?_; rintro x w4 ⟨a4, c4, rfl, ht4, hb4⟩; have y1 := HC.out _ hb4; have HR4 := Lib.hid (HRD.out.below hb4); obtain ⟨s0, s1, s2, s3, sf⟩ := HR4.out.cells; have HT4 := Lib.hid ht4; have HB4 := Lib.hid (HBD.out.trans (hb4.mono HBD.out.size)); clear ht4 hb4)
        all_goals
          go_wp2_with fail
          refine bodyPost_ret (v := .tuple #[.agg #[.int .i64 e.kind, .string e.text, .int .i64 e.num, .slice a4 e.kids.length c4], .int .i64 (m : Int)]) (by simp [results, Tryz.results15, go_sem, s0, s1, s2, s3]) rfl ?_
          rw [HQ.out, if_pos trivial]
          exact ParseR.yes HT4.out (by have := HRD.out.lt; exact this) HB4.out rfl

end Go.Proofs.YtgnillmhpockkaaGreatDoor

namespace Go.Proofs.YtgnillmhpockkaaGreatDoor
open Go.RowKit

set_option maxHeartbeats 2000000 in
theorem implQuote (s : ByteArray) (y : UInt8) (w : World) (hs : s.size ≤ 1048576) :
    Calls Tryz.prog 33 #[.string s, .int .u8 (y.toNat : Int)] w fun e w' => e = .returned (.string (quoteT s y)) ∧ Below w.heap.size w w' := by
  have hy := byte_le y
  go_enter Tryz.func33, Tryz.ntmps33
  go_wp2_with fail
  refine (writeByte w.heap.size none 0 [] y _ (Bld.new w) (by simp)).mono ?_
  rintro e w1 ⟨rfl, a1, c1, l1, hl1, hB1, hW1, _⟩
  have hb1 : Below w.heap.size w w1 := hW1.below (Bld.new w) ((Below.refl _ _).alloc (Nat.le_refl _) _) (Nat.le_refl _)
  obtain ⟨W, cap, hcv, hbW, hrW, hcap, hcell⟩ := convTextEx w1 s
  have hne1 : ∀ g, (Value.slice a1 l1.length c1).ownBlock = some g → g ≠ w1.heap.size := fun g hg => by have := (hB1.own.lt hg).2; omega
  have hltB := hB1.lt
  have HC := Lib.hid hcell
  have HL : Hid (l1 = y :: dbl y (s.data.toList.take 0)) := hl1
  have HN := Lib.hid hne1
  generalize hR : w1.heap.size = R at *
  have hBW := hB1.below (hR ▸ hbW)
  have hbw : Below w.heap.size w W := hb1.trans ((hR ▸ hbW : Below w1.heap.size w1 W).mono hb1.size)
  have HBW := Lib.hid hBW
  have HR := Lib.hid hR
  clear hl1 hB1 hW1 hb1 hcell hne1 hR hBW hbW
  go_wp2_with fail
  go_loopw [13] (fun i wr => ∃ (k : Nat) (a : Option Addr) (c : Nat) (l : List UInt8), k ≤ s.size ∧ i = .int .i64 k ∧ Hid (l = y :: dbl y (s.data.toList.take k)) ∧ Bld wr w.heap.size a c l ∧ Hid (wr.heap[R]? = W.heap[R]?) ∧ R < wr.heap.size ∧ Hid (∀ g, (Value.slice a l.length c).ownBlock = some g → g ≠ R) ∧ Below w.heap.size w wr) (fun i _ => s.size - (intOf i).toNat)
  case atStart => exact ⟨0, a1, c1, l1, Nat.zero_le _, rfl, HL, HBW.out, rfl, hrW, HN, hbw⟩
  case round =>
    obtain ⟨k, a, c, l, hk, rfl, hl, hB, hrow, hr, hne, hb⟩ := hrel
    have hlk : l.length ≤ 3000000 := by
      have h1 := dbl_len y (s.data.toList.take k)
      have h2 : (s.data.toList.take k).length ≤ k := List.length_take_le _ _
      rw [hl.out]
      simp only [List.length_cons]
      omega
    by_cases hlt : k < s.size
    · have hc : wr.cell? ⟨R, k, none⟩ = some (.int .u8 (s[k].toNat : Int)) := (World.cell?_of_block (w := W) (w' := wr) (a := ⟨R, k, none⟩) hrow.out).trans (HC.out k hlt)
      have hby := byte_le s[k]
      by_cases he : s[k] = y
      · have HS := Lib.hid (dbl_eq y s k hlt he)
        have ht := byte_eq he
        clear he
        go_wp2_with fail
        refine (writeByte w.heap.size a c l y _ hB (by omega)).mono ?_
        rintro e w2 ⟨rfl, a2, c2, l2, hl2, hB2, hW2, hn2⟩
        have hr2 : R < w2.heap.size := Nat.lt_of_lt_of_le hr hW2.size
        have hrow2 : Hid (w2.heap[R]? = W.heap[R]?) := (hW2.block R hr (by omega) (fun e => hne.out R e.symm rfl)).trans hrow.out
        have hne2 : Hid (∀ g, (Value.slice a2 l2.length c2).ownBlock = some g → g ≠ R) := fun g hg => by
          rcases hn2 g hg with h | h
          · exact hne.out g h
          · omega
        have hb2 := hW2.below hB hb (Nat.le_refl _)
        have hlk2 : l2.length ≤ 3000001 := by rw [hid_len hl2]; omega
        have HW2 := Lib.hid hW2
        have HN2 := Lib.hid hn2
        clear hW2 hn2
        go_wp2_with fail
        refine (writeByte w.heap.size a2 c2 l2 s[k] _ hB2 (by omega)).mono ?_
        rintro e w3 ⟨rfl, a3, c3, l3, hl3, hB3, hW3, hn3⟩
        have hr3 : R < w3.heap.size := Nat.lt_of_lt_of_le hr2 hW3.size
        have hrow3 : Hid (w3.heap[R]? = W.heap[R]?) := (hW3.block R hr2 (by omega) (fun e => hne2.out R e.symm rfl)).trans hrow2.out
        have hne3 : Hid (∀ g, (Value.slice a3 l3.length c3).ownBlock = some g → g ≠ R) := fun g hg => by
          rcases hn3 g hg with h | h
          · exact hne2.out g h
          · omega
        have hb3 := hW3.below hB2 hb2 (Nat.le_refl _)
        have HW3 := Lib.hid hW3
        have HN3 := Lib.hid hn3
        clear hW3 hn3
        go_wp2_with fail
        go_roundw
        case rel => exact ⟨k + 1, a3, c3, l3, by omega, by go_num, by unfold Hid; rw [hl3.out, hl2.out, hl.out, HS.out]; simp, hB3, hrow3, hr3, hne3, hb3⟩
        case measure => simp [intOf]; omega
      · have HS := Lib.hid (dbl_ne y s k hlt he)
        have ht := byte_ne he
        clear he
        go_wp2_with fail
        refine (writeByte w.heap.size a c l s[k] _ hB (by omega)).mono ?_
        rintro e w2 ⟨rfl, a2, c2, l2, hl2, hB2, hW2, hn2⟩
        have hr2 : R < w2.heap.size := Nat.lt_of_lt_of_le hr hW2.size
        have hrow2 : Hid (w2.heap[R]? = W.heap[R]?) := (hW2.block R hr (by omega) (fun e => hne.out R e.symm rfl)).trans hrow.out
        have hne2 : Hid (∀ g, (Value.slice a2 l2.length c2).ownBlock = some g → g ≠ R) := fun g hg => by
          rcases hn2 g hg with h | h
          · exact hne.out g h
          · omega
        have hb2 := hW2.below hB hb (Nat.le_refl _)
        have HW2 := Lib.hid hW2
        have HN2 := Lib.hid hn2
        clear hW2 hn2
        go_wp2_with fail
        go_roundw
        case rel => exact ⟨k + 1, a2, c2, l2, by omega, by go_num, by unfold Hid; rw [hl2.out, hl.out, HS.out]; simp, hB2, hrow2, hr2, hne2, hb2⟩
        case measure => simp [intOf]; omega
    · obtain rfl : k = s.size := by omega
      have HQ : Hid (quoteL y s.data.toList = l ++ [y]) := by
        unfold Hid
        rw [hl.out, List.take_of_length_le (by simp)]
        simp [quoteL, dbl]
      go_wp2_with fail
      refine (writeByte w.heap.size a c l y _ hB (by omega)).mono ?_
      rintro e w2 ⟨rfl, a2, c2, l2, hl2, hB2, hW2, hn2⟩
      have hb2 := hW2.below hB hb (Nat.le_refl _)
      have HW2 := Lib.hid hW2
      have HN2 := Lib.hid hn2
      clear hW2 hn2
      go_wp2_with fail
      refine (builderString w.heap.size a2 c2 l2 _ hB2).mono ?_
      rintro e w3 ⟨rfl, hb3⟩
      go_wp2_with fail
      go_ret
      exact ⟨by rw [quoteT, HQ.out, ← hl2.out]; rfl, hb2.trans hb3⟩

end Go.Proofs.YtgnillmhpockkaaGreatDoor

namespace Go.Proofs.YtgnillmhpockkaaGreatDoor
open Go.RowKit

set_option maxHeartbeats 2000000 in
theorem implPlain (s : ByteArray) (w : World) (hs : s.size ≤ 1048576) (v : Bool) (hv : plainB s.data.toList = v) :
    Calls Tryz.prog 30 #[.string s] w fun e w' => e = .returned (.bool v) ∧ Below w.heap.size w w' := by
  have HV := Lib.hid hv
  clear hv
  obtain ⟨W, cap, hcv, hbW, hrW, hcap, hcell⟩ := convTextEx w s
  have HC := Lib.hid hcell
  have HB := Lib.hid hbW
  clear hcell hbW hcap
  go_enter Tryz.func30, Tryz.ntmps30
  go_wp2_with fail
  go_loop [10] (fun i => ∃ k : Nat, k ≤ s.size ∧ i = .int .i64 k ∧ Hid (∀ (j : Nat) (hj : j < s.size), j < k → okB s[j] = true ∧ (j = 0 → digitB s[j] = false))) (fun i => s.size - (intOf i).toNat)
  case atStart => exact ⟨0, Nat.zero_le _, rfl, fun j _ h => by omega⟩
  case round =>
    obtain ⟨k, hk, rfl, hall⟩ := hrel
    by_cases hlt : k < s.size
    · have hc : W.cell? ⟨w.heap.size, k, none⟩ = some (.int .u8 (s[k].toNat : Int)) := HC.out k hlt
      have hby := byte_le s[k]
      have next : okB s[k] = true → (k = 0 → digitB s[k] = false) → Hid (∀ (j : Nat) (hj : j < s.size), j < k + 1 → okB s[j] = true ∧ (j = 0 → digitB s[j] = false)) := fun h1 h2 j hj hjk => by
        by_cases e : j = k
        · subst e; exact ⟨h1, h2⟩
        · exact hall.out j hj (by omega)
      have stop : okB s[k] = false ∨ (k = 0 ∧ digitB s[k] = true) → Hid (v = false) := fun h => by unfold Hid; rw [← HV.out]; exact plain_no s k hlt h
      have h0k : (0 : Int) ≤ (k : Int) := by omega
      have hkl : (k : Int) < (s.size : Int) := by omega
      by_cases a1 : s[k].toNat = 95
      · have HN := next (ok_of_small (.inl a1)).1 (fun _ => (ok_of_small (.inl a1)).2)
        have f1 : ((s[k].toNat : Int) == 95) = true := by simp [a1]
        have f2 : decide ((48 : Int) ≤ (s[k].toNat : Int)) = true := by simp; omega
        have f3 : decide ((s[k].toNat : Int) ≤ 57) = false := by simp; omega
        clear next stop a1
        go_wp2_with fail
        exact ⟨⟨k + 1, by omega, by go_num, HN⟩, by simp [intOf]; omega⟩
      · have f1 : ((s[k].toNat : Int) == 95) = false := by rw [beq_eq_false_iff_ne]; omega
        by_cases a2 : 97 ≤ s[k].toNat
        · have f2 : decide ((97 : Int) ≤ (s[k].toNat : Int)) = true := by simp; omega
          have f4 : decide ((48 : Int) ≤ (s[k].toNat : Int)) = true := by simp; omega
          have f5 : decide ((s[k].toNat : Int) ≤ 57) = false := by simp; omega
          by_cases a3 : s[k].toNat ≤ 122
          · have f3 : decide ((s[k].toNat : Int) ≤ 122) = true := by simp; omega
            have HN := next (ok_of_small (.inr ⟨a2, a3⟩)).1 (fun _ => (ok_of_small (.inr ⟨a2, a3⟩)).2)
            clear next stop a1 a2 a3
            go_wp2_with fail
            exact ⟨⟨k + 1, by omega, by go_num, HN⟩, by simp [intOf]; omega⟩
          · have f3 : decide ((s[k].toNat : Int) ≤ 122) = false := by simp; omega
            have HN := stop (.inl (ok_no a1 (by omega) (by omega)))
            clear next stop a1 a2 a3
            cases f6 : ((k : Int) == 0) with
            | true =>
              go_wp2_with fail
              go_ret
              exact ⟨by rw [HN.out]; rfl, HB.out⟩
            | false =>
              go_wp2_with fail
              go_ret
              exact ⟨by rw [HN.out]; rfl, HB.out⟩
        · have f2 : decide ((97 : Int) ≤ (s[k].toNat : Int)) = false := by simp; omega
          by_cases a3 : 48 ≤ s[k].toNat
          · have f3 : decide ((48 : Int) ≤ (s[k].toNat : Int)) = true := by simp; omega
            by_cases a4 : s[k].toNat ≤ 57
            · have f4 : decide ((s[k].toNat : Int) ≤ 57) = true := by simp; omega
              have hd := ok_of_digit ⟨a3, a4⟩
              cases f6 : ((k : Int) == 0) with
              | true =>
                have HN := stop (.inr ⟨by simpa using f6, hd.2⟩)
                clear next stop a1 a2 a3 a4 hd
                go_wp2_with fail
                go_ret
                exact ⟨by rw [HN.out]; rfl, HB.out⟩
              | false =>
                have HN := next hd.1 (fun e => by subst e; simp at f6)
                clear next stop a1 a2 a3 a4 hd
                go_wp2_with fail
                exact ⟨⟨k + 1, by omega, by go_num, HN⟩, by simp [intOf]; omega⟩
            · have f4 : decide ((s[k].toNat : Int) ≤ 57) = false := by simp; omega
              have HN := stop (.inl (ok_no a1 (by omega) (by omega)))
              clear next stop a1 a2 a3 a4
              cases f6 : ((k : Int) == 0) with
              | true =>
                go_wp2_with fail
                go_ret
                exact ⟨by rw [HN.out]; rfl, HB.out⟩
              | false =>
                go_wp2_with fail
                go_ret
                exact ⟨by rw [HN.out]; rfl, HB.out⟩
          · have f3 : decide ((48 : Int) ≤ (s[k].toNat : Int)) = false := by simp; omega
            have HN := stop (.inl (ok_no a1 (by omega) (by omega)))
            clear next stop a1 a2 a3
            cases f6 : ((k : Int) == 0) with
            | true =>
              go_wp2_with fail
              go_ret
              exact ⟨by rw [HN.out]; rfl, HB.out⟩
            | false =>
              go_wp2_with fail
              go_ret
              exact ⟨by rw [HN.out]; rfl, HB.out⟩
    · have HN : Hid (v = !s.toList.isEmpty) := by
        unfold Hid
        rw [← HV.out, Lib.toList_data]
        by_cases h0 : s.size = 0
        · rw [plain_empty s h0]
          have : s.data.toList = [] := List.length_eq_zero_iff.1 (by simpa using h0)
          rw [this]; rfl
        · rw [plain_yes s (by omega) (fun j hj => (hall.out j hj (by omega)).1) ((hall.out 0 (by omega) (by omega)).2 rfl)]
          have : s.data.toList.isEmpty = false := by
            rw [List.isEmpty_eq_false_iff]
            intro e
            have h2 : s.data.toList.length = 0 := by rw [e]; rfl
            have h3 : s.data.toList.length = s.size := by simp
            omega
          rw [this]; rfl
      go_wp2_with fail
      go_ret
      exact ⟨by rw [HN.out]; rfl, HB.out⟩

theorem stringsClone (s : ByteArray) (w : World) (hs : s.size ≤ 1048576) :
    Calls Tryz.prog 32 #[.string s] w fun e w' => e = .returned (.string s) ∧ Below w.heap.size w w' := by
  go_enter Tryz.func32, Tryz.ntmps32
  go_wp2_with fail
  refine (Tryz.stringslite_Clone s _ (by omega)).mono ?_
  rintro e w1 ⟨rfl, b1⟩
  go_wp2_with fail
  go_ret
  exact ⟨rfl, b1⟩

set_option maxHeartbeats 1000000 in
theorem implPutName (s : ByteArray) (w : World) (hs : s.size ≤ 1048576) (r : ByteArray) (hr : nameT s = r) :
    Calls Tryz.prog 10 #[.string s] w fun e w' => e = .returned (.string r) ∧ Below w.heap.size w w' := by
  unfold nameT at hr
  have hp := fun w => implPlain s w hs _ rfl
  have hk := fun w => implReserved s w (keptB s.data.toList) (by rw [Lib.toList_data])
  generalize plainB s.data.toList = p at hr hp
  generalize keptB s.data.toList = q at hr hk
  cases p with
  | false =>
    have HR : Hid (quoteT s 34 = r) := by unfold Hid; rw [← hr]; rfl
    clear hr
    go_enter Tryz.func10, Tryz.ntmps10
    go_wp2_with fail
    refine (hp _).mono ?_
    rintro e w1 ⟨rfl, b1⟩
    go_wp2_with fail
    refine (implQuote s 34 _ hs).mono ?_
    rintro e w2 ⟨rfl, b2⟩
    go_wp2_with fail
    go_ret
    exact ⟨by rw [← HR.out]; rfl, b1.trans (b2.mono b1.size)⟩
  | true =>
    cases q with
    | true =>
      have HR : Hid (quoteT s 34 = r) := by unfold Hid; rw [← hr]; rfl
      clear hr
      go_enter Tryz.func10, Tryz.ntmps10
      go_wp2_with fail
      refine (hp _).mono ?_
      rintro e w1 ⟨rfl, b1⟩
      go_wp2_with fail
      refine (hk _).mono ?_
      rintro e w1' ⟨rfl, rfl⟩
      go_wp2_with fail
      refine (implQuote s 34 _ hs).mono ?_
      rintro e w2 ⟨rfl, b2⟩
      go_wp2_with fail
      go_ret
      exact ⟨by rw [← HR.out]; rfl, b1.trans (b2.mono b1.size)⟩
    | false =>
      have HR : Hid (s = r) := by unfold Hid; rw [← hr]; rfl
      clear hr
      go_enter Tryz.func10, Tryz.ntmps10
      go_wp2_with fail
      refine (hp _).mono ?_
      rintro e w1 ⟨rfl, b1⟩
      go_wp2_with fail
      refine (hk _).mono ?_
      rintro e w1' ⟨rfl, rfl⟩
      go_wp2_with fail
      refine (stringsClone s _ hs).mono ?_
      rintro e w2 ⟨rfl, b2⟩
      go_wp2_with fail
      go_ret
      exact ⟨by rw [← HR.out]; rfl, b1.trans (b2.mono b1.size)⟩

end Go.Proofs.YtgnillmhpockkaaGreatDoor

namespace Go.Proofs.YtgnillmhpockkaaGreatDoor
open Go.RowKit

theorem kind_cases {k : Int} (h0 : 0 ≤ k) (h1 : k ≤ 18) : k = 0 ∨ k = 1 ∨ k = 2 ∨ k = 3 ∨ k = 4 ∨ k = 5 ∨ k = 6 ∨ k = 7 ∨ k = 8 ∨ k = 9 ∨ k = 10 ∨ k = 11 ∨ k = 12 ∨ k = 13 ∨ k = 14 ∨ k = 15 ∨ k = 16 ∨ k = 17 ∨ k = 18 := by omega

set_option maxHeartbeats 2000000 in
theorem specBinds (k : Int) (h0 : 0 ≤ k) (h1 : k ≤ 18) (w : World) : Calls Tryz.prog 85 #[.int .i64 k] w fun e w' => e = .returned (.int .i64 (bindsK k : Nat)) ∧ w' = w := by
  rcases kind_cases h0 h1 with rfl | rfl | rfl | rfl | rfl | rfl | rfl | rfl | rfl | rfl | rfl | rfl | rfl | rfl | rfl | rfl | rfl | rfl | rfl <;>
  · clear h0 h1
    go_enter Tryz.func85, Tryz.ntmps85
    go_wp2
    go_ret
    exact ⟨rfl, rfl⟩

set_option maxHeartbeats 2000000 in
theorem specSignE (k : Int) (h0 : 8 ≤ k) (h1 : k ≤ 18) (w : World) : Calls Tryz.prog 86 #[.int .i64 k] w fun e w' => e = .returned (.string (txt (signK k))) ∧ w' = w := by
  rcases kind_cases (show 0 ≤ k by omega) h1 with rfl | rfl | rfl | rfl | rfl | rfl | rfl | rfl | rfl | rfl | rfl | rfl | rfl | rfl | rfl | rfl | rfl | rfl | rfl <;> (try (exfalso; omega)) <;>
  · clear h0 h1
    go_enter Tryz.func86, Tryz.ntmps86
    go_wp2
    go_ret
    exact ⟨rfl, rfl⟩

end Go.Proofs.YtgnillmhpockkaaGreatDoor

namespace Go.Proofs.YtgnillmhpockkaaGreatDoor
open Go.RowKit

def keptL : List ByteArray := keptW.map fun l => ⟨l.toArray⟩

theorem has_kept (s : ByteArray) : hasB keptL s = keptB s.data.toList := by
  unfold hasB keptL keptB
  rw [List.any_map]
  congr 1
  funext x
  simp only [Function.comp]
  rw [beq_flip, Lib.toList_data, Lib.toList_data]

/-- A new row of texts that is laid in one go. -/
theorem rowLit (w : World) (xs : List ByteArray) (hs : ∀ s ∈ xs, s.size ≤ maxLen) (hn : xs.length ≤ 1000000) :
    Strs (w.alloc (.cells (xs.map Value.string).toArray 9)) (some ⟨w.heap.size, 0, none⟩) xs.length xs := by
  refine ⟨Nat.le_refl _, by unfold maxLen; omega, hs, (fun h => by cases h), fun _ => ⟨w.heap.size, 0, rfl, by simp, fun i hi => ?_⟩⟩
  rw [cell_of_row _ _ _ _ _ _ (heap_alloc_new w _)]
  simp [hi]

theorem keptL_small : ∀ s ∈ keptL, s.size ≤ 10 := by unfold keptL keptW; decide

set_option maxRecDepth 100000 in
set_option maxHeartbeats 1000000 in
theorem specKept (w : World) : Calls Tryz.prog 36 #[] w fun e w' => e = .returned (.slice (some ⟨w.heap.size, 0, none⟩) 39 39) ∧ Strs w' (some ⟨w.heap.size, 0, none⟩) 39 keptL ∧ Below w.heap.size w w' := by
  have hst := Lib.hid (rowLit w keptL (fun s hs => by have := keptL_small s hs; unfold maxLen; omega) (by decide))
  go_enter Tryz.func36, Tryz.ntmps36
  go_wp2_with fail
  go_ret
  exact ⟨rfl, hst.out, (Below.refl _ _).alloc (Nat.le_refl _) _⟩

theorem specHasKept (w : World) (a : Option Addr) (s : ByteArray) (h : Strs w a 39 keptL) (v : Bool) (hv : keptB s.data.toList = v) :
    Calls Tryz.prog 35 #[.slice a 39 39, .string s] w fun e w' => e = .returned (.bool v) ∧ Below w.heap.size w w' := by
  have := specHas a 39 keptL s w h
  rw [has_kept, hv] at this
  refine this.mono ?_
  rintro e w' ⟨he, n, rfl⟩
  exact ⟨he, below_drewN (Below.refl _ _) n⟩

theorem okB_eq (b : UInt8) : okB b = (moreB b && !inI (b.toNat : Int) 65 90) := by
  rw [Bool.eq_iff_iff]
  simp only [okB, smallB, moreB, letterB, digitB, inI, Bool.or_eq_true, Bool.and_eq_true, decide_eq_true_eq, Bool.not_eq_true', Bool.and_eq_false_iff, decide_eq_false_iff_not, beq_iff_eq]
  constructor
  · intro h; omega
  · intro h; omega

theorem all_step (s : ByteArray) (k : Nat) (h : k < s.size) : (s.data.toList.take (k + 1)).all okB = ((s.data.toList.take k).all okB && okB s[k]) := by
  have hl : k < s.data.toList.length := by simpa using h
  rw [List.take_succ_eq_append_getElem hl, List.all_append]
  simp only [List.all_cons, List.all_nil, Bool.and_true]
  rfl

set_option maxHeartbeats 4000000 in
theorem specPutName (s : ByteArray) (w : World) (hs : s.size ≤ 1048576) (r : ByteArray) (hr : nameT s = r) :
    Calls Tryz.prog 11 #[.string s] w fun e w' => e = .returned (.string r) ∧ Below w.heap.size w w' := by
  by_cases h0 : s.size = 0
  · have HR : Hid (quoteT s 34 = r) := by unfold Hid; rw [← hr, nameT, plain_empty s h0]; rfl
    have hse : s.toList = [] := by rw [Lib.toList_data]; exact List.length_eq_zero_iff.1 (by simpa using h0)
    have hn : (!(s.toList == [])) = false := by rw [hse]; rfl
    have hn2 : s.toList.isEmpty = true := by rw [hse]; rfl
    clear hr hse h0
    go_enter Tryz.func11, Tryz.ntmps11
    go_wp2_with fail
    go_loop [3, 4] (fun p i => p = .bool false ∧ ∃ k : Nat, k ≤ s.size ∧ i = .int .i64 k) (fun _ i => s.size - (intOf i).toNat)
    case atStart => exact ⟨rfl, 0, Nat.zero_le _, rfl⟩
    case round =>
      obtain ⟨rfl, k, hk, rfl⟩ := hrel
      by_cases hlt : k < s.size
      · go_wp2_with fail
        exact ⟨⟨rfl, k + 1, by omega, by go_num⟩, by simp [intOf]; omega⟩
      · go_wp2_with fail
        refine (specQuote s 34 _ hs).mono ?_
        rintro e w9 ⟨rfl, b9⟩
        go_wp2_with fail
        go_ret
        exact ⟨by rw [← HR.out]; rfl, b9⟩
  · have hpos : 0 < s.size := by omega
    have hne : s.toList ≠ [] := by
      intro e
      rw [Lib.toList_data] at e
      have h2 : s.data.toList.length = 0 := by rw [e]; rfl
      have h3 : s.data.toList.length = s.size := by simp
      omega
    have hn : (!(s.toList == [])) = true := by simpa using hne
    have hn2 : s.toList.isEmpty = false := List.isEmpty_eq_false_iff.2 hne
    have hby := byte_le s[0]
    have hsz : (0 : Int) < (s.size : Int) := by omega
    cases hd : digitB s[0] with
    | true =>
      have HR : Hid (quoteT s 34 = r) := by unfold Hid; rw [← hr, nameT, plain_no s 0 hpos (.inr ⟨rfl, hd⟩)]; rfl
      have HD := Lib.hid hd
      clear hr hne h0 hd
      go_enter Tryz.func11, Tryz.ntmps11
      go_wp2_with fail
      refine (specDigitB s[0] _ true HD.out).mono ?_
      rintro e w1 ⟨rfl, rfl⟩
      go_wp2_with fail
      go_loop [3, 4] (fun p i => p = .bool false ∧ ∃ k : Nat, k ≤ s.size ∧ i = .int .i64 k) (fun _ i => s.size - (intOf i).toNat)
      case atStart => exact ⟨rfl, 0, Nat.zero_le _, rfl⟩
      case round =>
        obtain ⟨rfl, k, hk, rfl⟩ := hrel
        by_cases hlt : k < s.size
        · go_wp2_with fail
          exact ⟨⟨rfl, k + 1, by omega, by go_num⟩, by simp [intOf]; omega⟩
        · go_wp2_with fail
          refine (specQuote s 34 _ hs).mono ?_
          rintro e w9 ⟨rfl, b9⟩
          go_wp2_with fail
          go_ret
          exact ⟨by rw [← HR.out]; rfl, b9⟩
    | false =>
      have HD := Lib.hid hd
      cases hq : keptB s.data.toList with
      | true =>
        have HR : Hid (quoteT s 34 = r) := by unfold Hid; rw [← hr, nameT, hq]; simp
        have HQ := Lib.hid hq
        clear hr hne h0 hd hq
        go_enter Tryz.func11, Tryz.ntmps11
        go_wp2_with fail
        refine (specDigitB s[0] _ false HD.out).mono ?_
        rintro e w1 ⟨rfl, rfl⟩
        go_wp2_with fail
        refine (specKept _).mono ?_
        rintro e w2 ⟨rfl, st2, b2⟩
        have HS := Lib.hid st2
        clear st2
        go_wp2_with fail
        refine (specHasKept _ _ s HS.out true HQ.out).mono ?_
        rintro e w3 ⟨rfl, b3⟩
        have B3 := b2.trans (b3.mono b2.size)
        clear HS b2 b3
        go_wp2_with fail
        go_loop [3, 4] (fun p i => p = .bool false ∧ ∃ k : Nat, k ≤ s.size ∧ i = .int .i64 k) (fun _ i => s.size - (intOf i).toNat)
        case atStart => exact ⟨rfl, 0, Nat.zero_le _, rfl⟩
        case round =>
          obtain ⟨rfl, k, hk, rfl⟩ := hrel
          by_cases hlt : k < s.size
          · go_wp2_with fail
            exact ⟨⟨rfl, k + 1, by omega, by go_num⟩, by simp [intOf]; omega⟩
          · go_wp2_with fail
            refine (specQuote s 34 _ hs).mono ?_
            rintro e w9 ⟨rfl, b9⟩
            go_wp2_with fail
            go_ret
            exact ⟨by rw [← HR.out]; rfl, B3.trans (b9.mono B3.size)⟩
      | false =>
        have HR : Hid ((if s.data.toList.all okB then s else quoteT s 34) = r) := by
          unfold Hid
          have he : s.data.toList.isEmpty = false := by rw [← Lib.toList_data]; exact hn2
          rw [← hr, nameT, hq, plainB, he, head_get s hpos, hd]
          simp
        have HQ := Lib.hid hq
        clear hr hne h0 hd hq
        go_enter Tryz.func11, Tryz.ntmps11
        go_wp2_with fail
        refine (specDigitB s[0] _ false HD.out).mono ?_
        rintro e w1 ⟨rfl, rfl⟩
        go_wp2_with fail
        refine (specKept _).mono ?_
        rintro e w2 ⟨rfl, st2, b2⟩
        have HS := Lib.hid st2
        clear st2
        go_wp2_with fail
        refine (specHasKept _ _ s HS.out false HQ.out).mono ?_
        rintro e w3 ⟨rfl, b3⟩
        have B3 := b2.trans (b3.mono b2.size)
        clear HS b2 b3
        go_wp2_with fail
        go_loop [3, 4] (fun p i => ∃ (c : Bool) (k : Nat), p = .bool c ∧ Hid (c = (s.data.toList.take k).all okB) ∧ k ≤ s.size ∧ i = .int .i64 k) (fun _ i => s.size - (intOf i).toNat)
        case atStart => exact ⟨true, 0, rfl, rfl, Nat.zero_le _, rfl⟩
        case round =>
          obtain ⟨c, k, rfl, hc, hk, rfl⟩ := hrel
          by_cases hlt : k < s.size
          · have hbk := byte_le s[k]
            cases c with
            | false =>
              have HN : Hid (false = (s.data.toList.take (k + 1)).all okB) := by unfold Hid; rw [all_step s k hlt, ← hc.out]; rfl
              go_wp2_with fail
              exact ⟨⟨false, k + 1, rfl, HN, by omega, by go_num⟩, by simp [intOf]; omega⟩
            | true =>
              cases hm : moreB s[k] with
              | false =>
                have HN : Hid (false = (s.data.toList.take (k + 1)).all okB) := by unfold Hid; rw [all_step s k hlt, ← hc.out, okB_eq, hm]; rfl
                have HM := Lib.hid hm
                clear hm
                go_wp2_with fail
                refine (specMore s[k] _ false HM.out).mono ?_
                rintro e w4 ⟨rfl, rfl⟩
                go_wp2_with fail
                exact ⟨⟨false, k + 1, rfl, HN, by omega, by go_num⟩, by simp [intOf]; omega⟩
              | true =>
                have HN : Hid ((!inI (s[k].toNat : Int) 65 90) = (s.data.toList.take (k + 1)).all okB) := by unfold Hid; rw [all_step s k hlt, ← hc.out, okB_eq, hm]; simp
                have HM := Lib.hid hm
                clear hm
                go_wp2_with fail
                refine (specMore s[k] _ true HM.out).mono ?_
                rintro e w4 ⟨rfl, rfl⟩
                go_wp2_with fail
                refine (specIn _ 65 90 _).mono ?_
                rintro e w4 ⟨rfl, rfl⟩
                go_wp2_with fail
                exact ⟨⟨_, k + 1, rfl, HN, by omega, by go_num⟩, by simp [intOf]; omega⟩
          · have hke : k = s.size := by omega
            have hall : c = s.data.toList.all okB := by
              rw [hc.out, hke, List.take_of_length_le (by simp)]
            cases c with
            | true =>
              have HR2 : Hid (s = r) := by unfold Hid; rw [← HR.out, ← hall]; rfl
              clear hall hke
              go_wp2_with fail
              go_ret
              exact ⟨by rw [← HR2.out]; rfl, B3⟩
            | false =>
              have HR2 : Hid (quoteT s 34 = r) := by unfold Hid; rw [← HR.out, ← hall]; rfl
              clear hall hke
              go_wp2_with fail
              refine (specQuote s 34 _ hs).mono ?_
              rintro e w9 ⟨rfl, b9⟩
              go_wp2_with fail
              go_ret
              exact ⟨by rw [← HR2.out]; rfl, B3.trans (b9.mono B3.size)⟩

end Go.Proofs.YtgnillmhpockkaaGreatDoor
