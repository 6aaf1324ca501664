/- The program's reader of expressions: trees in memory, boxes; what its methods answer. -/
/- The program's reader of expressions: operand. -/
/- (impl.exprForm).firstNeeds, secondNeeds. -/
/- spec.l04Kids. -/
/- The laws' own helpers over expressions: the equality. -/
import Derived.Test.YtgnillmhpockkaaGreatDoorMLexImpl5
import Derived.Test.YtgnillmhpockkaaGreatDoorMMem
import Derived.Lib.Hide
import Derived.Test.YtgnillmhpockkaaGreatDoorMExprF
import Derived.Deep.RegionHeld3
import Derived.Deep.DrawnRows
namespace Go.Proofs.YtgnillmhpockkaaGreatDoor
open Go.RowKit

/-- An expression in memory, each of whose blocks is one of q. -/
structure TrQ (w : World) (q : Nat → Prop) (e : Ex) (a : Option Addr) (c : Nat) : Prop where
  fit : e.fit
  kids : ∃ d, KidsQ q w d a c e.kids

theorem TrQ.imp {w : World} {q q' : Nat → Prop} {e : Ex} {a : Option Addr} {c : Nat} (h : TrQ w q e a c) (hq : ∀ b, q b → b < w.heap.size → q' b) : TrQ w q' e a c := by
  obtain ⟨d, hk⟩ := h.kids
  exact ⟨h.fit, d, hk.imp hq⟩

theorem TrQ.grown {w w' : World} {q : Nat → Prop} {e : Ex} {a : Option Addr} {c : Nat} {row : Option Nat} (h : TrQ w q e a c) (hg : w.grownBy w' row) (hne : ∀ b, q b → row ≠ some b) : TrQ w' q e a c := by
  obtain ⟨d, hk⟩ := h.kids
  exact ⟨h.fit, d, hk.agree hg.size fun b hq hb o => cell_grown hg hb (hne b hq) o⟩

theorem TrQ.below {w w' : World} {q : Nat → Prop} {e : Ex} {a : Option Addr} {c : Nat} (h : TrQ w q e a c) (hb : Below w.heap.size w w') : TrQ w' q e a c :=
  h.grown (grown_of_below hb none) (fun _ _ => by simp)

theorem TrQ.set {w : World} {q : Nat → Prop} {e : Ex} {a : Option Addr} {c : Nat} (h : TrQ w q e a c) {b : Nat} (hb : ¬ q b) (o : Nat) (v : Value) : TrQ (w.setCell ⟨b, o, none⟩ v) q e a c :=
  h.grown (setCell_grown w b o v) (fun x hx e => hb (by cases e; exact hx))

/-- A leaf lies nowhere. -/
theorem TrQ.leaf {w : World} {q : Nat → Prop} {e : Ex} (hf : e.fit) (hk : e.kids = []) : TrQ w q e none 0 :=
  ⟨hf, 1, by rw [hk]; exact ⟨Nat.le_refl _, by unfold maxLen; omega, fun _ => rfl, fun h => by simp at h⟩⟩

theorem TrQ.len {w : World} {q : Nat → Prop} {e : Ex} {a : Option Addr} {c : Nat} (h : TrQ w q e a c) : e.kids.length ≤ c ∧ c ≤ maxLen := by
  obtain ⟨d, hk⟩ := h.kids
  cases d with
  | zero => exact hk.elim
  | succ d => exact ⟨hk.1, hk.2.1⟩

theorem kidsQ_mono {q : Nat → Prop} {w : World} {d d' : Nat} {a : Option Addr} {c : Nat} {kids : List Ex} (h : KidsQ q w d a c kids) (hd : d ≤ d') : KidsQ q w d' a c kids := KidsQ.mono hd h

/-- Rows of expressions whose trees lie in q: the list as a whole. -/
theorem kids_row {w : World} {q : Nat → Prop} {base B c : Nat} {es : List Es} (hown : w.ownsRow base 32 4 (.slice (some ⟨B, 0, none⟩) es.length c) es.length (ecells es)) (hB : q B) (hk : ∀ x ∈ es, TrQ w q x.e x.a x.c) : ∃ d, KidsQ q w d (some ⟨B, 0, none⟩) c (es.map Es.e) := by
  obtain ⟨D, hD⟩ : ∃ D, ∀ x ∈ es, KidsQ q w D x.a x.c x.e.kids := by
    clear hown
    induction es with
    | nil => exact ⟨0, fun x hx => by simp at hx⟩
    | cons y r ih =>
      obtain ⟨D, hD⟩ := ih fun x hx => hk x (List.mem_cons_of_mem _ hx)
      obtain ⟨d, hd⟩ := (hk y (List.mem_cons_self ..)).kids
      refine ⟨max D d, fun x hx => ?_⟩
      rcases List.mem_cons.1 hx with rfl | hx
      · exact kidsQ_mono hd (Nat.le_max_right ..)
      · exact kidsQ_mono (hD x hx) (Nat.le_max_left ..)
  refine ⟨D + 1, ?_⟩
  rcases hown.2 with ⟨hv, _⟩ | ⟨g, cap, cur, hv, hBg, hg, hnc, hcm, hcs, ht⟩
  · cases hv
  · simp only [Value.slice.injEq, Option.some.injEq, Addr.mk.injEq, and_true, true_and] at hv
    obtain ⟨rfl, rfl⟩ := hv
    have hgl : B < w.heap.size := by
      rcases Nat.lt_or_ge B w.heap.size with hlt | hge
      · exact hlt
      · rw [Array.getElem?_eq_none hge] at hg; cases hg
    refine ⟨by rw [List.length_map]; exact hnc, hcm, (fun h => by cases h), fun hp => ⟨B, 0, rfl, hB, hgl, fun i hi => ?_⟩⟩
    rw [List.length_map] at hi
    obtain ⟨c0, c1, c2, c3⟩ := ecells_at es i hi
    have e0 := (World.ownsRow.cellAt (w := w) hown (i * 4) (by omega)).trans c0
    have e1 := (World.ownsRow.cellAt (w := w) hown (i * 4 + 1) (by omega)).trans c1
    have e2 := (World.ownsRow.cellAt (w := w) hown (i * 4 + 2) (by omega)).trans c2
    have e3 := (World.ownsRow.cellAt (w := w) hown (i * 4 + 3) (by omega)).trans c3
    rw [Nat.zero_add]
    simp only [List.getElem_map]
    exact ⟨e0, e1, e2, (hk es[i] (List.getElem_mem hi)).fit, _, _, e3, hD es[i] (List.getElem_mem hi)⟩

/-- A row of one expression, as a literal makes it. -/
theorem one_row (w : World) (e : Ex) (a : Option Addr) (c : Nat) :
    (w.alloc (.cells #[.int .i64 e.kind, .string e.text, .int .i64 e.num, .slice a e.kids.length c] 32)).ownsRow w.heap.size 32 4 (.slice (some ⟨w.heap.size, 0, none⟩) 1 1) 1 (ecells [⟨e, a, c⟩]) := by
  have := World.ownsRow_lit (base := w.heap.size) (e := 32) (size := 4) w #[.int .i64 e.kind, .string e.text, .int .i64 e.num, .slice a e.kids.length c] 1 (Nat.le_refl _) (by unfold maxLen; omega) rfl
  exact this

theorem TrQ.node1 {w : World} {q : Nat → Prop} {e : Ex} {a : Option Addr} {c : Nat} (h : TrQ w q e a c) {k : Int} (hk : i64E k) (hq : q w.heap.size) :
    TrQ (w.alloc (.cells #[.int .i64 e.kind, .string e.text, .int .i64 e.num, .slice a e.kids.length c] 32)) q (node k [e]) (some ⟨w.heap.size, 0, none⟩) 1 := by
  refine ⟨⟨by unfold maxLen; exact Nat.zero_le _, hk, by show i64E 0; unfold i64E; omega⟩, ?_⟩
  have := kids_row (es := [⟨e, a, c⟩]) (one_row w e a c) hq (fun x hx => by
    rw [List.mem_singleton] at hx
    subst hx
    exact h.below ((Below.refl _ _).alloc (Nat.le_refl _) _))
  exact this

/-- A struct of an expression and its strength lies in block R. -/
def Bx (W : World) (R : Nat) (k : Int) (t : ByteArray) (n : Int) (v : Value) (s : Int) : Prop := W.heap[R]? = some (.cells #[.int .i64 k, .string t, .int .i64 n, v, .int .i64 s] 67 (0, 0))

theorem Bx.cells {W : World} {R : Nat} {k : Int} {t : ByteArray} {n : Int} {v : Value} {s : Int} (h : Bx W R k t n v s) :
    W.cell? ⟨R, 0, none⟩ = some (.int .i64 k) ∧ W.cell? ⟨R, 1, none⟩ = some (.string t) ∧ W.cell? ⟨R, 2, none⟩ = some (.int .i64 n) ∧ W.cell? ⟨R, 3, none⟩ = some v ∧ W.cell? ⟨R, 4, none⟩ = some (.int .i64 s) ∧ ∀ o, W.frozen? ⟨R, o, none⟩ = false := by
  refine ⟨?_, ?_, ?_, ?_, ?_, fun j => frozen_of_row _ _ _ _ _ h⟩ <;> rw [cell_of_row _ _ _ _ _ _ h] <;> rfl

theorem Bx.lt {W : World} {R : Nat} {k : Int} {t : ByteArray} {n : Int} {v : Value} {s : Int} (h : Bx W R k t n v s) : R < W.heap.size := by
  rcases Nat.lt_or_ge R W.heap.size with h' | h'
  · exact h'
  · unfold Bx at h; rw [Array.getElem?_eq_none h'] at h; cases h

theorem Bx.grown {W W' : World} {R : Nat} {k : Int} {t : ByteArray} {n : Int} {v : Value} {s : Int} {row : Option Nat} (h : Bx W R k t n v s) (hg : W.grownBy W' row) (hne : row ≠ some R) : Bx W' R k t n v s :=
  (hg.block R h.lt (fun e => hne e.symm)).trans h

theorem Bx.below {W W' : World} {R : Nat} {k : Int} {t : ByteArray} {n : Int} {v : Value} {s : Int} (h : Bx W R k t n v s) (hb : Below W.heap.size W W') : Bx W' R k t n v s := (hb.block R h.lt).trans h

theorem Bx.setO {W : World} {R R' : Nat} {k : Int} {t : ByteArray} {n : Int} {v : Value} {s : Int} (h : Bx W R k t n v s) (hne : R' ≠ R) (j : Nat) (u : Value) : Bx (W.setCell ⟨R', j, none⟩ u) R k t n v s :=
  h.grown (setCell_grown W R' j u) (fun e => hne (Option.some.inj e))

theorem bx_new (W : World) (k : Int) (t : ByteArray) (n : Int) (v : Value) (s : Int) : Bx (W.alloc (.cells #[.int .i64 k, .string t, .int .i64 n, v, .int .i64 s] 67)) W.heap.size k t n v s := heap_alloc_new W _

/-- A reader that stands ready. -/
structure Rdy (tp : TypeId) (p : Value) (w : World) (rb : Nat) (a : Option Addr) (c : Nat) (l : List Tk) (at_ : Nat) : Prop where
  rd : Rd w rb a c l at_
  g : RG tp p w
  hrb : 8 ≤ rb
  hat : at_ ≤ l.length

theorem Rdy.step {tp : TypeId} {p : Value} {w w' : World} {rb : Nat} {a : Option Addr} {c : Nat} {l : List Tk} {at_ m : Nat} (h : Rdy tp p w rb a c l at_) (hs : Stp w rb a c l m w') (hm : m ≤ l.length) : Rdy tp p w' rb a c l m :=
  ⟨hs.rd, h.g.grown hs.gr h.hrb, h.hrb, hm⟩

/-- What operand and expr answer: a tree in new blocks, or nothing. -/
def ReadR (w : World) (rb : Nat) (a : Option Addr) (c : Nat) (l : List Tk) (at_ : Nat) (ans : Option (Ex × Nat × List W)) (x : Ending) (w' : World) : Prop :=
  match ans with
  | some (e, s, r) => ∃ ea ec m, x = .returned (.tuple #[.agg #[.int .i64 e.kind, .string e.text, .int .i64 e.num, .slice ea e.kids.length ec, .int .i64 (s : Int)], .bool true]) ∧ r = left l m ∧ at_ < m ∧ m ≤ l.length ∧ Stp w rb a c l m w' ∧ TrQ w' (fun b => w.heap.size ≤ b) e ea ec
  | none => ∃ (v0 : Int) (v1 : ByteArray) (v2 : Int) (va : Option Addr) (vn vc : Nat) (v4 : Int) (m : Nat), x = .returned (.tuple #[.agg #[.int .i64 v0, .string v1, .int .i64 v2, .slice va vn vc, .int .i64 v4], .bool false]) ∧ Stp w rb a c l m w'

def ExprAt (tp : TypeId) (p : Value) (rb : Nat) (a : Option Addr) (c : Nat) (l : List Tk) (f : Nat) : Prop := ∀ (n at_ : Nat) (w : World), 1 ≤ n → n ≤ 7 → Rdy tp p w rb a c l at_ → roomI f (left l at_) →
  Calls Tryz.prog 46 #[.pointer (some ⟨rb, 0, none⟩), .int .i64 (n : Int)] w (ReadR w rb a c l at_ (exprI f n (left l at_)))

def OperandAt (tp : TypeId) (p : Value) (rb : Nat) (a : Option Addr) (c : Nat) (l : List Tk) (f : Nat) : Prop := ∀ (n at_ : Nat) (w : World), 1 ≤ n → n ≤ 7 → Rdy tp p w rb a c l at_ → roomX f (left l at_) →
  Calls Tryz.prog 78 #[.pointer (some ⟨rb, 0, none⟩), .int .i64 (n : Int)] w (ReadR w rb a c l at_ (operandI f n (left l at_)))

end Go.Proofs.YtgnillmhpockkaaGreatDoor

namespace Go.Proofs.YtgnillmhpockkaaGreatDoor
open Go.RowKit

theorem fm6 : (fm 6).token = 0 ∧ (fm 6).text = wNot := by decide

theorem stp_end {w w1 : World} {rb : Nat} {a : Option Addr} {c : Nat} {l : List Tk} {at0 m : Nat} (h0 : Rd w rb a c l at0) (h : Stp w rb a c l m w1) {R : Nat} (hR : w.heap.size ≤ R) (v0 v1 v2 v3 v4 : Value) :
    Stp w rb a c l m (((((w1.setCell ⟨R, 0, none⟩ v0).setCell ⟨R, 1, none⟩ v1).setCell ⟨R, 2, none⟩ v2).setCell ⟨R, 3, none⟩ v3).setCell ⟨R, 4, none⟩ v4) :=
  ((((h.store h0 hR 0 v0).store h0 hR 1 v1).store h0 hR 2 v2).store h0 hR 3 v3).store h0 hR 4 v4

theorem tr_end {w1 : World} {q : Nat → Prop} {e : Ex} {a : Option Addr} {c : Nat} (h : TrQ w1 q e a c) {R : Nat} (hR : ¬ q R) (v0 v1 v2 v3 v4 : Value) :
    TrQ (((((w1.setCell ⟨R, 0, none⟩ v0).setCell ⟨R, 1, none⟩ v1).setCell ⟨R, 2, none⟩ v2).setCell ⟨R, 3, none⟩ v3).setCell ⟨R, 4, none⟩ v4) q e a c :=
  ((((h.set hR 0 v0).set hR 1 v1).set hR 2 v2).set hR 3 v3).set hR 4 v4

set_option maxRecDepth 100000 in
set_option maxHeartbeats 4000000 in
theorem rdOperand {tp : TypeId} {p : Value} {rb : Nat} {a : Option Addr} {c : Nat} {l : List Tk} {f : Nat} (ih : ExprAt tp p rb a c l f) : OperandAt tp p rb a c l (f + 1) := by
  intro n at_ w h1 h7 hr hroom
  have hl := hr.rd.len
  have hat := hr.hat
  have hrbl := hr.rd.lt
  have hroom' : Hid (3 * (left l at_).length + 2 ≤ f + 1) := hroom
  have HLL := Lib.hid (left_len l at_)
  have HB0 := Lib.hid (show Below w.heap.size w (w.alloc (.cells #[.int .i64 0, .string ⟨#[]⟩, .int .i64 0, .slice none 0 0, .int .i64 0] 67)) from (Below.refl _ _).alloc (Nat.le_refl _) _)
  have HS0 := Lib.hid ((Stp.refl hr.rd).below HB0.out)
  have HR0 := Lib.hid (bx_new w 0 ⟨#[]⟩ 0 (.slice none 0 0) 0)
  have HZ0 : Hid ((w.alloc (.cells #[.int .i64 0, .string ⟨#[]⟩, .int .i64 0, .slice none 0 0, .int .i64 0] 67)).heap.size = w.heap.size + 1) := by unfold Hid; simp
  have HRY := Lib.hid hr
  clear hr hroom HB0
  go_enter Tryz.func78, Tryz.ntmps78
  go_wp2_with fail
  generalize w.alloc (.cells #[.int .i64 0, .string ⟨#[]⟩, .int .i64 0, .slice none 0 0, .int .i64 0] 67) = W0 at HS0 HR0 HZ0 ⊢
  cases hp : tkW (left l at_) 4 [40] with
  | true =>
    have HP := Lib.hid (show hitT l at_ 4 (txt [40]) = true by rw [hit_left]; exact hp)
    have hlt := left_hit hp
    have HO : Hid (operandI (f + 1) n (left l at_) = match exprI f 1 (left l (at_ + 1)) with | some (e, _, r) => if tkW r 4 [41] = true then some (e, 7, r.tail) else none | none => none) := by
      unfold Hid
      rw [operandI, if_pos hp, left_tail]
      rfl
    clear hp
    refine (rdTake HS0.out.rd (by omega) 4 (txt [40]) true HP.out).mono ?_
    intro x w1 ht
    obtain ⟨rfl, hs⟩ := ht.yes HS0.out.rd
    have HS1 := Lib.hid (HS0.out.trans hs)
    have HR1 := Lib.hid (HR0.out.grown hs.gr (by intro e; have := Option.some.inj e; omega))
    have HZ1 : Hid (w.heap.size + 1 ≤ w1.heap.size) := by have h1 := hs.gr.size; have h2 := HZ0.out; unfold Hid; omega
    clear hs ht
    have HE := Lib.hid (ih 1 (at_ + 1) w1 (by omega) (by omega) (HRY.out.step HS1.out (by omega)) (by have h1 := hroom'.out; have h2 := HLL.out; have h3 := left_len l (at_ + 1); unfold roomI; omega))
    cases ha : exprI f 1 (left l (at_ + 1)) with
    | none =>
      have HO2 : Hid (operandI (f + 1) n (left l at_) = none) := by unfold Hid; rw [HO.out, ha]
      rw [ha] at HE
      clear ha HO
      go_wp2_with fail
      refine HE.out.mono ?_
      rintro x w2 ⟨v0, v1, v2, va, vn, vc, v4, m, rfl, hs⟩
      have HS2 := Lib.hid (HS1.out.trans hs)
      have HR2 := Lib.hid (HR1.out.grown hs.gr (by intro e; have := Option.some.inj e; omega))
      clear hs
      have HB3 := Lib.hid (show Below w2.heap.size w2 (w2.alloc (.cells #[.int .i64 v0, .string v1, .int .i64 v2, .slice va vn vc, .int .i64 v4] 67)) from (Below.refl _ _).alloc (Nat.le_refl _) _)
      have HS3 := Lib.hid (HS2.out.below HB3.out)
      have HR3 := Lib.hid (HR2.out.below HB3.out)
      have HX3 := Lib.hid (bx_new w2 v0 v1 v2 (.slice va vn vc) v4)
      have hne3 : w2.heap.size ≠ w.heap.size := by have h1 := HR2.out.lt; omega
      clear HB3
      go_wp2_with fail
      generalize w2.alloc (.cells #[.int .i64 v0, .string v1, .int .i64 v2, .slice va vn vc, .int .i64 v4] 67) = w3 at HS3 HR3 HX3 ⊢
      obtain ⟨b0, b1, b2, b3, b4, bf⟩ := HR3.out.cells
      obtain ⟨x0, x1, x2, x3, x4, xf⟩ := HX3.out.cells
      go_region
      go_wp2_with fail
      refine bodyPost_ret (v := .tuple #[.agg #[.int .i64 v0, .string v1, .int .i64 v2, .slice va vn vc, .int .i64 7], .bool false]) (by simp [results, Tryz.results78, go_sem, b0, b1, b2, b3, b4]) rfl ?_
      unfold ReadR
      rw [HO2.out]
      exact ⟨v0, v1, v2, va, vn, vc, 7, m, rfl, (stp_end HRY.out.rd HS3.out (Nat.le_refl _) _ _ _ _ _).below (below_drew (Below.refl _ _))⟩
    | some q =>
      obtain ⟨e, s, r⟩ := q
      rw [ha] at HE
      go_wp2_with fail
      refine HE.out.mono ?_
      rintro x w2 ⟨ea, ec, m, rfl, hrm, hm1, hm2, hs, htr⟩
      have HB3 := Lib.hid (show Below w2.heap.size w2 (w2.alloc (.cells #[.int .i64 e.kind, .string e.text, .int .i64 e.num, .slice ea e.kids.length ec, .int .i64 (s : Int)] 67)) from (Below.refl _ _).alloc (Nat.le_refl _) _)
      have hgr2 := hs.gr
      have HS2 := Lib.hid (HS1.out.trans hs)
      have HR2 := Lib.hid (HR1.out.grown hgr2 (by intro e; have := Option.some.inj e; omega))
      have HS3 := Lib.hid (HS2.out.below HB3.out)
      have HR3 := Lib.hid (HR2.out.below HB3.out)
      have HX3 := Lib.hid (bx_new w2 e.kind e.text e.num (.slice ea e.kids.length ec) (s : Int))
      have HT3 := Lib.hid ((htr.imp (q' := fun b => w.heap.size + 1 ≤ b) (fun b hb _ => by have := HZ1.out; omega)).below HB3.out)
      have hne3 : w2.heap.size ≠ w.heap.size := by have h1 := HR2.out.lt; omega
      have hnr3 : w2.heap.size ≠ rb := by have h1 := HR2.out.lt; omega
      have hnr : rb ≠ w.heap.size := by omega
      clear HB3 hs hgr2 htr
      cases hc : tkW r 4 [41] with
      | true =>
        have HO2 : Hid (operandI (f + 1) n (left l at_) = some (e, 7, left l (m + 1))) := by unfold Hid; rw [HO.out, ha]; simp only [hc, if_true]; rw [hrm, left_tail]
        have HC := Lib.hid (show hitT l m 4 (txt [41]) = true by rw [hit_left, ← hrm]; exact hc)
        have hlt2 := left_hit (by rw [← hrm]; exact hc : tkW (left l m) 4 [41] = true)
        clear hc ha hrm
        go_wp2_with fail
        generalize w2.alloc (.cells #[.int .i64 e.kind, .string e.text, .int .i64 e.num, .slice ea e.kids.length ec, .int .i64 (s : Int)] 67) = w3 at HS3 HR3 HX3 HT3 ⊢
        obtain ⟨b0, b1, b2, b3, b4, bf⟩ := HR3.out.cells
        obtain ⟨x0, x1, x2, x3, x4, xf⟩ := HX3.out.cells
        have HRa := Lib.hid (HS3.out.rd.drew)
        have HRb := Lib.hid ((stp_end HRY.out.rd HS3.out (Nat.le_refl _) (.int .i64 e.kind) (.string e.text) (.int .i64 e.num) (.slice ea e.kids.length ec) (.int .i64 7)).rd.drew)
        go_region_with ((go_at_call 105; refine (rdTake (by first | exact HRa.out | exact HRb.out) (by omega) 4 (txt [41]) true HC.out).mono ?_; rintro x w4 ⟨rfl, n4, rfl⟩))
        all_goals
          go_wp2_with fail
          refine bodyPost_ret (v := .tuple #[.agg #[.int .i64 e.kind, .string e.text, .int .i64 e.num, .slice ea e.kids.length ec, .int .i64 7], .bool true]) (by simp [results, Tryz.results78, go_sem, b0, b1, b2, b3, b4]) rfl ?_
          unfold ReadR
          rw [HO2.out]
          exact ⟨ea, ec, m + 1, rfl, rfl, by omega, by omega, stp_end HRY.out.rd ((HS3.out.below (below_drewN0' w3 (1 + n4))).to (m + 1)) (Nat.le_refl _) _ _ _ _ _,
            (tr_end ((HT3.out.below (below_drewN0' w3 (1 + n4))).set (b := rb) (by omega) 1 _) (R := w.heap.size) (by omega) _ _ _ _ _).imp (fun b hb _ => by omega)⟩
      | false =>
        have HO2 : Hid (operandI (f + 1) n (left l at_) = none) := by unfold Hid; rw [HO.out, ha]; simp only [hc]; rfl
        have HC := Lib.hid (show hitT l m 4 (txt [41]) = false by rw [hit_left, ← hrm]; exact hc)
        clear hc ha hrm
        go_wp2_with fail
        generalize w2.alloc (.cells #[.int .i64 e.kind, .string e.text, .int .i64 e.num, .slice ea e.kids.length ec, .int .i64 (s : Int)] 67) = w3 at HS3 HR3 HX3 HT3 ⊢
        obtain ⟨b0, b1, b2, b3, b4, bf⟩ := HR3.out.cells
        obtain ⟨x0, x1, x2, x3, x4, xf⟩ := HX3.out.cells
        have HRa := Lib.hid (HS3.out.rd.drew)
        have HRb := Lib.hid ((stp_end HRY.out.rd HS3.out (Nat.le_refl _) (.int .i64 e.kind) (.string e.text) (.int .i64 e.num) (.slice ea e.kids.length ec) (.int .i64 7)).rd.drew)
        go_region_with ((go_at_call 105; refine (rdTake (by first | exact HRa.out | exact HRb.out) (by omega) 4 (txt [41]) false HC.out).mono ?_; rintro x w4 ⟨rfl, n4, rfl⟩))
        all_goals
          go_wp2_with fail
          refine bodyPost_ret (v := .tuple #[.agg #[.int .i64 e.kind, .string e.text, .int .i64 e.num, .slice ea e.kids.length ec, .int .i64 7], .bool false]) (by simp [results, Tryz.results78, go_sem, b0, b1, b2, b3, b4]) rfl ?_
          unfold ReadR
          rw [HO2.out]
          exact ⟨_, _, _, _, _, _, 7, m, rfl, stp_end HRY.out.rd (HS3.out.below (below_drewN0' w3 (1 + n4))) (Nat.le_refl _) _ _ _ _ _⟩
  | false =>
    have HP := Lib.hid (show hitT l at_ 4 (txt [40]) = false by rw [hit_left]; exact hp)
    have HO : Hid (operandI (f + 1) n (left l at_) = if n ≤ 3 ∧ tkW (left l at_) 0 wNot = true then (match exprI f 3 (left l (at_ + 1)) with | some (e, _, r) => some (node 6 [e], 3, r) | none => none) else match leafI (left l at_) with | some (e, r) => some (e, 7, r) | none => none) := by
      unfold Hid
      rw [operandI, if_neg (by rw [hp]; decide), left_tail]
      rfl
    clear hp
    refine (rdTake HS0.out.rd (by omega) 4 (txt [40]) false HP.out).mono ?_
    intro x w1 ht
    obtain ⟨rfl, hs⟩ := ht.no HS0.out.rd
    have HS1 := Lib.hid (HS0.out.trans hs)
    have HR1 := Lib.hid (HR0.out.grown hs.gr (by intro e; have := Option.some.inj e; omega))
    have HZ1 : Hid (w.heap.size + 1 ≤ w1.heap.size) := by have h1 := hs.gr.size; have h2 := HZ0.out; unfold Hid; omega
    clear hs ht
    by_cases hn : n ≤ 3
    · have hnd : decide ((n : Int) ≤ 3) = true := by simp; omega
      cases hw : tkW (left l at_) 0 wNot with
      | true =>
        have HW := Lib.hid (show hitT l at_ (fm 6).token (txt (fm 6).text) = true by rw [hit_left, fm6.1, fm6.2]; exact hw)
        have hlt := left_hit hw
        have HO1 : Hid (operandI (f + 1) n (left l at_) = match exprI f 3 (left l (at_ + 1)) with | some (e, _, r) => some (node 6 [e], 3, r) | none => none) := by unfold Hid; rw [HO.out, if_pos ⟨hn, hw⟩]
        clear hw HO
        go_wp2_with fail
        refine (rdTakeSign HS1.out.rd (by omega) (HRY.out.g.grown HS1.out.gr HRY.out.hrb).forms (by have := HRY.out.hrb; omega) 6 (by omega) true HW.out).mono ?_
        intro x w2 ht
        obtain ⟨rfl, hs⟩ := ht.yes HS1.out.rd
        have HS2 := Lib.hid (HS1.out.trans hs)
        have HR2 := Lib.hid (HR1.out.grown hs.gr (by intro e; have := Option.some.inj e; omega))
        have HZ2 : Hid (w.heap.size + 1 ≤ w2.heap.size) := by have h1 := hs.gr.size; have h2 := HZ1.out; unfold Hid; omega
        clear hs ht
        have HE := Lib.hid (ih 3 (at_ + 1) w2 (by omega) (by omega) (HRY.out.step HS2.out (by omega)) (by have h1 := hroom'.out; have h2 := HLL.out; have h3 := left_len l (at_ + 1); unfold roomI; omega))
        cases ha : exprI f 3 (left l (at_ + 1)) with
        | none =>
          have HO2 : Hid (operandI (f + 1) n (left l at_) = none) := by unfold Hid; rw [HO1.out, ha]
          rw [ha] at HE
          clear ha HO1
          go_wp2_with fail
          refine HE.out.mono ?_
          rintro x w3 ⟨v0, v1, v2, va, vn, vc, v4, m, rfl, hs⟩
          have HB4 := Lib.hid (show Below w3.heap.size w3 ((w3.alloc (.cells #[.int .i64 v0, .string v1, .int .i64 v2, .slice va vn vc, .int .i64 v4] 67)).alloc (.cells #[.int .i64 v0, .string v1, .int .i64 v2, .slice va vn vc] 32)) from ((Below.refl _ _).alloc (Nat.le_refl _) _).alloc (by simp) _)
          have HS4 := Lib.hid ((HS2.out.trans hs).below HB4.out)
          have HX4 := Lib.hid (bx_new w3 v0 v1 v2 (.slice va vn vc) v4)
          obtain ⟨x0, x1, x2, x3, x4, xf⟩ := HX4.out.cells
          have HR3 := Lib.hid (HR2.out.grown hs.gr (by intro e; have := Option.some.inj e; omega))
          obtain ⟨b0, b1, b2, b3, b4, bf⟩ := (HR3.out.below HB4.out).cells
          have hne3 : w3.heap.size ≠ w.heap.size := by have h1 := HR3.out.lt; omega
          clear hs HB4
          go_wp2_with fail
          refine bodyPost_ret (v := .tuple #[.agg #[.int .i64 6, .string ⟨#[]⟩, .int .i64 0, .slice (some ⟨w3.heap.size + 1, 0, none⟩) 1 1, .int .i64 3], .bool false]) (by simp [results, Tryz.results78, go_sem, b0, b1, b2, b3, b4]) rfl ?_
          unfold ReadR
          rw [HO2.out]
          exact ⟨_, _, _, _, _, _, 3, m, rfl, stp_end HRY.out.rd HS4.out (Nat.le_refl _) _ _ _ _ _⟩
        | some q =>
          obtain ⟨e, s, r⟩ := q
          have HO2 : Hid (operandI (f + 1) n (left l at_) = some (node 6 [e], 3, r)) := by unfold Hid; rw [HO1.out, ha]
          rw [ha] at HE
          clear ha HO1
          go_wp2_with fail
          refine HE.out.mono ?_
          rintro x w3 ⟨ea, ec, m, rfl, rfl, hm1, hm2, hs, htr⟩
          have HB4 := Lib.hid (show Below w3.heap.size w3 ((w3.alloc (.cells #[.int .i64 e.kind, .string e.text, .int .i64 e.num, .slice ea e.kids.length ec, .int .i64 (s : Int)] 67)).alloc (.cells #[.int .i64 e.kind, .string e.text, .int .i64 e.num, .slice ea e.kids.length ec] 32)) from ((Below.refl _ _).alloc (Nat.le_refl _) _).alloc (by simp) _)
          have HS4 := Lib.hid ((HS2.out.trans hs).below HB4.out)
          have HX4 := Lib.hid (bx_new w3 e.kind e.text e.num (.slice ea e.kids.length ec) (s : Int))
          obtain ⟨x0, x1, x2, x3, x4, xf⟩ := HX4.out.cells
          have HR3 := Lib.hid (HR2.out.grown hs.gr (by intro e; have := Option.some.inj e; omega))
          obtain ⟨b0, b1, b2, b3, b4, bf⟩ := (HR3.out.below HB4.out).cells
          have hne3 : w3.heap.size ≠ w.heap.size := by have h1 := HR3.out.lt; omega
          have HT4 : Hid (TrQ ((w3.alloc (.cells #[.int .i64 e.kind, .string e.text, .int .i64 e.num, .slice ea e.kids.length ec, .int .i64 (s : Int)] 67)).alloc (.cells #[.int .i64 e.kind, .string e.text, .int .i64 e.num, .slice ea e.kids.length ec] 32)) (fun b => w.heap.size + 1 ≤ b) (node 6 [e]) (some ⟨w3.heap.size + 1, 0, none⟩) 1) := by
            have h1 := (htr.imp (q' := fun b => w.heap.size + 1 ≤ b) (fun b hb _ => by have := HZ2.out; omega)).below ((Below.refl w3.heap.size w3).alloc (Nat.le_refl _) (.cells #[.int .i64 e.kind, .string e.text, .int .i64 e.num, .slice ea e.kids.length ec, .int .i64 (s : Int)] 67))
            have h2 := h1.node1 (k := 6) (by unfold i64E; omega) (by have := HR3.out.lt; simp; omega)
            rw [size_allocE] at h2
            exact h2
          clear hs HB4 htr
          go_wp2_with fail
          refine bodyPost_ret (v := .tuple #[.agg #[.int .i64 6, .string ⟨#[]⟩, .int .i64 0, .slice (some ⟨w3.heap.size + 1, 0, none⟩) 1 1, .int .i64 3], .bool true]) (by simp [results, Tryz.results78, go_sem, b0, b1, b2, b3, b4]) rfl ?_
          unfold ReadR
          rw [HO2.out]
          exact ⟨_, _, m, rfl, rfl, by omega, by omega, stp_end HRY.out.rd HS4.out (Nat.le_refl _) _ _ _ _ _, (tr_end HT4.out (R := w.heap.size) (by omega) _ _ _ _ _).imp (fun b hb _ => by omega)⟩
      | false =>
        have HW := Lib.hid (show hitT l at_ (fm 6).token (txt (fm 6).text) = false by rw [hit_left, fm6.1, fm6.2]; exact hw)
        have HWW := Lib.hid hw
        clear hw
        go_wp2_with fail
        refine (rdTakeSign HS1.out.rd (by omega) (HRY.out.g.grown HS1.out.gr HRY.out.hrb).forms (by have := HRY.out.hrb; omega) 6 (by omega) false HW.out).mono ?_
        intro x w1' ht
        obtain ⟨rfl, hs⟩ := ht.no HS1.out.rd
        have HS9 := Lib.hid (HS1.out.trans hs)
        have HR9 := Lib.hid (HR1.out.grown hs.gr (by intro e; have := Option.some.inj e; omega))
        clear hs ht
        go_wp2_with fail
        have HOL : Hid (operandI (f + 1) n (left l at_) = match leafI (left l at_) with | some (e, r) => some (e, 7, r) | none => none) := by unfold Hid; rw [HO.out, if_neg (by rw [HWW.out]; simp)]
        refine (rdLeaf HS9.out.rd (by omega) (HRY.out.g.grown HS9.out.gr HRY.out.hrb) HRY.out.hrb).mono ?_
        intro x w2 hx
        unfold LeafR at hx
        cases hlf : leafI (left l at_) with
        | none =>
          have HO2 : Hid (operandI (f + 1) n (left l at_) = none) := by unfold Hid; rw [HOL.out, hlf]
          rw [hlf] at hx
          obtain ⟨m, rfl, hs⟩ := hx
          have HS2 := Lib.hid (HS9.out.trans hs)
          have HR2 := Lib.hid (HR9.out.grown hs.gr (by intro e; have := Option.some.inj e; omega))
          have HB3 := Lib.hid (show Below w2.heap.size w2 (w2.alloc (.cells #[.int .i64 0, .string ⟨#[]⟩, .int .i64 0, .slice none 0 0] 32)) from (Below.refl _ _).alloc (Nat.le_refl _) _)
          have HS3 := Lib.hid (HS2.out.below HB3.out)
          obtain ⟨b0, b1, b2, b3, b4, bf⟩ := (HR2.out.below HB3.out).cells
          clear hs hlf HB3
          go_wp2_with fail
          refine bodyPost_ret (v := .tuple #[.agg #[.int .i64 0, .string ⟨#[]⟩, .int .i64 0, .slice none 0 0, .int .i64 7], .bool false]) (by simp [results, Tryz.results78, go_sem, b0, b1, b2, b3, b4]) rfl ?_
          unfold ReadR
          rw [HO2.out]
          exact ⟨_, _, _, _, _, _, 7, m, rfl, stp_end HRY.out.rd HS3.out (Nat.le_refl _) _ _ _ _ _⟩
        | some q =>
          obtain ⟨e, r⟩ := q
          have HO2 : Hid (operandI (f + 1) n (left l at_) = some (e, 7, r)) := by unfold Hid; rw [HOL.out, hlf]
          rw [hlf] at hx
          obtain ⟨hkid, hfit, rfl, hlt, rfl, hs⟩ := hx
          have HS2 := Lib.hid (HS9.out.trans hs)
          have HR2 := Lib.hid (HR9.out.grown hs.gr (by intro e; have := Option.some.inj e; omega))
          have HB3 := Lib.hid (show Below w2.heap.size w2 (w2.alloc (.cells #[.int .i64 e.kind, .string e.text, .int .i64 e.num, .slice none 0 0] 32)) from (Below.refl _ _).alloc (Nat.le_refl _) _)
          have HS3 := Lib.hid (HS2.out.below HB3.out)
          have HKI := Lib.hid hkid
          have HFI := Lib.hid hfit
          obtain ⟨b0, b1, b2, b3, b4, bf⟩ := (HR2.out.below HB3.out).cells
          clear hs hlf HB3 hkid hfit
          go_wp2_with fail
          refine bodyPost_ret (v := .tuple #[.agg #[.int .i64 e.kind, .string e.text, .int .i64 e.num, .slice none 0 0, .int .i64 7], .bool true]) (by simp [results, Tryz.results78, go_sem, b0, b1, b2, b3, b4]) rfl ?_
          unfold ReadR
          rw [HO2.out]
          exact ⟨none, 0, at_ + 1, by rw [HKI.out]; rfl, rfl, by omega, by omega, stp_end HRY.out.rd HS3.out (Nat.le_refl _) _ _ _ _ _, TrQ.leaf HFI.out HKI.out⟩
    · have hnd : decide ((n : Int) ≤ 3) = false := by simp; omega
      go_wp2_with fail
      have HOL : Hid (operandI (f + 1) n (left l at_) = match leafI (left l at_) with | some (e, r) => some (e, 7, r) | none => none) := by unfold Hid; rw [HO.out, if_neg (by omega)]
      refine (rdLeaf HS1.out.rd (by omega) (HRY.out.g.grown HS1.out.gr HRY.out.hrb) HRY.out.hrb).mono ?_
      intro x w2 hx
      unfold LeafR at hx
      cases hlf : leafI (left l at_) with
      | none =>
        have HO2 : Hid (operandI (f + 1) n (left l at_) = none) := by unfold Hid; rw [HOL.out, hlf]
        rw [hlf] at hx
        obtain ⟨m, rfl, hs⟩ := hx
        have HS2 := Lib.hid (HS1.out.trans hs)
        have HR2 := Lib.hid (HR1.out.grown hs.gr (by intro e; have := Option.some.inj e; omega))
        have HB3 := Lib.hid (show Below w2.heap.size w2 (w2.alloc (.cells #[.int .i64 0, .string ⟨#[]⟩, .int .i64 0, .slice none 0 0] 32)) from (Below.refl _ _).alloc (Nat.le_refl _) _)
        have HS3 := Lib.hid (HS2.out.below HB3.out)
        obtain ⟨b0, b1, b2, b3, b4, bf⟩ := (HR2.out.below HB3.out).cells
        clear hs hlf HB3
        go_wp2_with fail
        refine bodyPost_ret (v := .tuple #[.agg #[.int .i64 0, .string ⟨#[]⟩, .int .i64 0, .slice none 0 0, .int .i64 7], .bool false]) (by simp [results, Tryz.results78, go_sem, b0, b1, b2, b3, b4]) rfl ?_
        unfold ReadR
        rw [HO2.out]
        exact ⟨_, _, _, _, _, _, 7, m, rfl, stp_end HRY.out.rd HS3.out (Nat.le_refl _) _ _ _ _ _⟩
      | some q =>
        obtain ⟨e, r⟩ := q
        have HO2 : Hid (operandI (f + 1) n (left l at_) = some (e, 7, r)) := by unfold Hid; rw [HOL.out, hlf]
        rw [hlf] at hx
        obtain ⟨hkid, hfit, rfl, hlt, rfl, hs⟩ := hx
        have HS2 := Lib.hid (HS1.out.trans hs)
        have HR2 := Lib.hid (HR1.out.grown hs.gr (by intro e; have := Option.some.inj e; omega))
        have HB3 := Lib.hid (show Below w2.heap.size w2 (w2.alloc (.cells #[.int .i64 e.kind, .string e.text, .int .i64 e.num, .slice none 0 0] 32)) from (Below.refl _ _).alloc (Nat.le_refl _) _)
        have HS3 := Lib.hid (HS2.out.below HB3.out)
        have HKI := Lib.hid hkid
        have HFI := Lib.hid hfit
        obtain ⟨b0, b1, b2, b3, b4, bf⟩ := (HR2.out.below HB3.out).cells
        clear hs hlf HB3 hkid hfit
        go_wp2_with fail
        refine bodyPost_ret (v := .tuple #[.agg #[.int .i64 e.kind, .string e.text, .int .i64 e.num, .slice none 0 0, .int .i64 7], .bool true]) (by simp [results, Tryz.results78, go_sem, b0, b1, b2, b3, b4]) rfl ?_
        unfold ReadR
        rw [HO2.out]
        exact ⟨none, 0, at_ + 1, by rw [HKI.out]; rfl, rfl, by omega, by omega, stp_end HRY.out.rd HS3.out (Nat.le_refl _) _ _ _ _ _, TrQ.leaf HFI.out HKI.out⟩

end Go.Proofs.YtgnillmhpockkaaGreatDoor

namespace Go.Proofs.YtgnillmhpockkaaGreatDoor
open Go.RowKit

set_option maxHeartbeats 1000000 in
theorem firstNeeds (f0 f1 f2 : Int) (f3 : ByteArray) (w : World) (h : 1 ≤ f1 ∧ f1 ≤ 7) (m : Int) (hm : m = if f1 = 4 then 5 else f1) :
    Calls Tryz.prog 83 #[.agg #[.int .i64 f0, .int .i64 f1, .int .i64 f2, .string f3]] w fun x w' => x = .returned (.int .i64 m) ∧ Below w.heap.size w w' := by
  have hb := Lib.hid (fun o => (Below.refl w.heap.size w).alloc (Nat.le_refl _) o)
  by_cases h4 : f1 = 4
  · rw [if_pos h4] at hm
    subst hm h4
    go_enter Tryz.func83, Tryz.ntmps83
    go_wp2_with fail
    go_ret
    exact ⟨rfl, hb.out _⟩
  · rw [if_neg h4] at hm
    have h4b : (f1 == 4) = false := by simp; exact h4
    subst hm
    go_enter Tryz.func83, Tryz.ntmps83
    go_wp2_with fail
    go_ret
    exact ⟨rfl, hb.out _⟩

set_option maxHeartbeats 1000000 in
theorem secondNeeds (f0 f1 f2 : Int) (f3 : ByteArray) (w : World) (h : 1 ≤ f1 ∧ f1 ≤ 7) (m : Int) (hm : f1 + 1 = m) :
    Calls Tryz.prog 84 #[.agg #[.int .i64 f0, .int .i64 f1, .int .i64 f2, .string f3]] w fun x w' => x = .returned (.int .i64 m) ∧ Below w.heap.size w w' := by
  have hb := Lib.hid (fun o => (Below.refl w.heap.size w).alloc (Nat.le_refl _) o)
  have HM := Lib.hid hm
  clear hm
  go_enter Tryz.func84, Tryz.ntmps84
  go_wp2_with fail
  go_ret
  exact ⟨by rw [← HM.out]; rfl, hb.out _⟩

end Go.Proofs.YtgnillmhpockkaaGreatDoor

namespace Go.Proofs.YtgnillmhpockkaaGreatDoor
open Go.RowKit

def inV (x lo hi : Int) : Bool := decide (lo ≤ x) && decide (x ≤ hi)

theorem specInW (x lo hi : Int) (w : World) : Calls Tryz.prog 38 #[.int .i64 x, .int .i64 lo, .int .i64 hi] w fun e w' => e = .returned (.bool (inV x lo hi)) ∧ w = w' := by
  by_cases h1 : lo ≤ x
  · have H : Hid (inV x lo hi = decide (x ≤ hi)) := by unfold Hid inV; simp [h1]
    go_enter Tryz.func38, Tryz.ntmps38
    go_wp2
    go_ret
    exact ⟨by rw [H.out]; rfl, rfl⟩
  · have H : Hid (inV x lo hi = false) := by unfold Hid inV; simp [h1]
    have ht : decide (lo ≤ x) = false := by simp; omega
    go_enter Tryz.func38, Tryz.ntmps38
    go_wp2
    go_ret
    exact ⟨by rw [H.out]; rfl, rfl⟩

theorem specInV (x lo hi : Int) (w : World) (v : Bool) (h : inV x lo hi = v) : Calls Tryz.prog 38 #[.int .i64 x, .int .i64 lo, .int .i64 hi] w fun e w' => e = .returned (.bool v) ∧ w = w' := h ▸ specInW x lo hi w

def kidsV (k : Int) : Int := if k < 0 ∨ 18 < k then -1 else if k ≤ 5 then 0 else if k ≤ 7 then 1 else 2

set_option maxHeartbeats 1000000 in
theorem specKidsV (k : Int) (w : World) (v : Int) (hv : kidsV k = v) :
    Calls Tryz.prog 80 #[.int .i64 k] w fun e w' => e = .returned (.int .i64 v) ∧ w = w' := by
  unfold kidsV at hv
  by_cases h1 : k < 0 ∨ 18 < k
  · rw [if_pos h1] at hv
    subst hv
    have H1 : Hid (inV k 0 18 = false) := by unfold Hid inV; simp; omega
    clear h1
    go_enter Tryz.func80, Tryz.ntmps80
    go_wp2_with (go_at_call 38; refine (specInV _ 0 18 _ false H1.out).mono ?_; rintro e w' ⟨rfl, rfl⟩)
    go_ret
    exact ⟨rfl, rfl⟩
  · rw [if_neg h1] at hv
    have H1 : Hid (inV k 0 18 = true) := by unfold Hid inV; simp; omega
    by_cases h5 : k ≤ 5
    · rw [if_pos h5] at hv
      subst hv
      clear h1
      go_enter Tryz.func80, Tryz.ntmps80
      go_wp2_with (go_at_call 38; refine (specInV _ 0 18 _ true H1.out).mono ?_; rintro e w' ⟨rfl, rfl⟩)
      go_ret
      exact ⟨rfl, rfl⟩
    · rw [if_neg h5] at hv
      by_cases h7 : k ≤ 7
      · rw [if_pos h7] at hv
        subst hv
        clear h1
        go_enter Tryz.func80, Tryz.ntmps80
        go_wp2_with (go_at_call 38; refine (specInV _ 0 18 _ true H1.out).mono ?_; rintro e w' ⟨rfl, rfl⟩)
        go_ret
        exact ⟨rfl, rfl⟩
      · rw [if_neg h7] at hv
        subst hv
        clear h1
        go_enter Tryz.func80, Tryz.ntmps80
        go_wp2_with (go_at_call 38; refine (specInV _ 0 18 _ true H1.out).mono ?_; rintro e w' ⟨rfl, rfl⟩)
        go_ret
        exact ⟨rfl, rfl⟩

end Go.Proofs.YtgnillmhpockkaaGreatDoor

namespace Go.Proofs.YtgnillmhpockkaaGreatDoor
open Go.RowKit

theorem below_drewE {B : Nat} {a w : World} (h : Below B a w) : Below B a w.drew := ⟨h.os, h.tape, h.output, h.size, h.block⟩

end Go.Proofs.YtgnillmhpockkaaGreatDoor
