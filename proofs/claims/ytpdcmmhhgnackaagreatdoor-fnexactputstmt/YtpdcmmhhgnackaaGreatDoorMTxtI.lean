/- impl.exprText, operandText: leaves, one kid. -/
/- Worlds that hold the tables of numbers too. -/
/- Phrases: append onto a slice without room, the program's phrase.and, .maybe, .text. -/
/- Rows of the call's own that grow. -/
/- append onto a phrase of the call's own; lists of names between brackets. -/
/- spec.PutExpr. -/
/- How the model writes a column. -/
/- How a rule is written. Nothing of the program. Written by tools/gen_prule.py. -/
/- (impl.exprForm).firstNeeds, secondNeeds. -/
import Derived.Test.YtpdcmmhhgnackaaGreatDoorMExprV
import Derived.Test.YtpdcmmhhgnackaaGreatDoorMOkI
import Derived.Test.YtpdcmmhhgnackaaGreatDoorMStAg
import Derived.Deep.RegionHeld3
import Derived.Test.YtpdcmmhhgnackaaGreatDoorMExSz
import Derived.Deep.AppendSrc
import Derived.Deep.Upon
import Derived.ArgAppend
import Derived.Test.YtpdcmmhhgnackaaGreatDoorMMem
import Derived.Test.YtpdcmmhhgnackaaGreatDoorMRuleI
import Derived.Test.YtpdcmmhhgnackaaGreatDoorMExTo
import Derived.Lib.Hide
namespace Go.Proofs.YtpdcmmhhgnackaaGreatDoor
open Go.RowKit

/-- The tables that the program reads. -/
structure Tabs (w : World) : Prop where
  forms : FormsAt w
  pow : Lib.TabIs Tryz.prog w "internal/strconv.uint64pow10" .u64 Lib.pow10Tab
  lt : 3 < w.heap.size

theorem Tabs.below {w w' : World} {B : Nat} (h : Tabs w) (hb : Below B w w') (hB : 4 ≤ B) : Tabs w' :=
  ⟨h.forms.below hb (by omega), var?_below hb gPow (by omega) h.pow, Nat.lt_of_lt_of_le h.lt hb.size⟩

theorem Tabs.big {w : World} (h : Tabs w) : 4 ≤ w.heap.size := by
  have h1 := h.lt
  have h2 := h.forms.1
  omega

def TxtP (d : Nat) : Prop := ∀ (e : Ex) (a : Option Addr) (c : Nat) (w : World), Tabs w → shapeE e = true → e.nodes ≤ 40 → KidsAt w d a c e.kids →
  Calls Tryz.prog 88 #[.agg #[.int .i64 e.kind, .string e.text, .int .i64 e.num, .slice a e.kids.length c]] w fun x w' => x = .returned (.string (tE e 1)) ∧ Below w.heap.size w w'

theorem nat_kind {e : Ex} (hs : shapeE e = true) : ∃ i : Nat, i < 19 ∧ e.kind = i := by
  obtain ⟨k, t, n, kids⟩ := e
  have := kind_in (shape_parts hs).1
  exact ⟨k.toNat, by omega, by show k = _; omega⟩

set_option maxRecDepth 100000 in
set_option maxHeartbeats 2000000 in
theorem opText0 (d : Nat) (ih : TxtP d) (i : Nat) (hi : i < 19) (t : ByteArray) (n : Int) (kids : List Ex) (a : Option Addr) (c : Nat) (m : Int) (w : World) (hT : Tabs w) (hs : shapeE (.mk i t n kids) = true) (hn : (Ex.mk i t n kids).nodes ≤ 40) (hm : 0 ≤ m) (hk : KidsAt w d a c kids) (r : ByteArray) (hr : tE (.mk i t n kids) m.toNat = r) :
    Calls Tryz.prog 125 #[.agg #[.int .i64 (i : Int), .string t, .int .i64 n, .slice a kids.length c], .int .i64 m] w fun x w' => x = .returned (.string r) ∧ Below w.heap.size w w' := by
  have HBX := Lib.hid (fun T => boxK_new w (i : Int) t n a kids.length c T)
  have HK := Lib.hid (fun w' hb => hk.below (w' := w') hb)
  have HT := Lib.hid (fun w' hb => hT.below (w' := w') (B := w.heap.size) hb hT.big)
  have hz := tE_size (L := 1) hs hn
  have HE := Lib.hid (tE_end (e := .mk i t n kids) (L := m.toNat) (s := tE (.mk i t n kids) 1) rfl)
  have hih : ∀ w, Tabs w → KidsAt w d a c kids → Calls Tryz.prog 88 #[.agg #[.int .i64 (i : Int), .string t, .int .i64 n, .slice a kids.length c]] w fun x w' => x = .returned (.string (tE (.mk i t n kids) 1)) ∧ Below w.heap.size w w' := fun w h1 h2 => ih (.mk i t n kids) a c w h1 hs hn h2
  obtain ⟨s, hs1⟩ : ∃ s, s = tE (.mk i t n kids) 1 := ⟨_, rfl⟩
  rw [← hs1] at hz HE hih
  have HRR := Lib.hid hr
  have l3 : (ByteArray.mk #[40]).size = 1 := rfl
  have l4 : (ByteArray.mk #[41]).size = 1 := rfl
  have ad1 : ∀ w, (Op.stringOp .add (ByteArray.mk #[40]) s).run Tryz.prog w = .ok (.string ((ByteArray.mk #[40]) ++ s)) w := fun w => run_string_add_sum w _ _ (by omega)
  have ad2 : ∀ w, (Op.stringOp .add ((ByteArray.mk #[40]) ++ s) (ByteArray.mk #[41])).run Tryz.prog w = .ok (.string ((ByteArray.mk #[40]) ++ s ++ (ByteArray.mk #[41]))) w := fun w => run_string_add_sum w _ _ (by rw [ByteArray.size_append]; omega)
  have hb0 : (0 : Int) ≤ (i : Int) := by omega
  have hb1 : (i : Int) < 19 := by omega
  have hst : ∃ st : Int, (bindsK (i : Int) : Int) = st := ⟨_, rfl⟩
  obtain ⟨st, hst⟩ := hst
  have HG : Hid (∀ o, (w.alloc o).cell? ⟨1, i * 4 + 1, none⟩ = some (.int .i64 st)) := fun o => by
    rw [← hst, ← fm_strength i hi]
    exact ((hT.forms.below ((Below.refl w.heap.size w).alloc (Nat.le_refl _) o) hT.forms.1).2 i hi).2.1
  have hg1 := HG.out (.cells #[.int .i64 (i : Int), .string t, .int .i64 n, .slice a kids.length c] 66)
  clear hk hT ih hr hs1
  by_cases hlt : st < m
  · have HR := Lib.hid (HE.out.1 (by show bindsK (i : Int) < m.toNat; omega))
    go_enter Tryz.func125, Tryz.ntmps125
    go_wp2_with fail
    refine (hih _ (HT.out _ (HBX.out _).bel) (HK.out _ (HBX.out _).bel)).mono ?_
    rintro x w2 ⟨rfl, hb2⟩
    have B2 := Lib.hid ((HBX.out _).below hb2).bel
    clear hb2 hg1
    go_wp2_with fail
    go_ret
    exact ⟨by rw [← HRR.out, HR.out]; rfl, B2.out⟩
  · have HR := Lib.hid (HE.out.2 (by show ¬ bindsK (i : Int) < m.toNat; omega))
    go_enter Tryz.func125, Tryz.ntmps125
    go_wp2_with fail
    refine (hih _ (HT.out _ (HBX.out _).bel) (HK.out _ (HBX.out _).bel)).mono ?_
    rintro x w2 ⟨rfl, hb2⟩
    have B2 := Lib.hid ((HBX.out _).below hb2).bel
    clear hb2 hg1
    go_wp2_with fail
    go_ret
    exact ⟨by rw [← HRR.out, HR.out]; rfl, B2.out⟩

theorem opText (d : Nat) (ih : TxtP d) (e : Ex) (a : Option Addr) (c : Nat) (m : Int) (w : World) (hT : Tabs w) (hs : shapeE e = true) (hn : e.nodes ≤ 40) (hm : 0 ≤ m) (hk : KidsAt w d a c e.kids) (r : ByteArray) (hr : tE e m.toNat = r) :
    Calls Tryz.prog 125 #[.agg #[.int .i64 e.kind, .string e.text, .int .i64 e.num, .slice a e.kids.length c], .int .i64 m] w fun x w' => x = .returned (.string r) ∧ Below w.heap.size w w' := by
  obtain ⟨i, hi, hik⟩ := nat_kind hs
  obtain ⟨k, t, n, kids⟩ := e
  have hik' : k = i := hik
  subst hik'
  exact opText0 d ih i hi t n kids a c m w hT hs hn hm hk r hr

/-- The box of the argument, and that of its form. -/
structure BoxF (w : World) (k : Int) (t : ByteArray) (n : Int) (a : Option Addr) (l c : Nat) (f0 f1 f2 : Int) (f3 : ByteArray) (w1 : World) : Prop where
  lt : w.heap.size + 1 < w1.heap.size
  c0 : w1.cell? ⟨w.heap.size, 0, none⟩ = some (.int .i64 k)
  c1 : w1.cell? ⟨w.heap.size, 1, none⟩ = some (.string t)
  c2 : w1.cell? ⟨w.heap.size, 2, none⟩ = some (.int .i64 n)
  c3 : w1.cell? ⟨w.heap.size, 3, none⟩ = some (.slice a l c)
  g0 : w1.cell? ⟨w.heap.size + 1, 0, none⟩ = some (.int .i64 f0)
  g1 : w1.cell? ⟨w.heap.size + 1, 1, none⟩ = some (.int .i64 f1)
  g2 : w1.cell? ⟨w.heap.size + 1, 2, none⟩ = some (.int .i64 f2)
  g3 : w1.cell? ⟨w.heap.size + 1, 3, none⟩ = some (.string f3)
  bel : Below w.heap.size w w1

theorem boxF_new (w : World) (k : Int) (t : ByteArray) (n : Int) (a : Option Addr) (l c : Nat) (f0 f1 f2 : Int) (f3 : ByteArray) (T T2 : TypeId) :
    BoxF w k t n a l c f0 f1 f2 f3 ((w.alloc (.cells #[.int .i64 k, .string t, .int .i64 n, .slice a l c] T)).alloc (.cells #[.int .i64 f0, .int .i64 f1, .int .i64 f2, .string f3] T2)) :=
  ⟨by simp, by simp [go_sem], by simp [go_sem], by simp [go_sem], by simp [go_sem], by simp [go_sem], by simp [go_sem], by simp [go_sem], by simp [go_sem], ((Below.refl _ _).alloc (Nat.le_refl _) _).alloc (by simp) _⟩

theorem BoxF.below {w w1 w2 : World} {k : Int} {t : ByteArray} {n : Int} {a : Option Addr} {l c : Nat} {f0 f1 f2 : Int} {f3 : ByteArray} (h : BoxF w k t n a l c f0 f1 f2 f3 w1) (hb : Below w1.heap.size w1 w2) : BoxF w k t n a l c f0 f1 f2 f3 w2 := by
  have e := fun o => hb.cell (p := ⟨w.heap.size, o, none⟩) (by have := h.lt; simp only; omega)
  have e' := fun o => hb.cell (p := ⟨w.heap.size + 1, o, none⟩) h.lt
  exact ⟨Nat.lt_of_lt_of_le h.lt hb.size, (e _).trans h.c0, (e _).trans h.c1, (e _).trans h.c2, (e _).trans h.c3, (e' _).trans h.g0, (e' _).trans h.g1, (e' _).trans h.g2, (e' _).trans h.g3, h.bel.trans (hb.mono h.bel.size)⟩

/-- What the table holds of a kind, in a world with one new block. -/
theorem forms_alloc {w : World} (hT : Tabs w) (i : Nat) (hi : i < 19) (o : Obj) :
    (w.alloc o).cell? ⟨1, i * 4, none⟩ = some (.int .i64 (fm i).kids) ∧ (w.alloc o).cell? ⟨1, i * 4 + 1, none⟩ = some (.int .i64 (fm i).strength) ∧
    (w.alloc o).cell? ⟨1, i * 4 + 2, none⟩ = some (.int .i64 (fm i).token) ∧ (w.alloc o).cell? ⟨1, i * 4 + 3, none⟩ = some (.string (txt (fm i).text)) :=
  (hT.forms.below ((Below.refl w.heap.size w).alloc (Nat.le_refl _) o) hT.forms.1).2 i hi

set_option maxRecDepth 100000 in
set_option maxHeartbeats 4000000 in
theorem txtLeaf (k : Int) (t : ByteArray) (n : Int) (a : Option Addr) (c : Nat) (w : World) (hT : Tabs w) (h : node1 k t n 0 = true) :
    Calls Tryz.prog 88 #[.agg #[.int .i64 k, .string t, .int .i64 n, .slice a 0 c]] w fun x w' => x = .returned (.string (tE (.mk k t n []) 1)) ∧ Below w.heap.size w w' := by
  have hk := zero_kids (arity h)
  have hts := small_text h
  have hns := small_num h
  have HT := Lib.hid (fun w' hb => hT.below (w' := w') (B := w.heap.size) hb hT.big)
  have HG := Lib.hid (forms_alloc hT)
  clear h hT
  rcases hk with rfl | rfl | rfl | rfl | rfl | rfl
  · have HBX := Lib.hid (fun T T2 => boxF_new w 0 t n a 0 c 0 7 0 (txt []) T T2)
    obtain ⟨g0, g1, g2, g3⟩ := HG.out 0 (by omega) (.cells #[.int .i64 0, .string t, .int .i64 n, .slice a 0 c] 66)
    change _ = some (Value.int .i64 0) at g0; change _ = some (Value.int .i64 7) at g1; change _ = some (Value.int .i64 0) at g2; change _ = some (Value.string (txt [])) at g3
    obtain ⟨r, hr⟩ : ∃ r, nameT t = r := ⟨_, rfl⟩
    have HE : Hid (tE (.mk 0 t n []) 1 = r) := by unfold Hid; rw [tE_name, hr]
    go_enter Tryz.func88, Tryz.ntmps88
    go_wp2_with (go_at_call 30; refine (implPutName t _ (by omega) r hr).mono ?_; rintro e w2 ⟨rfl, hb2⟩)
    go_ret
    exact ⟨by rw [HE.out]; rfl, ((HBX.out _ _).below hb2).bel⟩
  · have HBX := Lib.hid (fun T T2 => boxF_new w 1 t n a 0 c 0 7 0 (txt []) T T2)
    obtain ⟨g0, g1, g2, g3⟩ := HG.out 1 (by omega) (.cells #[.int .i64 1, .string t, .int .i64 n, .slice a 0 c] 66)
    change _ = some (Value.int .i64 0) at g0; change _ = some (Value.int .i64 7) at g1; change _ = some (Value.int .i64 0) at g2; change _ = some (Value.string (txt [])) at g3
    have HE : Hid (tE (.mk 1 t n []) 1 = dec n) := by unfold Hid; rw [tE_num]
    go_enter Tryz.func88, Tryz.ntmps88
    go_wp2_with (go_at_call 82; refine (implDecText n _ (by omega) (by omega) (HT.out _ (HBX.out _ _).bel).pow).mono ?_; rintro e w2 ⟨rfl, hb2⟩)
    go_ret
    exact ⟨by rw [HE.out]; rfl, ((HBX.out _ _).below hb2).bel⟩
  · have HBX := Lib.hid (fun T T2 => boxF_new w 2 t n a 0 c 0 7 0 (txt []) T T2)
    obtain ⟨g0, g1, g2, g3⟩ := HG.out 2 (by omega) (.cells #[.int .i64 2, .string t, .int .i64 n, .slice a 0 c] 66)
    change _ = some (Value.int .i64 0) at g0; change _ = some (Value.int .i64 7) at g1; change _ = some (Value.int .i64 0) at g2; change _ = some (Value.string (txt [])) at g3
    have HE : Hid (tE (.mk 2 t n []) 1 = quoteT t 39) := by unfold Hid; rw [tE_text]
    go_enter Tryz.func88, Tryz.ntmps88
    go_wp2_with (go_at_call 79; refine (implQuote t 39 _ (by omega)).mono ?_; rintro e w2 ⟨rfl, hb2⟩)
    go_ret
    exact ⟨by rw [HE.out]; rfl, ((HBX.out _ _).below hb2).bel⟩
  · have HBX := Lib.hid (fun T T2 => boxF_new w 3 t n a 0 c 0 7 0 (txt wTrue) T T2)
    obtain ⟨g0, g1, g2, g3⟩ := HG.out 3 (by omega) (.cells #[.int .i64 3, .string t, .int .i64 n, .slice a 0 c] 66)
    change _ = some (Value.int .i64 0) at g0; change _ = some (Value.int .i64 7) at g1; change _ = some (Value.int .i64 0) at g2; change _ = some (Value.string (txt wTrue)) at g3
    have HE : Hid (tE (.mk 3 t n []) 1 = txt wTrue) := by unfold Hid; rw [tE_true]
    go_enter Tryz.func88, Tryz.ntmps88
    go_wp2_with fail
    go_ret
    exact ⟨by rw [HE.out]; rfl, (HBX.out _ _).bel⟩
  · have HBX := Lib.hid (fun T T2 => boxF_new w 4 t n a 0 c 0 7 0 (txt wFalse) T T2)
    obtain ⟨g0, g1, g2, g3⟩ := HG.out 4 (by omega) (.cells #[.int .i64 4, .string t, .int .i64 n, .slice a 0 c] 66)
    change _ = some (Value.int .i64 0) at g0; change _ = some (Value.int .i64 7) at g1; change _ = some (Value.int .i64 0) at g2; change _ = some (Value.string (txt wFalse)) at g3
    have HE : Hid (tE (.mk 4 t n []) 1 = txt wFalse) := by unfold Hid; rw [tE_false]
    go_enter Tryz.func88, Tryz.ntmps88
    go_wp2_with fail
    go_ret
    exact ⟨by rw [HE.out]; rfl, (HBX.out _ _).bel⟩
  · have HBX := Lib.hid (fun T T2 => boxF_new w 5 t n a 0 c 0 7 0 (txt wNull) T T2)
    obtain ⟨g0, g1, g2, g3⟩ := HG.out 5 (by omega) (.cells #[.int .i64 5, .string t, .int .i64 n, .slice a 0 c] 66)
    change _ = some (Value.int .i64 0) at g0; change _ = some (Value.int .i64 7) at g1; change _ = some (Value.int .i64 0) at g2; change _ = some (Value.string (txt wNull)) at g3
    have HE : Hid (tE (.mk 5 t n []) 1 = txt wNull) := by unfold Hid; rw [tE_nul]
    go_enter Tryz.func88, Tryz.ntmps88
    go_wp2_with fail
    go_ret
    exact ⟨by rw [HE.out]; rfl, (HBX.out _ _).bel⟩

end Go.Proofs.YtpdcmmhhgnackaaGreatDoor

namespace Go.Proofs.YtpdcmmhhgnackaaGreatDoor
open Go.RowKit

theorem Tabs.call {w w' : World} (h : Tabs w) (hb : Below w.heap.size w w') : Tabs w' := h.below hb h.big

structure TabR (w : World) : Prop where
  tabs : Tabs w
  rules : RulesAt w
theorem TabR.call {w w' : World} (h : TabR w) (hb : Below w.heap.size w w') : TabR w' := ⟨h.tabs.call hb, h.rules.call hb⟩
theorem TabR.formR {w : World} (h : TabR w) : FormR w := ⟨h.tabs.forms, h.rules⟩

theorem tabs_of {W : World} {rest rest' : List (String × DataW Unit)} (h : laidMet Tryz.prog (("internal/strconv.uint64pow10", Rows.laid_internal_strconv_uint64pow10) :: rest) W)
    (h' : laidMet Tryz.prog (("loop.example/g00751/impl.exprForms", Rows.laid_loop_example_g00751_impl_exprForms) :: rest') W) : Tabs W := by
  have hp := powTab_of h
  have hcell : W.cell? ⟨3, 0, none⟩ = some (.int .u64 (Lib.pow10Tab.getD 0 0)) := hp.cell gPow 0 (by rw [Lib.pow10Tab_length]; omega)
  exact ⟨formsAt_of h', hp, World.block_lt_of_cell? W ⟨3, 0, none⟩ hcell⟩

end Go.Proofs.YtpdcmmhhgnackaaGreatDoor

namespace Go.Proofs.YtpdcmmhhgnackaaGreatDoor
open Go.RowKit

theorem lets_cons (x : ByteArray) (r : List ByteArray) : lets (x :: r) = x.size + lets r := by simp [lets]

set_option maxRecDepth 100000 in
theorem strs_src {w : World} {tx : TypeId} {a : Option Addr} {c : Nat} {ys : List ByteArray} (hk : Tryz.prog.underlying tx = some (.slice 9)) (h : Strs w a c ys) : Src Tryz.prog 1 tx (.slice a ys.length c) ys.length (ys.map Value.string) w := by
  cases a with
  | none =>
    have hl : ys = [] := by
      cases ys with
      | nil => rfl
      | cons y r => obtain ⟨_, _, h0, _⟩ := h.2.2.2.2 (by simp); cases h0
    subst hl
    exact Src.ofNil w hk c
  | some ad =>
    refine Src.ofSlice w hk ad ys.length c _ (by simp) (fun j u hu => ?_) (strings_one ys)
    have hj : j < ys.length := by
      rcases Nat.lt_or_ge j ys.length with h | h
      · exact h
      · rw [List.getElem?_eq_none (by simpa using h)] at hu; cases hu
    obtain ⟨b, off, hb, _, hc⟩ := h.spot hj
    cases hb
    rw [List.getElem?_map, List.getElem?_eq_getElem hj] at hu
    cases hu
    rw [← hc]
    congr 1
    unfold Addr.add
    by_cases h0 : j = 0 <;> simp [h0]

set_option maxRecDepth 100000 in
theorem strs_first {w : World} {a : Option Addr} {c : Nat} {xs : List ByteArray} (h : Strs w a c xs) : (Builtin.firstCells 1 xs.length (.slice a xs.length xs.length)).run Tryz.prog w.drew = .ok (xs.map Value.string).toArray w.drew := by
  cases a with
  | none =>
    have hl : xs = [] := by
      cases xs with
      | nil => rfl
      | cons y r => obtain ⟨_, _, h0, _⟩ := h.2.2.2.2 (by simp); cases h0
    subst hl
    exact run_firstCells_none w.drew 1 0 0 0
  | some ad =>
    refine run_firstCells_some w.drew 1 xs.length ad xs.length xs.length _ (by simp) (fun j u hu => ?_)
    have hj : j < xs.length := by
      rcases Nat.lt_or_ge j xs.length with h | h
      · exact h
      · rw [List.getElem?_eq_none (by simpa using h)] at hu; cases hu
    obtain ⟨b, off, hb, _, hc⟩ := h.spot hj
    cases hb
    rw [List.getElem?_map, List.getElem?_eq_getElem hj] at hu
    cases hu
    simp only [World.cell?_drew]
    rw [← hc]
    congr 1
    unfold Addr.add
    by_cases h0 : j = 0 <;> simp [h0]

/-- append onto a slice that has no room behind its length. -/
theorem run_full (w : World) (t tx ty : TypeId) (ht : Tryz.prog.underlying t = some (.slice 9)) (htx : Tryz.prog.underlying tx = some (.slice 9)) (i0 : TypeInfo) (hi0 : Tryz.prog.info? 9 = some i0)
    (hz0 : i0.zero = some (.string ByteArray.empty)) (hz1 : i0.size = 1) (hz2 : i0.bytes = 16) (a : Option Addr) (c : Nat) (xs : List ByteArray) (hx : Strs w a c xs) (a2 : Option Addr) (c2 : Nat) (ys : List ByteArray) (hy : Strs w a2 c2 ys)
    (hn : xs.length + ys.length ≤ 1048576) :
    ∃ a' c' w', (Builtin.append_ #[t, tx] ty #[.slice a xs.length xs.length, .slice a2 ys.length c2]).run Tryz.prog w = .ok (.slice a' (xs ++ ys).length c') w' ∧ Strs w' a' c' (xs ++ ys) ∧ Below w.heap.size w w' := by
  have hsrc := strs_src (tx := tx) htx hy
  cases ys with
  | nil =>
    refine ⟨a, xs.length, w, ?_, ?_, Below.refl _ _⟩
    · rw [List.append_nil]
      exact run_append_nothing w t tx ty 9 i0 ht hi0 a xs.length xs.length (Nat.le_refl _) _ (by rw [hz1]; exact hsrc)
    · rw [List.append_nil]
      obtain ⟨h1, h2, h3, h4, h5⟩ := hx
      exact ⟨Nat.le_refl _, by omega, h3, fun ha => by have := h4 ha; omega, h5⟩
  | cons y r =>
    have hg : xs.length < xs.length + (y :: r).length := by simp
    have hb16 : (xs.length + (y :: r).length) * i0.bytes ≤ 140737488355328 := by rw [hz2]; omega
    have h63 : xs.length + (y :: r).length ≤ maxLen := by unfold maxLen; omega
    have hge := grownCap_ge w (xs.length + (y :: r).length) xs.length 9
    have hcm : grownCap w (xs.length + (y :: r).length) xs.length 9 ≤ maxLen := grownCap_le_maxLen w _ _ _ h63
    have hr := run_append_grow_src (P := Tryz.prog) w t tx ty 9 i0 _ ht hi0 hz0 a xs.length xs.length (xs.map Value.string) (by rw [hz1]; exact strs_first hx) (.slice a2 (y :: r).length c2) (y :: r).length ((y :: r).map Value.string) (by rw [hz1]; exact hsrc) hg (by omega) (growslice_fits hg hb16)
    have hown : Own (w.drew.alloc (.cells ((xs.map Value.string ++ (y :: r).map Value.string).toArray ++ Builtin.zeroCells (Value.string ByteArray.empty).cells (grownCap w (xs.length + (y :: r).length) xs.length 9 - (xs.length + (y :: r).length))) 9)) w.heap.size (some ⟨w.heap.size, 0, none⟩) (grownCap w (xs.length + (y :: r).length) xs.length 9) (xs ++ y :: r) := by
      unfold Own
      refine ⟨by simp, .inr ⟨w.heap.size, _, _, rfl, Nat.le_refl _, heap_alloc_new w.drew _, ?_, hcm, ?_, ?_⟩⟩
      · rw [List.length_append]; exact hge
      · simp only [Array.size_append, List.size_toArray, size_zeroCells, List.length_append, List.length_map]
        rw [show (Value.string ByteArray.empty).cells.size = 1 from rfl]
        omega
      · simp only [Array.toList_append]
        rw [show (xs ++ y :: r).length * 1 = (xs.map Value.string ++ (y :: r).map Value.string).length by simp]
        rw [List.take_left, List.map_append]
    refine ⟨some ⟨w.heap.size, 0, none⟩, _, _, ?_, hown.strs ?_, ?_⟩
    · rw [List.length_append]; exact hr
    · intro s hs
      rcases List.mem_append.1 hs with h | h
      · exact hx.2.2.1 s h
      · exact hy.2.2.1 s h
    · exact (below_drewE (Below.refl _ _)).alloc (by simp) _

theorem wpAppendFull {w : World} {ops : Array Oper} {rest : List Oper} {o : Oper} {A : Act} {Q : Exit → Act → World → Prop} (hgd : o.guard = none) (s x : Operand) (t tx : TypeId)
    (ho : o.op = .call { callee := .builtin .append, args := #[s, x], argTypes := #[t, tx] })
    (ht : Tryz.prog.underlying t = some (.slice 9)) (htx : Tryz.prog.underlying tx = some (.slice 9)) (i0 : TypeInfo) (hi0 : Tryz.prog.info? 9 = some i0)
    (hz0 : i0.zero = some (.string ByteArray.empty)) (hz1 : i0.size = 1) (hz2 : i0.bytes = 16) (a : Option Addr) (c : Nat) (xs : List ByteArray) (hs : A.eval s = .slice a xs.length xs.length) (hxs : Strs w a c xs)
    (a2 : Option Addr) (c2 : Nat) (ys : List ByteArray) (hx : A.eval x = .slice a2 ys.length c2) (hys : Strs w a2 c2 ys) (hn : xs.length + ys.length ≤ 1048576)
    (h : ∀ a' c' w', Strs w' a' c' (xs ++ ys) → Below w.heap.size w w' → wpList Tryz.prog ops Q rest (A.put o.dst (.slice a' (xs ++ ys).length c')) w') :
    wpList Tryz.prog ops Q (o :: rest) A w := by
  refine wpList_plain hgd fun K hK' => ?_
  obtain ⟨a', c', w', hrun, h1, h2⟩ := run_full w t tx o.type ht htx i0 hi0 hz0 hz1 hz2 a c xs hxs a2 c2 ys hys hn
  unfold Oper.wp
  simp [execOp, ho, resolve, invoke, builtin, hs, hx, hrun, Result.andThen]
  have := hK' _ _ (h a' c' w' h1 h2)
  rw [List.length_append] at this
  exact this

set_option maxHeartbeats 1000000 in
theorem phraseText (a : Option Addr) (c : Nat) (xs : List ByteArray) (w : World) (hx : Strs w a c xs) (hJ : lets xs + xs.length ≤ 1073741824) (r : ByteArray) (hr : joinT xs (txt [32]) = r) :
    Calls Tryz.prog 34 #[.slice a xs.length c] w fun e w' => e = .returned (.string r) ∧ Below w.heap.size w w' := by
  have HR := Lib.hid hr
  clear hr
  go_enter Tryz.func34, Tryz.ntmps34
  go_wp2_with fail
  refine (implJoin a c xs (txt [32]) _ hx (by have : (txt [32]).size = 1 := rfl; rw [this]; omega) (by omega)).mono ?_
  rintro e w1 ⟨rfl, b1⟩
  rw [HR.out]
  go_wp2_with fail
  go_ret
  exact ⟨rfl, b1⟩

set_option maxHeartbeats 2000000 in
theorem phraseAnd (a : Option Addr) (c : Nat) (xs : List ByteArray) (a2 : Option Addr) (c2 : Nat) (ys : List ByteArray) (w : World) (hx : Strs w a c xs) (hy : Strs w a2 c2 ys) (ha : a = none ∨ ∃ b off, a = some ⟨b, off, none⟩) (hn : xs.length + ys.length ≤ 1048576) :
    Calls Tryz.prog 32 #[.slice a xs.length c, .slice a2 ys.length c2] w fun e w' => ∃ a' c', e = .returned (.slice a' (xs ++ ys).length c') ∧ Strs w' a' c' (xs ++ ys) ∧ Below w.heap.size w w' := by
  obtain ⟨i0, hi0, hi1⟩ := Option.map_eq_some_iff.1 Tryz.infoString
  have hz0 : i0.zero = some (.string ByteArray.empty) := (Prod.mk.inj hi1).1
  have hz1 : i0.size = 1 := (Prod.mk.inj (Prod.mk.inj hi1).2).1
  have hz2 : i0.bytes = 16 := (Prod.mk.inj (Prod.mk.inj hi1).2).2
  have hle : xs.length ≤ c := hx.1
  have hcm : c ≤ 9223372036854775807 := by have := hx.2.1; unfold maxLen at this; omega
  have hsl : ∃ A2, A2 = a ∧ ∀ W, (Instr.slice 69 (.slice a xs.length c) none (some (.int .i64 (xs.length : Int))) (some (.int .i64 (xs.length : Int)))).run Tryz.prog W = .ok (.slice A2 xs.length xs.length) W := by
    refine ⟨a, rfl, fun W => ?_⟩
    rcases ha with rfl | ⟨b, off, rfl⟩
    · have h0 := hx.2.2.2.1 rfl
      have hl0 : xs.length = 0 := by omega
      subst h0
      rw [hl0]
      simp [go_sem]
    · simp [go_sem]
      omega
  obtain ⟨A2, hA2, hsl⟩ := hsl
  have HX : Hid (Strs w A2 c xs) := by rw [hA2]; exact hx
  have HY := Lib.hid hy
  clear hx hy ha hA2
  go_enter Tryz.func32, Tryz.ntmps32
  go_wp2_with (at_builtin; refine wpAppendFull rfl _ _ 69 36 rfl Tryz.underlying69 Tryz.underlying36 i0 hi0 hz0 hz1 hz2 A2 c xs rfl HX.out a2 c2 ys rfl HY.out hn ?_; intro a' c' w' hs' hb')
  go_ret
  exact ⟨_, _, by rw [List.length_append]; rfl, hs', hb'⟩

end Go.Proofs.YtpdcmmhhgnackaaGreatDoor

namespace Go.Proofs.YtpdcmmhhgnackaaGreatDoor
open Go.RowKit

theorem strsOne (w : World) (s : ByteArray) (hs : s.size ≤ maxLen) : Strs (w.alloc (.cells #[.string s] 9)) (some ⟨w.heap.size, 0, none⟩) 1 [s] := by
  refine ⟨by simp, by unfold maxLen; omega, by simpa using hs, (fun h => by cases h), fun _ => ⟨w.heap.size, 0, rfl, by simp, fun i hi => ?_⟩⟩
  have : i = 0 := by simpa using hi
  subst this
  simp [go_sem]

theorem Own.alloc {w : World} {B : Nat} {a : Option Addr} {c : Nat} {xs : List ByteArray} (h : Own w B a c xs) (o : Obj) : Own (w.alloc o) B a c xs :=
  h.below ((Below.refl _ _).alloc (Nat.le_refl _) _)

theorem Own.drewN {w : World} {B : Nat} {a : Option Addr} {c : Nat} {xs : List ByteArray} (h : Own w B a c xs) (n : Nat) : Own (w.drewN n) B a c xs :=
  h.below (below_drewN (Below.refl _ _) n)

theorem ownEmpty (w : World) : Own (w.alloc (.cells #[] 9)) w.heap.size (some ⟨w.heap.size, 0, none⟩) 0 [] := by
  have := World.ownsRow_lit (base := w.heap.size) (e := 9) (size := 1) w #[] 0 (Nat.le_refl _) (by unfold maxLen; omega) rfl
  exact this

/-- A row of the call's own, one text appended behind a new block: what is below stays. -/
theorem appended {w wr w2 : World} {B : Nat} {a : Option Addr} {c : Nat} {ys : List ByteArray} (hb : Below B w wr) (hBw : B ≤ w.heap.size) (hown : Own wr B a c ys) {o : Obj} (hg : (wr.alloc o).grownBy w2 (Value.slice a ys.length c).ownBlock) : Below B w w2 := by
  have h1 : Below B w (wr.alloc o) := hb.alloc (Nat.le_trans hBw hb.size) o
  exact h1.grown hg (by have := hb.size; simp; omega) (fun k hk => (hown.lt hk).1)

end Go.Proofs.YtpdcmmhhgnackaaGreatDoor

namespace Go.Proofs.YtpdcmmhhgnackaaGreatDoor
open Go.RowKit

set_option maxRecDepth 100000 in
theorem wpAppendPh {w : World} {ops : Array Oper} {rest : List Oper} {o : Oper} {A : Act} {Q : Exit → Act → World → Prop} (hgd : o.guard = none) (s x : Operand)
    (ho : o.op = .call { callee := .builtin .append, args := #[s, x], argTypes := #[69, 69] })
    (i0 : TypeInfo) (hi0 : Tryz.prog.info? 9 = some i0) (hz0 : i0.zero = some (.string ByteArray.empty)) (hz1 : i0.size = 1) (hz2 : i0.bytes = 16)
    (B : Nat) (a : Option Addr) (c : Nat) (xs : List ByteArray) (a1 : Option Addr) (c1 : Nat) (ys : List ByteArray)
    (hs : A.eval s = .slice a xs.length c) (hown : Own w B a c xs) (hx : A.eval x = .slice a1 ys.length c1) (hy : Strs w a1 c1 ys)
    (hn : xs.length + ys.length ≤ 8388608) (hB : B ≤ w.heap.size)
    (h : ∀ a' c' w', Own w' B a' c' (xs ++ ys) → w.grownBy w' (Value.slice a xs.length c).ownBlock → wpList Tryz.prog ops Q rest (A.put o.dst (.slice a' (xs ++ ys).length c')) w') :
    wpList Tryz.prog ops Q (o :: rest) A w := by
  cases a1 with
  | none =>
    have hc1 : c1 = 0 := hy.2.2.2.1 rfl
    have hl : ys = [] := by
      cases ys with
      | nil => rfl
      | cons y r => obtain ⟨_, _, h0, _⟩ := hy.2.2.2.2 (by simp); cases h0
    subst hc1 hl
    refine wpList_append_own_none hgd s x 69 ho B 9 i0 1 Tryz.underlying69 hi0 (.slice a xs.length c) xs.length (xs.map Value.string) hs hown hx ?_
    have := h a c w (by simpa using hown) (World.grownBy.refl w _)
    simpa using this
  | some ad =>
    refine wpList_append_own_at _ hgd s x 69 ho B 9 i0 (.string ByteArray.empty) 1 16 Tryz.underlying69 hi0 hz0 hz1 hz2 rfl (by decide) (.slice a xs.length c) xs.length (xs.map Value.string) hs hown
      ad ys.length c1 (ys.map Value.string) hx (by simp) ?_ (strings_one ys) (by unfold maxLen; omega) (by omega) hB ?_
    · intro j u hu
      have hj : j < ys.length := by
        rcases Nat.lt_or_ge j ys.length with h | h
        · exact h
        · rw [List.getElem?_eq_none (by simpa using h)] at hu; cases hu
      obtain ⟨b, off, hb, _, hc⟩ := hy.spot hj
      cases hb
      rw [List.getElem?_map, List.getElem?_eq_getElem hj] at hu
      cases hu
      rw [← hc]
      congr 1
      unfold Addr.add
      by_cases h0 : j = 0 <;> simp [h0]
    · intro v' w' hown' hg _ _
      have hf : ∃ a' c', v' = .slice a' (xs.length + ys.length) c' := by
        rcases hown'.2 with ⟨rfl, h0⟩ | ⟨g, cap, cur, rfl, _⟩
        · exact ⟨none, 0, by rw [h0]⟩
        · exact ⟨_, _, rfl⟩
      obtain ⟨a', c', rfl⟩ := hf
      have := h a' c' w' (by unfold Own; simpa using hown') hg
      simpa using this

theorem joinT_size (xs : List ByteArray) (s : ByteArray) : (joinT xs s).size = (joinL xs s).length := by
  show (joinL xs s).toArray.size = _
  simp

theorem strsOne1 (w : World) (s : ByteArray) (hs : s.size ≤ maxLen) : Strs (w.alloc (.cells #[.string s] 9)) (some ⟨w.heap.size, 0, none⟩) 1 [s] := strsOne w s hs

set_option maxHeartbeats 1000000 in
theorem inParens (a : Option Addr) (c : Nat) (xs : List ByteArray) (w : World) (hx : Strs w a c xs) (hJ : lets xs + xs.length * 2 ≤ 1073741824) (r : ByteArray) (hr : txt [40] ++ joinT xs (txt [44, 32]) ++ txt [41] = r) :
    Calls Tryz.prog 42 #[.slice a xs.length c] w fun e w' => e = .returned (.string r) ∧ Below w.heap.size w w' := by
  have hz : (joinT xs (txt [44, 32])).size ≤ 1073741824 := by
    have h := joinL_len xs (txt [44, 32]) xs.length (Nat.le_refl _)
    rw [List.take_length] at h
    have e2 : (txt [44, 32]).size = 2 := rfl
    rw [e2] at h
    have e3 : (joinT xs (txt [44, 32])).size = (joinL xs (txt [44, 32])).length := joinT_size _ _
    omega
  have HR := Lib.hid hr
  obtain ⟨J, hJ1⟩ : ∃ J, joinT xs (txt [44, 32]) = J := ⟨_, rfl⟩
  have HJ1 := Lib.hid hJ1
  rw [hJ1] at hz
  have y1 : (ByteArray.mk #[40]).size = 1 := rfl
  have y2 : (ByteArray.mk #[41]).size = 1 := rfl
  obtain ⟨p1, hp1⟩ : ∃ p, p = (ByteArray.mk #[40]) ++ J := ⟨_, rfl⟩
  have z1 : p1.size ≤ 1073741825 := by rw [hp1, ByteArray.size_append]; omega
  obtain ⟨p2, hp2⟩ : ∃ p, p = p1 ++ (ByteArray.mk #[41]) := ⟨_, rfl⟩
  have HV : Hid (r = p2) := by unfold Hid; rw [← hr, hp2, hp1, hJ1]; rfl
  have ad1 : ∀ w, (Op.stringOp .add (ByteArray.mk #[40]) J).run Tryz.prog w = .ok (.string p1) w := fun w => by rw [hp1]; exact run_string_add_sum w _ _ (by omega)
  have ad2 : ∀ w, (Op.stringOp .add p1 (ByteArray.mk #[41])).run Tryz.prog w = .ok (.string p2) w := fun w => by rw [hp2]; exact run_string_add_sum w _ _ (by omega)
  clear hr hJ1 hp1 hp2
  go_enter Tryz.func42, Tryz.ntmps42
  go_wp2_with fail
  refine (implJoin a c xs (txt [44, 32]) _ hx (by have : (txt [44, 32]).size = 2 := rfl; rw [this]; omega) (by omega)).mono ?_
  rintro e w1 ⟨rfl, b1⟩
  rw [HJ1.out]
  go_wp2_with fail
  go_ret
  exact ⟨by rw [HV.out] <;> rfl, b1⟩

theorem lets_map (f : ByteArray → ByteArray) (xs : List ByteArray) (k : Nat) (h : ∀ s ∈ xs, (f s).size ≤ k) : lets (xs.map f) ≤ xs.length * k := by
  induction xs with
  | nil => simp [lets]
  | cons x r ih =>
    have h1 := h x (by simp)
    have h2 := ih fun s hs => h s (by simp [hs])
    simp only [List.map_cons, lets_cons, List.length_cons, Nat.add_mul]
    omega

set_option maxRecDepth 100000 in
set_option maxHeartbeats 2000000 in
theorem specListT (a : Option Addr) (c : Nat) (xs : List ByteArray) (w : World) (hx : Strs w a c xs) (hn : xs.length ≤ 100) (hs : ∀ s ∈ xs, nmB s = true) (r : ByteArray) (hr : listT xs = r) :
    Calls Tryz.prog 39 #[.slice a xs.length c] w fun e w' => e = .returned (.string r) ∧ Below w.heap.size w w' := by
  obtain ⟨i0, hi0, hi1⟩ := Option.map_eq_some_iff.1 Tryz.infoString
  have hz0 : i0.zero = some (.string ByteArray.empty) := (Prod.mk.inj hi1).1
  have hz1 : i0.size = 1 := (Prod.mk.inj (Prod.mk.inj hi1).2).1
  have hz2 : i0.bytes = 16 := (Prod.mk.inj (Prod.mk.inj hi1).2).2
  have hl := hx.len
  have HX := Lib.hid (fun w' (hb : Below w.heap.size w w') => hx.below hb)
  have HS := Lib.hid hs
  have hlet := lets_map nameT xs 82 fun s h => nameT_small (hs s h)
  have hz : (joinT (xs.map nameT) (txt [44, 32])).size ≤ 1000000 := by
    have h := joinL_len (xs.map nameT) (txt [44, 32]) (xs.map nameT).length (Nat.le_refl _)
    rw [List.take_length] at h
    have e2 : (txt [44, 32]).size = 2 := rfl
    have e3 : (joinT (xs.map nameT) (txt [44, 32])).size = (joinL (xs.map nameT) (txt [44, 32])).length := joinT_size _ _
    rw [e2, List.length_map] at h
    omega
  have HLT := Lib.hid hlet
  obtain ⟨J, hJ1⟩ : ∃ J, joinT (xs.map nameT) (txt [44, 32]) = J := ⟨_, rfl⟩
  have HJ1 := Lib.hid hJ1
  rw [hJ1] at hz
  have y1 : (ByteArray.mk #[40]).size = 1 := rfl
  have y2 : (ByteArray.mk #[41]).size = 1 := rfl
  obtain ⟨p1, hp1⟩ : ∃ p, p = (ByteArray.mk #[40]) ++ J := ⟨_, rfl⟩
  have z1 : p1.size ≤ 1073741825 := by rw [hp1, ByteArray.size_append]; omega
  obtain ⟨p2, hp2⟩ : ∃ p, p = p1 ++ (ByteArray.mk #[41]) := ⟨_, rfl⟩
  have HV : Hid (r = p2) := by unfold Hid; rw [← hr, hp2, hp1]; unfold listT; rw [hJ1]; rfl
  have ad1 : ∀ w, (Op.stringOp .add (ByteArray.mk #[40]) J).run Tryz.prog w = .ok (.string p1) w := fun w => by rw [hp1]; exact run_string_add_sum w _ _ (by omega)
  have ad2 : ∀ w, (Op.stringOp .add p1 (ByteArray.mk #[41])).run Tryz.prog w = .ok (.string p2) w := fun w => by rw [hp2]; exact run_string_add_sum w _ _ (by omega)
  have HJo : Hid (∀ W a1 c1, Strs W a1 c1 (xs.map nameT) → Calls Tryz.prog 86 #[.slice a1 xs.length c1, .string (ByteArray.mk #[44, 32])] W fun e w' => e = .returned (.string J) ∧ Below W.heap.size W w') := by
    intro W a1 c1 h
    have h1 := specJoin a1 c1 (xs.map nameT) (txt [44, 32]) W h (by rw [List.length_map, show (txt [44, 32]).size = 2 from rfl]; omega)
    rw [List.length_map, hJ1] at h1
    exact h1
  clear hr hJ1 hp1 hp2 hx hs hlet
  go_enter Tryz.func39, Tryz.ntmps39
  go_wp2
  go_loopw [3, 4] (fun v i wr => ∃ (k : Nat) (a1 : Option Addr) (c1 : Nat) (l : List ByteArray), k ≤ xs.length ∧ i = .int .i64 k ∧ v = .slice a1 l.length c1 ∧ Hid (l = (xs.take k).map nameT ∧ Own wr w.heap.size a1 c1 l) ∧ Below w.heap.size w wr) (fun _ i _ => xs.length - (intOf i).toNat)
  case atStart => exact ⟨0, some ⟨w.heap.size, 0, none⟩, 0, [], Nat.zero_le _, rfl, rfl, ⟨rfl, ownEmpty w⟩, (Below.refl _ _).alloc (Nat.le_refl _) _⟩
  case round =>
    obtain ⟨k, a1, c1, l, hk, rfl, rfl, hown, hb⟩ := hrel
    have hsz := hb.size
    by_cases hlt : k < xs.length
    · obtain ⟨b, off, rfl, hbl, hc⟩ := (HX.out _ hb).spot hlt
      have hnk := HS.out xs[k] (List.getElem_mem hlt)
      have hll : l.length = k := by rw [hown.out.1]; simp; omega
      obtain ⟨N, hN⟩ : ∃ N, nameT xs[k] = N := ⟨_, rfl⟩
      have hNz : N.size ≤ 82 := by rw [← hN]; exact nameT_small hnk
      have hNm : N.size ≤ maxLen := by unfold maxLen; omega
      have HNN := Lib.hid hN
      have HLN : Hid (l ++ [N] = (xs.take (k + 1)).map nameT) := by unfold Hid; rw [hown.out.1, List.take_succ_eq_append_getElem hlt, List.map_append, ← hN]; rfl
      have HO := Lib.hid hown.out.2
      have HZ := Lib.hid (nmB_size hnk)
      have HL := Lib.hid hll
      clear hown hN hll hnk
      go_wp2_with fail
      refine (specPutName xs[k] _ (by have := HZ.out; omega) N HNN.out).mono ?_
      rintro e w2 ⟨rfl, b2⟩
      have B2 := Lib.hid (hb.trans (b2.mono hsz))
      have HO2 := Lib.hid (HO.out.below b2)
      have hsz2 := B2.out.size
      clear b2
      go_wp2_with (at_builtin; refine wpAppendStrs rfl _ _ rfl i0 hi0 hz0 hz1 hz2 w.heap.size a1 c1 l (some ⟨_, 0, none⟩) 1 [N] rfl (HO2.out.alloc _) rfl (strsOne _ _ hNm) (by have := HL.out; simp only [List.length_cons, List.length_nil]; omega) (by simp; omega) ?_; intro a3 c3 w3 hown3 hg3)
      have B3 := Lib.hid (appended B2.out (Nat.le_refl _) HO2.out hg3)
      have HO3 := Lib.hid hown3
      clear hown3 hg3
      go_roundw
      case rel => exact ⟨k + 1, a3, c3, l ++ [N], by omega, by go_num, by rw [List.length_append]; rfl, ⟨HLN.out, HO3.out⟩, B3.out⟩
      case measure => simp [intOf]; omega
    · obtain rfl : k = xs.length := by omega
      have hll : l = xs.map nameT := by have := hown.out.1; rwa [List.take_length] at this
      have HST : Hid (Strs wr a1 c1 (xs.map nameT)) := by
        unfold Hid
        rw [← hll]
        refine hown.out.2.strs fun s hs' => ?_
        rw [hll] at hs'
        obtain ⟨t, ht, rfl⟩ := List.mem_map.1 hs'
        have := nameT_small (HS.out t ht)
        unfold maxLen
        omega
      have hle : l.length = xs.length := by rw [hll, List.length_map]
      rw [hle]
      clear hown hll hle
      go_wp2_with fail
      refine (HJo.out _ a1 c1 HST.out).mono ?_
      rintro e w4 ⟨rfl, b4⟩
      have B4 := Lib.hid (Below.call b4 hb)
      clear b4
      go_wp2_with fail
      go_ret
      exact ⟨by rw [HV.out] <;> rfl, B4.out⟩

end Go.Proofs.YtpdcmmhhgnackaaGreatDoor

namespace Go.Proofs.YtpdcmmhhgnackaaGreatDoor
open Go.RowKit

theorem tE_zero (e : Ex) : tE e 0 = tE e 1 := tE_out (by omega)

set_option maxHeartbeats 1000000 in
theorem specPutExpr (e : Ex) (a : Option Addr) (c d : Nat) (w : World) (hk : KidsAt w d a c e.kids) (hwt : e.wt ≤ 1048576) (r : ByteArray) (hr : putT e = r) :
    Calls Tryz.prog 26 #[.agg #[.int .i64 e.kind, .string e.text, .int .i64 e.num, .slice a e.kids.length c]] w fun x w' => x = .returned (.string r) ∧ Below w.heap.size w w' := by
  have HK := Lib.hid (fun w' hb => hk.below (w' := w') hb)
  have HBX := Lib.hid (fun T => boxK_new w e.kind e.text e.num a e.kids.length c T)
  clear hk
  cases hok : (decide (e.nodes ≤ 40) && shapeE e) with
  | true =>
    have hr2 : tE e 0 = r := by rw [tE_zero, ← hr, putT, if_pos hok]
    have HOK := Lib.hid hok
    have hb := hok
    rw [Bool.and_eq_true, decide_eq_true_eq] at hb
    have HR := Lib.hid hr2
    clear hok hr hr2
    go_enter Tryz.func26, Tryz.ntmps26
    go_wp2_with fail
    refine (specExprOk e a c d _ (HK.out _ (HBX.out _).bel) hwt true HOK.out).mono ?_
    rintro x w2 ⟨rfl, hb2⟩
    have BX := (HBX.out _).below hb2
    obtain ⟨hW1, c0, c1, c2, c3, bW1⟩ := BX
    clear hb2
    go_wp2_with fail
    have hput := specPut d e a c 0 w2 hb.2 hb.1 (by omega) (HK.out _ bW1)
    rw [HR.out] at hput
    refine hput.mono ?_
    rintro x w3 ⟨rfl, hb3⟩
    have B3 := Lib.hid (bW1.trans (hb3.mono bW1.size))
    clear hb3 hput
    go_wp2_with fail
    go_ret
    exact ⟨rfl, B3.out⟩
  | false =>
    have HOK := Lib.hid hok
    have HR : Hid (r = txt []) := by unfold Hid; rw [← hr, putT, if_neg (by rw [hok]; decide)]
    clear hok hr
    go_enter Tryz.func26, Tryz.ntmps26
    go_wp2_with fail
    refine (specExprOk e a c d _ (HK.out _ (HBX.out _).bel) hwt false HOK.out).mono ?_
    rintro x w2 ⟨rfl, hb2⟩
    have B2 := Lib.hid ((HBX.out _).below hb2).bel
    clear hb2
    go_wp2_with fail
    go_ret
    exact ⟨by rw [HR.out]; rfl, B2.out⟩

end Go.Proofs.YtpdcmmhhgnackaaGreatDoor

namespace Go.Proofs.YtpdcmmhhgnackaaGreatDoor
open Go.RowKit

theorem run_add (P : Program) (a b r : ByteArray) (h : r = a ++ b) (hz : a.size + b.size ≤ 4611686018427387904) : ∀ w, (Op.stringOp .add a b).run P w = .ok (.string r) w := fun w => by
  rw [h]; exact run_string_add_sum w _ _ (by omega)

set_option maxRecDepth 100000 in
set_option maxHeartbeats 4000000 in
theorem specPutCol (vs : List Value) (x : Co) (w : World) (hR : RCo 0 w vs x) (hwt : x.wt ≤ 1048576) (r : ByteArray) (hr : colT x = r) :
    Calls Tryz.prog 7 #[.agg vs.toArray] w fun e w' => e = .returned (.string r) ∧ Below w.heap.size w w' := by
  have HC := Lib.hid (fun w' (hb : Below w.heap.size w w') => specColOk vs x w' (goodCo.kept hR (Kept.below hb)) hwt _ rfl)
  obtain ⟨a0, c0, rfl, hfit, k0⟩ := hR
  have HK := Lib.hid (fun w' (hb : Below w.heap.size w w') => k0.kept (Kept.below hb))
  have HB := Lib.hid (fun T => boxCo_new w x a0 c0 T)
  have hW : x.wt = x.name.size + x.ty.name.size + (x.dflt.length + wtL x.dflt) := rfl
  have HN := Lib.hid (show x.name.size ≤ 1048576 by omega)
  have HTn := Lib.hid (show x.ty.name.size ≤ 1048576 by omega)
  have HD := Lib.hid (show wtL x.dflt ≤ 1048576 by omega)
  unfold colT at hr
  clear k0 hW
  cases hc : colB x with
  | false =>
    have HCC := Lib.hid hc
    have HV : Hid (r = ⟨#[]⟩) := by unfold Hid; rw [← hr, hc]; rfl
    clear hr hc
    go_enter Tryz.func7, Tryz.ntmps7
    go_wp2_with fail
    refine (HC.out _ (HB.out _).2).mono ?_
    rintro e w1 ⟨rfl, b1⟩
    have B1 := Lib.hid ((HB.out 32).call b1)
    clear b1
    rw [HCC.out]
    go_wp2_with fail
    go_ret
    exact ⟨by rw [HV.out]; rfl, B1.out.2⟩
  | true =>
    have HCC := Lib.hid hc
    obtain ⟨q1, q2, q3, q4⟩ := colB_parts hc
    rw [if_pos hc] at hr
    obtain ⟨s1, hs1⟩ : ∃ s, nameT x.name = s := ⟨_, rfl⟩
    obtain ⟨s2, hs2⟩ : ∃ s, tyT x.ty = s := ⟨_, rfl⟩
    have z1 : s1.size ≤ 82 := by rw [← hs1]; exact nameT_small q1
    have z2 : s2.size ≤ 100 := by rw [← hs2]; exact tyT_small q2
    obtain ⟨p1, hp1⟩ : ∃ p, p = s1 ++ (ByteArray.mk #[32]) := ⟨_, rfl⟩
    obtain ⟨p2, hp2⟩ : ∃ p, p = p1 ++ s2 := ⟨_, rfl⟩
    have y1 : (ByteArray.mk #[32]).size = 1 := rfl
    have y2 : (ByteArray.mk #[32, 110, 111, 116, 32, 110, 117, 108, 108]).size = 9 := rfl
    have y3 : (ByteArray.mk #[32, 100, 101, 102, 97, 117, 108, 116, 32]).size = 9 := rfl
    have z3 : p1.size ≤ 83 := by rw [hp1, ByteArray.size_append]; omega
    have z4 : p2.size ≤ 183 := by rw [hp2, ByteArray.size_append]; omega
    have ad1 := run_add Tryz.prog s1 _ p1 hp1 (by omega)
    have ad2 := run_add Tryz.prog p1 _ p2 hp2 (by omega)
    obtain ⟨p3, hp3⟩ : ∃ p, p = p2 ++ (ByteArray.mk #[32, 110, 111, 116, 32, 110, 117, 108, 108]) := ⟨_, rfl⟩
    have ad3 := run_add Tryz.prog p2 _ p3 hp3 (by omega)
    have z5 : p3.size ≤ 192 := by rw [hp3, ByteArray.size_append]; omega
    have HNN : Hid (nnT x = if x.notNull = true then p3 else p2) := by unfold Hid nnT; rw [hs1, hs2, hp3, hp2, hp1]; rfl
    have HS1 := Lib.hid hs1
    have HS2 := Lib.hid hs2
    have HR := Lib.hid hr
    clear hr hc hs1 hs2 hp1 hp2 hp3 q1 q2
    go_enter Tryz.func7, Tryz.ntmps7
    go_wp2_with fail
    refine (HC.out _ (HB.out _).2).mono ?_
    rintro e w1 ⟨rfl, b1⟩
    have B1 := Lib.hid ((HB.out 32).call b1)
    clear b1
    rw [HCC.out]
    go_wp2_with fail
    have hst : Hid (∀ p q : World, (((p.cell? ⟨w.heap.size, 0, none⟩ = some (.string x.name) ∧ p.cell? ⟨w.heap.size, 1, none⟩ = some (.int .i64 x.ty.kind) ∧ p.cell? ⟨w.heap.size, 2, none⟩ = some (.int .i64 x.ty.len) ∧ p.cell? ⟨w.heap.size, 3, none⟩ = some (.string x.ty.name)) ∧ Hid (BoxCo w x a0 c0 p)) → Below p.heap.size p q → ((q.cell? ⟨w.heap.size, 0, none⟩ = some (.string x.name) ∧ q.cell? ⟨w.heap.size, 1, none⟩ = some (.int .i64 x.ty.kind) ∧ q.cell? ⟨w.heap.size, 2, none⟩ = some (.int .i64 x.ty.len) ∧ q.cell? ⟨w.heap.size, 3, none⟩ = some (.string x.ty.name)) ∧ Hid (BoxCo w x a0 c0 q)))) := fun p q h hb => by
      have T := h.2.out.call hb
      exact ⟨⟨(T.1.2 0 (by simp)).1, (T.1.2 1 (by simp)).1, (T.1.2 2 (by simp)).1, (T.1.2 3 (by simp)).1⟩, T⟩
    have D1 := Lib.hid (B1.out.call (below_drewE (Below.refl _ _)))
    go_region_held3 (fun w' => (w'.cell? ⟨w.heap.size, 0, none⟩ = some (.string x.name) ∧ w'.cell? ⟨w.heap.size, 1, none⟩ = some (.int .i64 x.ty.kind) ∧ w'.cell? ⟨w.heap.size, 2, none⟩ = some (.int .i64 x.ty.len) ∧ w'.cell? ⟨w.heap.size, 3, none⟩ = some (.string x.ty.name)) ∧ Hid (BoxCo w x a0 c0 w')) (first | assumption | exact ⟨⟨(D1.out.1.2 0 (by simp)).1, (D1.out.1.2 1 (by simp)).1, (D1.out.1.2 2 (by simp)).1, (D1.out.1.2 3 (by simp)).1⟩, D1.out⟩)
      (first
        | (go_at_call 24; refine (specPutName x.name _ HN.out s1 HS1.out).mono ?_; rintro e wq ⟨rfl, bq⟩; have hq := hst.out _ _ (by assumption) bq)
        | (go_at_call 25; refine (specTypeText x.ty.kind x.ty.len x.ty.name _ HTn.out s2 HS2.out).mono ?_; rintro e wz ⟨rfl, bz⟩; have hz := hst.out _ _ (by assumption) bz; have T9 := Lib.hid hz.2.out))
    clear hst bz hz bq hq D1
    have g4 : wz.cell? ⟨w.heap.size, 4, none⟩ = some (.bool x.notNull) := (T9.out.1.2 4 (by simp)).1
    have g5 : wz.cell? ⟨w.heap.size, 5, none⟩ = some (.slice a0 x.dflt.length c0) := (T9.out.1.2 5 (by simp)).1
    have hdd : x.dflt = [] ∨ ∃ e, x.dflt = [e] := by
      match hd : x.dflt, q3 with
      | [], _ => exact .inl rfl
      | [e], _ => exact .inr ⟨e, rfl⟩
      | _ :: _ :: _, h => simp at h
    rcases hdd with hd | ⟨e1, hd⟩
    · have hd0 : x.dflt.length = 0 := by rw [hd]; rfl
      rw [hd0] at g5
      cases hnn : x.notNull with
      | false =>
        have HV : Hid (r = p2) := by unfold Hid; rw [← HR.out, HNN.out, hd, hnn]; rfl
        rw [hnn] at g4
        clear hnn hd hd0
        go_wp2_with fail
        go_ret
        exact ⟨by rw [HV.out] <;> rfl, T9.out.2⟩
      | true =>
        have HV : Hid (r = p3) := by unfold Hid; rw [← HR.out, HNN.out, hd, hnn]; rfl
        rw [hnn] at g4
        clear hnn hd hd0
        go_wp2_with fail
        go_ret
        exact ⟨by rw [HV.out] <;> rfl, T9.out.2⟩
    · have hd0 : x.dflt.length = 1 := by rw [hd]; rfl
      have hk1 := HK.out _ T9.out.2
      obtain ⟨dd, hk1⟩ := hk1
      have hk1 := hk1.sl
      obtain ⟨b, off, vs1, rfl, hbl, hcs, hR1⟩ := hk1.spot (i := 0) (by omega)
      obtain ⟨a1, c1, rfl, hfit1, hkid⟩ := hR1
      rw [hd0] at g5
      have hx0 : x.dflt[0]'(by omega) = e1 := by simp [hd]
      rw [hx0] at hcs hkid
      have hc0 : wz.cell? ⟨b, off, none⟩ = some (.int .i64 e1.kind) := by have := hcs 0 (by simp); simpa using this
      have hc1 : wz.cell? ⟨b, off + 1, none⟩ = some (.string e1.text) := by have := hcs 1 (by simp); simpa using this
      have hc2 : wz.cell? ⟨b, off + 2, none⟩ = some (.int .i64 e1.num) := by have := hcs 2 (by simp); simpa using this
      have hc3 : wz.cell? ⟨b, off + 3, none⟩ = some (.slice a1 e1.kids.length c1) := by have := hcs 3 (by simp); simpa using this
      have HKd := Lib.hid hkid.at
      have hok := q4 e1 (by rw [hd]; simp)
      have HEw := Lib.hid (show e1.wt ≤ 1048576 from Nat.le_trans (wtL_mem (by rw [hd]; simp)) HD.out)
      obtain ⟨s3, hs3⟩ : ∃ s, putT e1 = s := ⟨_, rfl⟩
      have z6 : s3.size ≤ 8400 := by rw [← hs3]; exact putT_small hok
      have HS3 := Lib.hid hs3
      cases hnn : x.notNull with
      | false =>
        obtain ⟨p4, hp4⟩ : ∃ p, p = p2 ++ (ByteArray.mk #[32, 100, 101, 102, 97, 117, 108, 116, 32]) := ⟨_, rfl⟩
        obtain ⟨p5, hp5⟩ : ∃ p, p = p4 ++ s3 := ⟨_, rfl⟩
        have HV : Hid (r = p5) := by unfold Hid; rw [← HR.out, HNN.out, hd, hnn, hp5, hp4, ← hs3]; rfl
        have z7 : p4.size ≤ 192 := by rw [hp4, ByteArray.size_append]; omega
        have ad4 := run_add Tryz.prog p2 _ p4 hp4 (by omega)
        have ad5 := run_add Tryz.prog p4 _ p5 hp5 (by omega)
        rw [hnn] at g4
        clear hnn hp4 hp5 hs3 hok hkid hx0 hcs hk1 hfit1
        have HD1 := Lib.hid hd
        clear hd
        go_wp2_with fail
        refine (specPutExpr e1 a1 c1 dd _ HKd.out HEw.out s3 HS3.out).mono ?_
        rintro e w5 ⟨rfl, b5⟩
        have B5 := Lib.hid (T9.out.call b5)
        clear b5
        go_wp2_with fail
        go_ret
        exact ⟨by rw [HV.out] <;> rfl, B5.out.2⟩
      | true =>
        obtain ⟨p4, hp4⟩ : ∃ p, p = p3 ++ (ByteArray.mk #[32, 100, 101, 102, 97, 117, 108, 116, 32]) := ⟨_, rfl⟩
        obtain ⟨p5, hp5⟩ : ∃ p, p = p4 ++ s3 := ⟨_, rfl⟩
        have HV : Hid (r = p5) := by unfold Hid; rw [← HR.out, HNN.out, hd, hnn, hp5, hp4, ← hs3]; rfl
        have z7 : p4.size ≤ 201 := by rw [hp4, ByteArray.size_append]; omega
        have ad4 := run_add Tryz.prog p3 _ p4 hp4 (by omega)
        have ad5 := run_add Tryz.prog p4 _ p5 hp5 (by omega)
        rw [hnn] at g4
        clear hnn hp4 hp5 hs3 hok hkid hx0 hcs hk1 hfit1
        have HD1 := Lib.hid hd
        clear hd
        go_wp2_with fail
        refine (specPutExpr e1 a1 c1 dd _ HKd.out HEw.out s3 HS3.out).mono ?_
        rintro e w5 ⟨rfl, b5⟩
        have B5 := Lib.hid (T9.out.call b5)
        clear b5
        go_wp2_with fail
        go_ret
        exact ⟨by rw [HV.out] <;> rfl, B5.out.2⟩

end Go.Proofs.YtpdcmmhhgnackaaGreatDoor

namespace Go.Proofs.YtpdcmmhhgnackaaGreatDoor
open Go.RowKit

def exT : List Ex → ByteArray
  | [] => txt []
  | e :: _ => putT e

def ruleR (r : Ru) : ByteArray :=
  if r.kind = 0 then txt [32, 112, 114, 105, 109, 97, 114, 121, 32, 107, 101, 121, 32] ++ listT r.cols
  else if r.kind = 1 then txt [32, 117, 110, 105, 113, 117, 101, 32] ++ listT r.cols
  else if r.kind = 2 then txt [32, 99, 104, 101, 99, 107, 32, 40] ++ exT r.expr ++ txt [41]
  else txt [32, 102, 111, 114, 101, 105, 103, 110, 32, 107, 101, 121, 32] ++ listT r.cols ++ txt [32, 114, 101, 102, 101, 114, 101, 110, 99, 101, 115, 32] ++ nameT r.table ++ txt [32] ++ listT r.to

/-- What PutRule answers. -/
def ruleT (r : Ru) : ByteArray := if ruleB r = true then txt [99, 111, 110, 115, 116, 114, 97, 105, 110, 116, 32] ++ nameT r.name ++ ruleR r else txt []

theorem listT_size (xs : List ByteArray) (h : ∀ s ∈ xs, nmB s = true) : (listT xs).size ≤ xs.length * 84 + 2 := by
  have h1 := lets_map nameT xs 82 fun s hs => nameT_small (h s hs)
  have h2 := joinL_len (xs.map nameT) (txt [44, 32]) (xs.map nameT).length (Nat.le_refl _)
  rw [List.take_length, List.length_map, show (txt [44, 32]).size = 2 from rfl] at h2
  unfold listT
  rw [ByteArray.size_append, ByteArray.size_append, joinT_size, show (txt [40]).size = 1 from rfl, show (txt [41]).size = 1 from rfl]
  omega

theorem namesB_parts {xs : List ByteArray} {m : Int} (h : namesB xs m = true) : 1 ≤ (xs.length : Int) ∧ (xs.length : Int) ≤ m ∧ ∀ s ∈ xs, nmB s = true := by
  unfold namesB inI at h
  simp only [Bool.and_eq_true, decide_eq_true_eq, List.all_eq_true] at h
  exact ⟨h.1.1, h.1.2, h.2⟩

theorem colT_small {x : Co} (h : colB x = true) : (colT x).size ≤ 9000 := by
  obtain ⟨q1, q2, q3, q4⟩ := colB_parts h
  have z1 := nameT_small q1
  have z2 := tyT_small q2
  have hn : (nnT x).size ≤ 192 := by
    unfold nnT
    split
    · simp only [ByteArray.size_append]
      have e1 : (txt [32]).size = 1 := rfl
      have e2 : (txt wNN).size = 9 := rfl
      omega
    · simp only [ByteArray.size_append]
      have e1 : (txt [32]).size = 1 := rfl
      omega
  unfold colT
  rw [if_pos h]
  cases hd : x.dflt with
  | nil => simp only [dfT]; omega
  | cons e r =>
    have := putT_small (q4 e (by rw [hd]; simp))
    simp only [dfT]
    simp only [ByteArray.size_append]
    have e2 : (txt wDf).size = 9 := rfl
    omega

theorem one_expr {xs : List Ex} (h : exprsB xs 1 1 = true) : ∃ e, xs = [e] ∧ okX e = true := by
  unfold exprsB inI at h
  simp only [Bool.and_eq_true, decide_eq_true_eq, List.all_eq_true] at h
  match xs, h with
  | [], h => simp at h
  | [e], h => exact ⟨e, rfl, h.2 e (by simp)⟩
  | _ :: _ :: _, h => simp only [List.length_cons] at h; omega

theorem ruleT_small {x : Ru} (h : ruleB x = true) : (ruleT x).size ≤ 20000 := by
  obtain ⟨name, kind, cols, expr, table, to⟩ := x
  have y1 : (txt [99, 111, 110, 115, 116, 114, 97, 105, 110, 116, 32]).size = 11 := rfl
  have y2 : (txt [32, 112, 114, 105, 109, 97, 114, 121, 32, 107, 101, 121, 32]).size = 13 := rfl
  have y3 : (txt [32, 117, 110, 105, 113, 117, 101, 32]).size = 8 := rfl
  have y4 : (txt [32, 99, 104, 101, 99, 107, 32, 40]).size = 8 := rfl
  have y5 : (txt [32, 102, 111, 114, 101, 105, 103, 110, 32, 107, 101, 121, 32]).size = 13 := rfl
  have y6 : (txt [32, 114, 101, 102, 101, 114, 101, 110, 99, 101, 115, 32]).size = 12 := rfl
  have y7 : (txt [32]).size = 1 := rfl
  have y8 : (txt [41]).size = 1 := rfl
  by_cases hin : 0 ≤ kind ∧ kind ≤ 3
  · have hc : kind = 0 ∨ kind = 1 ∨ kind = 2 ∨ kind = 3 := by omega
    unfold ruleT
    rw [if_pos h]
    rcases hc with rfl | rfl | rfl | rfl
    · rw [ruleB_key name 0 cols expr table to (.inl rfl)] at h
      simp only [Bool.and_eq_true] at h
      obtain ⟨m1, m2, m3⟩ := namesB_parts h.2.1
      have z1 := nameT_small h.1
      have z2 := listT_size cols m3
      unfold ruleR
      simp only [if_true, Int.reduceEq, if_false, ByteArray.size_append]
      omega
    · rw [ruleB_key name 1 cols expr table to (.inr rfl)] at h
      simp only [Bool.and_eq_true] at h
      obtain ⟨m1, m2, m3⟩ := namesB_parts h.2.1
      have z1 := nameT_small h.1
      have z2 := listT_size cols m3
      unfold ruleR
      simp only [if_true, Int.reduceEq, if_false, ByteArray.size_append]
      omega
    · rw [ruleB_check name cols expr table to] at h
      simp only [Bool.and_eq_true] at h
      obtain ⟨e1, rfl, hok⟩ := one_expr h.2.2.1
      have z1 := nameT_small h.1
      have z2 := putT_small hok
      unfold ruleR exT
      simp only [if_true, Int.reduceEq, if_false, ByteArray.size_append]
      omega
    · rw [ruleB_ref name cols expr table to] at h
      simp only [Bool.and_eq_true] at h
      obtain ⟨m1, m2, m3⟩ := namesB_parts h.2.1
      obtain ⟨n1, n2, n3⟩ := namesB_parts h.2.2.2.2.1
      have z1 := nameT_small h.1
      have z2 := listT_size cols m3
      have z3 := listT_size to n3
      have z4 := nameT_small h.2.2.2.1
      unfold ruleR
      simp only [if_true, Int.reduceEq, if_false, ByteArray.size_append]
      omega
  · rw [ruleB_none _ _ _ _ _ _ hin] at h
    cases h

end Go.Proofs.YtpdcmmhhgnackaaGreatDoor

namespace Go.Proofs.YtpdcmmhhgnackaaGreatDoor
open Go.RowKit

set_option maxHeartbeats 1000000 in
theorem firstNeeds (f0 f1 f2 : Int) (f3 : ByteArray) (w : World) (h : 1 ≤ f1 ∧ f1 ≤ 7) (m : Int) (hm : m = if f1 = 4 then 5 else f1) :
    Calls Tryz.prog 126 #[.agg #[.int .i64 f0, .int .i64 f1, .int .i64 f2, .string f3]] w fun x w' => x = .returned (.int .i64 m) ∧ Below w.heap.size w w' := by
  have hb := Lib.hid (fun o => (Below.refl w.heap.size w).alloc (Nat.le_refl _) o)
  by_cases h4 : f1 = 4
  · rw [if_pos h4] at hm
    subst hm h4
    go_enter Tryz.func126, Tryz.ntmps126
    go_wp2_with fail
    go_ret
    exact ⟨rfl, hb.out _⟩
  · rw [if_neg h4] at hm
    have h4b : (f1 == 4) = false := by simp; exact h4
    subst hm
    go_enter Tryz.func126, Tryz.ntmps126
    go_wp2_with fail
    go_ret
    exact ⟨rfl, hb.out _⟩

set_option maxHeartbeats 1000000 in
theorem secondNeeds (f0 f1 f2 : Int) (f3 : ByteArray) (w : World) (h : 1 ≤ f1 ∧ f1 ≤ 7) (m : Int) (hm : f1 + 1 = m) :
    Calls Tryz.prog 127 #[.agg #[.int .i64 f0, .int .i64 f1, .int .i64 f2, .string f3]] w fun x w' => x = .returned (.int .i64 m) ∧ Below w.heap.size w w' := by
  have hb := Lib.hid (fun o => (Below.refl w.heap.size w).alloc (Nat.le_refl _) o)
  have HM := Lib.hid hm
  clear hm
  go_enter Tryz.func127, Tryz.ntmps127
  go_wp2_with fail
  go_ret
  exact ⟨by rw [← HM.out]; rfl, hb.out _⟩

end Go.Proofs.YtpdcmmhhgnackaaGreatDoor
