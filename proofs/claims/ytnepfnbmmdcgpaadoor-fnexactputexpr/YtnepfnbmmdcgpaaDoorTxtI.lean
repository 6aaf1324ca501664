/- impl.exprText, operandText: leaves, one kid. -/
import Derived.Test.YtnepfnbmmdcgpaaDoorTextB
import Derived.Test.YtnepfnbmmdcgpaaDoorOkI
import Derived.Test.YtnepfnbmmdcgpaaDoorPutNameI
import Derived.Test.YtnepfnbmmdcgpaaDoorDecImpl
import Derived.Test.YtnepfnbmmdcgpaaDoorPutExT
import Derived.Deep.RegionHeld3
namespace Go.Proofs.YtnepfnbmmdcgpaaDoor
open Go.RowKit

/-- The tables that the program reads. -/
structure Tabs (w : World) : Prop where
  forms : FormsAt w
  pow : Lib.TabIs Tryd.prog w "internal/strconv.uint64pow10" .u64 Lib.pow10Tab
  lt : 1 < w.heap.size

theorem Tabs.below {w w' : World} {B : Nat} (h : Tabs w) (hb : Below B w w') (hB : 2 ≤ B) : Tabs w' :=
  ⟨h.forms.below hb (by omega), var?_below hb gPow (by omega) h.pow, Nat.lt_of_lt_of_le h.lt hb.size⟩

theorem Tabs.big {w : World} (h : Tabs w) : 2 ≤ w.heap.size := by
  have h1 := h.lt
  have h2 := h.forms.1
  omega

def TxtP (d : Nat) : Prop := ∀ (e : Ex) (a : Option Addr) (c : Nat) (w : World), Tabs w → shapeE e = true → e.nodes ≤ 40 → KidsAt w d a c e.kids →
  Calls Tryd.prog 37 #[.agg #[.int .i64 e.kind, .string e.text, .int .i64 e.num, .slice a e.kids.length c]] w fun x w' => x = .returned (.string (tE e 1)) ∧ Below w.heap.size w w'

theorem nat_kind {e : Ex} (hs : shapeE e = true) : ∃ i : Nat, i < 19 ∧ e.kind = i := by
  obtain ⟨k, t, n, kids⟩ := e
  have := kind_in (shape_parts hs).1
  exact ⟨k.toNat, by omega, by show k = _; omega⟩

set_option maxRecDepth 100000 in
set_option maxHeartbeats 2000000 in
theorem opText0 (d : Nat) (ih : TxtP d) (i : Nat) (hi : i < 19) (t : ByteArray) (n : Int) (kids : List Ex) (a : Option Addr) (c : Nat) (m : Int) (w : World) (hT : Tabs w) (hs : shapeE (.mk i t n kids) = true) (hn : (Ex.mk i t n kids).nodes ≤ 40) (hm : 0 ≤ m) (hk : KidsAt w d a c kids) (r : ByteArray) (hr : tE (.mk i t n kids) m.toNat = r) :
    Calls Tryd.prog 63 #[.agg #[.int .i64 (i : Int), .string t, .int .i64 n, .slice a kids.length c], .int .i64 m] w fun x w' => x = .returned (.string r) ∧ Below w.heap.size w w' := by
  have HBX := Lib.hid (fun T => boxK_new w (i : Int) t n a kids.length c T)
  have HK := Lib.hid (fun w' hb => hk.below (w' := w') hb)
  have HT := Lib.hid (fun w' hb => hT.below (w' := w') (B := w.heap.size) hb hT.big)
  have hz := tE_size (L := 1) hs hn
  have HE := Lib.hid (tE_end (e := .mk i t n kids) (L := m.toNat) (s := tE (.mk i t n kids) 1) rfl)
  have hih : ∀ w, Tabs w → KidsAt w d a c kids → Calls Tryd.prog 37 #[.agg #[.int .i64 (i : Int), .string t, .int .i64 n, .slice a kids.length c]] w fun x w' => x = .returned (.string (tE (.mk i t n kids) 1)) ∧ Below w.heap.size w w' := fun w h1 h2 => ih (.mk i t n kids) a c w h1 hs hn h2
  obtain ⟨s, hs1⟩ : ∃ s, s = tE (.mk i t n kids) 1 := ⟨_, rfl⟩
  rw [← hs1] at hz HE hih
  have HRR := Lib.hid hr
  have l3 : (ByteArray.mk #[40]).size = 1 := rfl
  have l4 : (ByteArray.mk #[41]).size = 1 := rfl
  have ad1 : ∀ w, (Op.stringOp .add (ByteArray.mk #[40]) s).run Tryd.prog w = .ok (.string ((ByteArray.mk #[40]) ++ s)) w := fun w => run_string_add_sum w _ _ (by omega)
  have ad2 : ∀ w, (Op.stringOp .add ((ByteArray.mk #[40]) ++ s) (ByteArray.mk #[41])).run Tryd.prog w = .ok (.string ((ByteArray.mk #[40]) ++ s ++ (ByteArray.mk #[41]))) w := fun w => run_string_add_sum w _ _ (by rw [ByteArray.size_append]; omega)
  have hb0 : (0 : Int) ≤ (i : Int) := by omega
  have hb1 : (i : Int) < 19 := by omega
  have hst : ∃ st : Int, (bindsK (i : Int) : Int) = st := ⟨_, rfl⟩
  obtain ⟨st, hst⟩ := hst
  have HG : Hid (∀ o, (w.alloc o).cell? ⟨0, i * 4 + 1, none⟩ = some (.int .i64 st)) := fun o => by
    rw [← hst, ← fm_strength i hi]
    exact ((hT.forms.below ((Below.refl w.heap.size w).alloc (Nat.le_refl _) o) hT.forms.1).2 i hi).2.1
  have hg1 := HG.out (.cells #[.int .i64 (i : Int), .string t, .int .i64 n, .slice a kids.length c] 26)
  clear hk hT ih hr hs1
  by_cases hlt : st < m
  · have HR := Lib.hid (HE.out.1 (by show bindsK (i : Int) < m.toNat; omega))
    go_enter Tryd.func63, Tryd.ntmps63
    go_wp2_with fail
    refine (hih _ (HT.out _ (HBX.out _).bel) (HK.out _ (HBX.out _).bel)).mono ?_
    rintro x w2 ⟨rfl, hb2⟩
    have B2 := Lib.hid ((HBX.out _).below hb2).bel
    clear hb2 hg1
    go_wp2_with fail
    go_ret
    exact ⟨by rw [← HRR.out, HR.out]; rfl, B2.out⟩
  · have HR := Lib.hid (HE.out.2 (by show ¬ bindsK (i : Int) < m.toNat; omega))
    go_enter Tryd.func63, Tryd.ntmps63
    go_wp2_with fail
    refine (hih _ (HT.out _ (HBX.out _).bel) (HK.out _ (HBX.out _).bel)).mono ?_
    rintro x w2 ⟨rfl, hb2⟩
    have B2 := Lib.hid ((HBX.out _).below hb2).bel
    clear hb2 hg1
    go_wp2_with fail
    go_ret
    exact ⟨by rw [← HRR.out, HR.out]; rfl, B2.out⟩

theorem opText (d : Nat) (ih : TxtP d) (e : Ex) (a : Option Addr) (c : Nat) (m : Int) (w : World) (hT : Tabs w) (hs : shapeE e = true) (hn : e.nodes ≤ 40) (hm : 0 ≤ m) (hk : KidsAt w d a c e.kids) (r : ByteArray) (hr : tE e m.toNat = r) :
    Calls Tryd.prog 63 #[.agg #[.int .i64 e.kind, .string e.text, .int .i64 e.num, .slice a e.kids.length c], .int .i64 m] w fun x w' => x = .returned (.string r) ∧ Below w.heap.size w w' := by
  obtain ⟨i, hi, hik⟩ := nat_kind hs
  obtain ⟨k, t, n, kids⟩ := e
  have hik' : k = i := hik
  subst hik'
  exact opText0 d ih i hi t n kids a c m w hT hs hn hm hk r hr

/-- The box of the argument, and that of its form. -/
structure BoxF (w : World) (k : Int) (t : ByteArray) (n : Int) (a : Option Addr) (l c : Nat) (f0 f1 f2 : Int) (f3 : ByteArray) (w1 : World) : Prop where
  lt : w.heap.size + 1 < w1.heap.size
  c0 : w1.cell? ⟨w.heap.size, 0, none⟩ = some (.int .i64 k)
  c1 : w1.cell? ⟨w.heap.size, 1, none⟩ = some (.string t)
  c2 : w1.cell? ⟨w.heap.size, 2, none⟩ = some (.int .i64 n)
  c3 : w1.cell? ⟨w.heap.size, 3, none⟩ = some (.slice a l c)
  g0 : w1.cell? ⟨w.heap.size + 1, 0, none⟩ = some (.int .i64 f0)
  g1 : w1.cell? ⟨w.heap.size + 1, 1, none⟩ = some (.int .i64 f1)
  g2 : w1.cell? ⟨w.heap.size + 1, 2, none⟩ = some (.int .i64 f2)
  g3 : w1.cell? ⟨w.heap.size + 1, 3, none⟩ = some (.string f3)
  bel : Below w.heap.size w w1

theorem boxF_new (w : World) (k : Int) (t : ByteArray) (n : Int) (a : Option Addr) (l c : Nat) (f0 f1 f2 : Int) (f3 : ByteArray) (T T2 : TypeId) :
    BoxF w k t n a l c f0 f1 f2 f3 ((w.alloc (.cells #[.int .i64 k, .string t, .int .i64 n, .slice a l c] T)).alloc (.cells #[.int .i64 f0, .int .i64 f1, .int .i64 f2, .string f3] T2)) :=
  ⟨by simp, by simp [go_sem], by simp [go_sem], by simp [go_sem], by simp [go_sem], by simp [go_sem], by simp [go_sem], by simp [go_sem], by simp [go_sem], ((Below.refl _ _).alloc (Nat.le_refl _) _).alloc (by simp) _⟩

theorem BoxF.below {w w1 w2 : World} {k : Int} {t : ByteArray} {n : Int} {a : Option Addr} {l c : Nat} {f0 f1 f2 : Int} {f3 : ByteArray} (h : BoxF w k t n a l c f0 f1 f2 f3 w1) (hb : Below w1.heap.size w1 w2) : BoxF w k t n a l c f0 f1 f2 f3 w2 := by
  have e := fun o => hb.cell (p := ⟨w.heap.size, o, none⟩) (by have := h.lt; simp only; omega)
  have e' := fun o => hb.cell (p := ⟨w.heap.size + 1, o, none⟩) h.lt
  exact ⟨Nat.lt_of_lt_of_le h.lt hb.size, (e _).trans h.c0, (e _).trans h.c1, (e _).trans h.c2, (e _).trans h.c3, (e' _).trans h.g0, (e' _).trans h.g1, (e' _).trans h.g2, (e' _).trans h.g3, h.bel.trans (hb.mono h.bel.size)⟩

/-- What the table holds of a kind, in a world with one new block. -/
theorem forms_alloc {w : World} (hT : Tabs w) (i : Nat) (hi : i < 19) (o : Obj) :
    (w.alloc o).cell? ⟨0, i * 4, none⟩ = some (.int .i64 (fm i).kids) ∧ (w.alloc o).cell? ⟨0, i * 4 + 1, none⟩ = some (.int .i64 (fm i).strength) ∧
    (w.alloc o).cell? ⟨0, i * 4 + 2, none⟩ = some (.int .i64 (fm i).token) ∧ (w.alloc o).cell? ⟨0, i * 4 + 3, none⟩ = some (.string (txt (fm i).text)) :=
  (hT.forms.below ((Below.refl w.heap.size w).alloc (Nat.le_refl _) o) hT.forms.1).2 i hi

set_option maxRecDepth 100000 in
set_option maxHeartbeats 4000000 in
theorem txtLeaf (k : Int) (t : ByteArray) (n : Int) (a : Option Addr) (c : Nat) (w : World) (hT : Tabs w) (h : node1 k t n 0 = true) :
    Calls Tryd.prog 37 #[.agg #[.int .i64 k, .string t, .int .i64 n, .slice a 0 c]] w fun x w' => x = .returned (.string (tE (.mk k t n []) 1)) ∧ Below w.heap.size w w' := by
  have hk := zero_kids (arity h)
  have hts := small_text h
  have hns := small_num h
  have HT := Lib.hid (fun w' hb => hT.below (w' := w') (B := w.heap.size) hb hT.big)
  have HG := Lib.hid (forms_alloc hT)
  clear h hT
  rcases hk with rfl | rfl | rfl | rfl | rfl | rfl
  · have HBX := Lib.hid (fun T T2 => boxF_new w 0 t n a 0 c 0 7 0 (txt []) T T2)
    obtain ⟨g0, g1, g2, g3⟩ := HG.out 0 (by omega) (.cells #[.int .i64 0, .string t, .int .i64 n, .slice a 0 c] 26)
    change _ = some (Value.int .i64 0) at g0; change _ = some (Value.int .i64 7) at g1; change _ = some (Value.int .i64 0) at g2; change _ = some (Value.string (txt [])) at g3
    obtain ⟨r, hr⟩ : ∃ r, nameT t = r := ⟨_, rfl⟩
    have HE : Hid (tE (.mk 0 t n []) 1 = r) := by unfold Hid; rw [tE_name, hr]
    go_enter Tryd.func37, Tryd.ntmps37
    go_wp2_with (go_at_call 60; refine (implPutName t _ (by omega) r hr).mono ?_; rintro e w2 ⟨rfl, hb2⟩)
    go_ret
    exact ⟨by rw [HE.out]; rfl, ((HBX.out _ _).below hb2).bel⟩
  · have HBX := Lib.hid (fun T T2 => boxF_new w 1 t n a 0 c 0 7 0 (txt []) T T2)
    obtain ⟨g0, g1, g2, g3⟩ := HG.out 1 (by omega) (.cells #[.int .i64 1, .string t, .int .i64 n, .slice a 0 c] 26)
    change _ = some (Value.int .i64 0) at g0; change _ = some (Value.int .i64 7) at g1; change _ = some (Value.int .i64 0) at g2; change _ = some (Value.string (txt [])) at g3
    have HE : Hid (tE (.mk 1 t n []) 1 = dec n) := by unfold Hid; rw [tE_num]
    go_enter Tryd.func37, Tryd.ntmps37
    go_wp2_with (go_at_call 61; refine (implDecText n _ (by omega) (by omega) (HT.out _ (HBX.out _ _).bel).pow).mono ?_; rintro e w2 ⟨rfl, hb2⟩)
    go_ret
    exact ⟨by rw [HE.out]; rfl, ((HBX.out _ _).below hb2).bel⟩
  · have HBX := Lib.hid (fun T T2 => boxF_new w 2 t n a 0 c 0 7 0 (txt []) T T2)
    obtain ⟨g0, g1, g2, g3⟩ := HG.out 2 (by omega) (.cells #[.int .i64 2, .string t, .int .i64 n, .slice a 0 c] 26)
    change _ = some (Value.int .i64 0) at g0; change _ = some (Value.int .i64 7) at g1; change _ = some (Value.int .i64 0) at g2; change _ = some (Value.string (txt [])) at g3
    have HE : Hid (tE (.mk 2 t n []) 1 = quoteT t 39) := by unfold Hid; rw [tE_text]
    go_enter Tryd.func37, Tryd.ntmps37
    go_wp2_with (go_at_call 62; refine (implQuote t 39 _ (by omega)).mono ?_; rintro e w2 ⟨rfl, hb2⟩)
    go_ret
    exact ⟨by rw [HE.out]; rfl, ((HBX.out _ _).below hb2).bel⟩
  · have HBX := Lib.hid (fun T T2 => boxF_new w 3 t n a 0 c 0 7 0 (txt wTrue) T T2)
    obtain ⟨g0, g1, g2, g3⟩ := HG.out 3 (by omega) (.cells #[.int .i64 3, .string t, .int .i64 n, .slice a 0 c] 26)
    change _ = some (Value.int .i64 0) at g0; change _ = some (Value.int .i64 7) at g1; change _ = some (Value.int .i64 0) at g2; change _ = some (Value.string (txt wTrue)) at g3
    have HE : Hid (tE (.mk 3 t n []) 1 = txt wTrue) := by unfold Hid; rw [tE_true]
    go_enter Tryd.func37, Tryd.ntmps37
    go_wp2_with fail
    go_ret
    exact ⟨by rw [HE.out]; rfl, (HBX.out _ _).bel⟩
  · have HBX := Lib.hid (fun T T2 => boxF_new w 4 t n a 0 c 0 7 0 (txt wFalse) T T2)
    obtain ⟨g0, g1, g2, g3⟩ := HG.out 4 (by omega) (.cells #[.int .i64 4, .string t, .int .i64 n, .slice a 0 c] 26)
    change _ = some (Value.int .i64 0) at g0; change _ = some (Value.int .i64 7) at g1; change _ = some (Value.int .i64 0) at g2; change _ = some (Value.string (txt wFalse)) at g3
    have HE : Hid (tE (.mk 4 t n []) 1 = txt wFalse) := by unfold Hid; rw [tE_false]
    go_enter Tryd.func37, Tryd.ntmps37
    go_wp2_with fail
    go_ret
    exact ⟨by rw [HE.out]; rfl, (HBX.out _ _).bel⟩
  · have HBX := Lib.hid (fun T T2 => boxF_new w 5 t n a 0 c 0 7 0 (txt wNull) T T2)
    obtain ⟨g0, g1, g2, g3⟩ := HG.out 5 (by omega) (.cells #[.int .i64 5, .string t, .int .i64 n, .slice a 0 c] 26)
    change _ = some (Value.int .i64 0) at g0; change _ = some (Value.int .i64 7) at g1; change _ = some (Value.int .i64 0) at g2; change _ = some (Value.string (txt wNull)) at g3
    have HE : Hid (tE (.mk 5 t n []) 1 = txt wNull) := by unfold Hid; rw [tE_nul]
    go_enter Tryd.func37, Tryd.ntmps37
    go_wp2_with fail
    go_ret
    exact ⟨by rw [HE.out]; rfl, (HBX.out _ _).bel⟩

end Go.Proofs.YtnepfnbmmdcgpaaDoor
