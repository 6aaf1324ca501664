/- impl.nodeOk: what one node asks for. -/
/- impl.exprText, operandText: leaves, one kid. -/
/- Lists of expressions and of names as rows of cells; numbers between two bounds; what a world must hold. -/
/- The model's ExprOk. -/
/- spec.PutExpr. -/
/- The model's own look at lists of names and of expressions, at columns; how it writes a column. -/
import Derived.Test.YtpdcmmhhgnackaaGreatDoorMPutExT
import Derived.Test.YtpdcmmhhgnackaaGreatDoorMBuilder
import Derived.Test.YtpdcmmhhgnackaaGreatDoorMNameImpl
import Derived.Test.YtpdcmmhhgnackaaGreatDoorMExNodes
import Derived.BigQuiet
import Derived.Test.YtpdcmmhhgnackaaGreatDoorMExprS
import Derived.Deep.RegionHeld3
namespace Go.Proofs.YtpdcmmhhgnackaaGreatDoor
open Go.RowKit

theorem fm_kids : ∀ i, i < 19 → (fm i).kids = kidsK (i : Int) := by decide
theorem fm_strength : ∀ i, i < 19 → (fm i).strength = (bindsK (i : Int) : Int) := by decide

set_option maxRecDepth 100000 in
set_option maxHeartbeats 2000000 in
theorem implNodeOk (k : Int) (t : ByteArray) (n : Int) (a : Option Addr) (l c : Nat) (w : World) (hF : FormsAt w) (ht : t.size ≤ maxLen) (hl : l ≤ 9223372036854775807) (v : Bool) (hv : node1 k t n l = v) :
    Calls Tryz.prog 139 #[.agg #[.int .i64 k, .string t, .int .i64 n, .slice a l c]] w fun x w' => x = .returned (.bool v) ∧ Below w.heap.size w w' := by
  have HBX := Lib.hid (fun T => boxK_new w k t n a l c T)
  have HBD := Lib.hid (fun T m => (boxK_new w k t n a l c T).drewN m)
  have ht9 : t.size ≤ 9223372036854775807 := by unfold maxLen at ht; omega
  by_cases h0 : k < 0
  · have HN : Hid (v = false) := by
      unfold Hid; rw [← hv]; unfold node1
      rw [decide_eq_false (by unfold kidsK; rw [if_pos (.inl h0)]; omega)]; rfl
    have hd0 : decide (k < 0) = true := decide_eq_true h0
    clear hv hF
    go_enter Tryz.func139, Tryz.ntmps139
    go_wp2_with fail
    go_quiet (fail)
    go_wp2_with fail
    go_ret
    exact ⟨by rw [HN.out]; rfl, (HBD.out _ _).bel⟩
  · by_cases h19 : 19 ≤ k
    · have HN : Hid (v = false) := by
        unfold Hid; rw [← hv]; unfold node1
        rw [decide_eq_false (by unfold kidsK; rw [if_pos (.inr (by omega))]; omega)]; rfl
      have hd0 : decide (k < 0) = false := decide_eq_false h0
      have hd1 : decide (19 ≤ k) = true := decide_eq_true h19
      clear hv hF
      go_enter Tryz.func139, Tryz.ntmps139
      go_wp2_with fail
      go_quiet (fail)
      go_wp2_with fail
      go_ret
      exact ⟨by rw [HN.out]; rfl, (HBD.out _ _).bel⟩
    · obtain ⟨i, rfl⟩ : ∃ i : Nat, k = i := ⟨k.toNat, by omega⟩
      have hi : i < 19 := by omega
      have hd0 : decide ((i : Int) < 0) = false := decide_eq_false h0
      have hd1 : decide (19 ≤ (i : Int)) = false := decide_eq_false h19
      have hb0 : (0 : Int) ≤ (i : Int) := by omega
      have hb1 : (i : Int) < 19 := by omega
      have HG : Hid (∀ o, (w.alloc o).cell? ⟨1, i * 4, none⟩ = some (.int .i64 (kidsK i))) := fun o => by
        rw [← fm_kids i hi]
        exact ((hF.below ((Below.refl w.heap.size w).alloc (Nat.le_refl _) o) hF.1).2 i hi).1
      have hg := HG.out
      have hkk : ∃ m, kidsK (i : Int) = m := ⟨_, rfl⟩
      obtain ⟨m, hkk⟩ := hkk
      have HV := Lib.hid hv
      rw [hkk] at hg
      clear hF h0 h19 hv
      by_cases hlm : (l : Int) = m
      · have hne : ((l : Int) != m) = false := by simp; exact hlm
        by_cases k0 : i = 0
        · subst k0
          have HE : Hid (v = (nameB t.data.toList && decide (n = 0))) := by unfold Hid; rw [← HV.out]; unfold node1; rw [hkk, decide_eq_true hlm, if_pos (by omega), if_neg (by omega)]; rfl
          cases hnm : nameB t.data.toList with
          | false =>
            rw [hnm] at HE
            have HNM := Lib.hid hnm
            clear hnm HV
            have hn0 : ∃ q, (n == 0) = q ∧ decide (n = 0) = q := ⟨_, rfl, rfl⟩
            obtain ⟨q, hq1, hq2⟩ := hn0
            rw [hq2] at HE
            clear hq2
            have hg1 := hg (.cells #[.int .i64 (0 : Int), .string t, .int .i64 n, .slice a l c] 66)
            clear hg
            go_enter Tryz.func139, Tryz.ntmps139
            go_wp2_with fail
            go_quiet (fail)
            have BX := HBD.out 66 nq
            generalize World.drewN (w.alloc (.cells #[.int .i64 0, .string t, .int .i64 n, .slice a l c] 66)) nq = W1 at BX ⊢
            obtain ⟨hW1, c0, c1, c2, c3, bW1⟩ := BX
            clear hg1
            go_wp2_with (go_at_call 72; refine (implNameOk t _ _ HNM.out).mono ?_; rintro e w1 ⟨rfl, rfl⟩)
            go_ret
            exact ⟨by rw [HE.out]; rfl, bW1⟩
          | true =>
            rw [hnm] at HE
            have HNM := Lib.hid hnm
            clear hnm HV
            have hn0 : ∃ q, (n == 0) = q ∧ decide (n = 0) = q := ⟨_, rfl, rfl⟩
            obtain ⟨q, hq1, hq2⟩ := hn0
            rw [hq2] at HE
            clear hq2
            have hg1 := hg (.cells #[.int .i64 (0 : Int), .string t, .int .i64 n, .slice a l c] 66)
            clear hg
            go_enter Tryz.func139, Tryz.ntmps139
            go_wp2_with fail
            go_quiet (fail)
            have BX := HBD.out 66 nq
            generalize World.drewN (w.alloc (.cells #[.int .i64 0, .string t, .int .i64 n, .slice a l c] 66)) nq = W1 at BX ⊢
            obtain ⟨hW1, c0, c1, c2, c3, bW1⟩ := BX
            clear hg1
            go_wp2_with (go_at_call 72; refine (implNameOk t _ _ HNM.out).mono ?_; rintro e w1 ⟨rfl, rfl⟩)
            go_ret
            exact ⟨by rw [HE.out]; rfl, bW1⟩
        by_cases k1 : i = 1
        · subst k1
          have HE : Hid (v = (t.toList.isEmpty && (decide (0 ≤ n) && decide (n ≤ 999999999)))) := by unfold Hid; rw [← HV.out]; unfold node1; rw [hkk, decide_eq_true hlm, if_neg (by omega), if_neg (by omega), if_pos (by omega), Bool.decide_and]; rfl
          cases htx : t.toList.isEmpty with
          | false =>
            rw [htx] at HE
            clear HV
            have hg1 := hg (.cells #[.int .i64 (1 : Int), .string t, .int .i64 n, .slice a l c] 66)
            clear hg
            go_enter Tryz.func139, Tryz.ntmps139
            go_wp2_with fail
            go_quiet (fail)
            have BX := HBD.out 66 nq
            generalize World.drewN (w.alloc (.cells #[.int .i64 1, .string t, .int .i64 n, .slice a l c] 66)) nq = W1 at BX ⊢
            obtain ⟨hW1, c0, c1, c2, c3, bW1⟩ := BX
            clear hg1
            go_wp2_with fail
            go_ret
            exact ⟨by rw [HE.out]; rfl, bW1⟩
          | true =>
            rw [htx] at HE
            clear HV
            by_cases h1 : ¬ 0 ≤ n
            · rw [decide_eq_false h1] at HE
              have hg1 := hg (.cells #[.int .i64 (1 : Int), .string t, .int .i64 n, .slice a l c] 66)
              clear hg
              go_enter Tryz.func139, Tryz.ntmps139
              go_wp2_with fail
              go_quiet (fail)
              have BX := HBD.out 66 nq
              generalize World.drewN (w.alloc (.cells #[.int .i64 1, .string t, .int .i64 n, .slice a l c] 66)) nq = W1 at BX ⊢
              obtain ⟨hW1, c0, c1, c2, c3, bW1⟩ := BX
              clear hg1
              go_wp2_with fail
              go_ret
              exact ⟨by rw [HE.out]; rfl, bW1⟩
            · have h1 : 0 ≤ n := by omega
              rw [decide_eq_true h1] at HE
              have hg1 := hg (.cells #[.int .i64 (1 : Int), .string t, .int .i64 n, .slice a l c] 66)
              clear hg
              go_enter Tryz.func139, Tryz.ntmps139
              go_wp2_with fail
              go_quiet (fail)
              have BX := HBD.out 66 nq
              generalize World.drewN (w.alloc (.cells #[.int .i64 1, .string t, .int .i64 n, .slice a l c] 66)) nq = W1 at BX ⊢
              obtain ⟨hW1, c0, c1, c2, c3, bW1⟩ := BX
              clear hg1
              go_wp2_with fail
              go_ret
              exact ⟨by rw [HE.out]; rfl, bW1⟩
        by_cases k2 : i = 2
        · subst k2
          have HE : Hid (v = (decide (t.size ≤ 100) && decide (n = 0))) := by unfold Hid; rw [← HV.out]; unfold node1; rw [hkk, decide_eq_true hlm, if_neg (by omega), if_pos (by omega), if_neg (by omega)]; rfl
          have hn0 : ∃ q, (n == 0) = q ∧ decide (n = 0) = q := ⟨_, rfl, rfl⟩
          obtain ⟨q, hq1, hq2⟩ := hn0
          rw [hq2] at HE
          clear hq2
          by_cases htx : t.size ≤ 100
          · rw [decide_eq_true htx] at HE
            clear HV
            have hg1 := hg (.cells #[.int .i64 (2 : Int), .string t, .int .i64 n, .slice a l c] 66)
            clear hg
            go_enter Tryz.func139, Tryz.ntmps139
            go_wp2_with fail
            go_quiet (fail)
            have BX := HBD.out 66 nq
            generalize World.drewN (w.alloc (.cells #[.int .i64 2, .string t, .int .i64 n, .slice a l c] 66)) nq = W1 at BX ⊢
            obtain ⟨hW1, c0, c1, c2, c3, bW1⟩ := BX
            clear hg1
            go_wp2_with fail
            go_ret
            exact ⟨by rw [HE.out]; rfl, bW1⟩
          · rw [decide_eq_false htx] at HE
            clear HV
            have hg1 := hg (.cells #[.int .i64 (2 : Int), .string t, .int .i64 n, .slice a l c] 66)
            clear hg
            go_enter Tryz.func139, Tryz.ntmps139
            go_wp2_with fail
            go_quiet (fail)
            have BX := HBD.out 66 nq
            generalize World.drewN (w.alloc (.cells #[.int .i64 2, .string t, .int .i64 n, .slice a l c] 66)) nq = W1 at BX ⊢
            obtain ⟨hW1, c0, c1, c2, c3, bW1⟩ := BX
            clear hg1
            go_wp2_with fail
            go_ret
            exact ⟨by rw [HE.out]; rfl, bW1⟩
        have HE : Hid (v = (t.toList.isEmpty && decide (n = 0))) := by unfold Hid; rw [← HV.out]; unfold node1; rw [hkk, decide_eq_true hlm, if_neg (by omega), if_neg (by omega), if_neg (by omega)]; rfl
        have kb0 : ((i : Int) == 0) = false := by simp; omega
        have kb1 : ((i : Int) == 1) = false := by simp; omega
        have kb2 : ((i : Int) == 2) = false := by simp; omega
        have hn0 : ∃ q, (n == 0) = q ∧ decide (n = 0) = q := ⟨_, rfl, rfl⟩
        obtain ⟨q, hq1, hq2⟩ := hn0
        rw [hq2] at HE
        clear hq2 k0 k1 k2
        cases htx : t.toList.isEmpty with
        | false =>
          rw [htx] at HE
          clear HV
          have hg1 := hg (.cells #[.int .i64 (i : Int), .string t, .int .i64 n, .slice a l c] 66)
          clear hg
          go_enter Tryz.func139, Tryz.ntmps139
          go_wp2_with fail
          go_quiet (fail)
          have BX := HBD.out 66 nq
          generalize World.drewN (w.alloc (.cells #[.int .i64 (i : Int), .string t, .int .i64 n, .slice a l c] 66)) nq = W1 at BX ⊢
          obtain ⟨hW1, c0, c1, c2, c3, bW1⟩ := BX
          clear hg1
          go_wp2_with fail
          go_ret
          exact ⟨by rw [HE.out]; rfl, bW1⟩
        | true =>
          rw [htx] at HE
          clear HV
          have hg1 := hg (.cells #[.int .i64 (i : Int), .string t, .int .i64 n, .slice a l c] 66)
          clear hg
          go_enter Tryz.func139, Tryz.ntmps139
          go_wp2_with fail
          go_quiet (fail)
          have BX := HBD.out 66 nq
          generalize World.drewN (w.alloc (.cells #[.int .i64 (i : Int), .string t, .int .i64 n, .slice a l c] 66)) nq = W1 at BX ⊢
          obtain ⟨hW1, c0, c1, c2, c3, bW1⟩ := BX
          clear hg1
          go_wp2_with fail
          go_ret
          exact ⟨by rw [HE.out]; rfl, bW1⟩
      · have hne : ((l : Int) != m) = true := by simp; exact hlm
        have HE : Hid (v = false) := by unfold Hid; rw [← HV.out]; unfold node1; rw [hkk, decide_eq_false hlm]; rfl
        clear HV
        have hg1 := hg (.cells #[.int .i64 (i : Int), .string t, .int .i64 n, .slice a l c] 66)
        clear hg
        go_enter Tryz.func139, Tryz.ntmps139
        go_wp2_with fail
        go_quiet (fail)
        have BX := HBD.out 66 nq
        generalize World.drewN (w.alloc (.cells #[.int .i64 (i : Int), .string t, .int .i64 n, .slice a l c] 66)) nq = W1 at BX ⊢
        obtain ⟨hW1, c0, c1, c2, c3, bW1⟩ := BX
        clear hg1
        go_wp2_with fail
        go_ret
        exact ⟨by rw [HE.out]; rfl, bW1⟩

end Go.Proofs.YtpdcmmhhgnackaaGreatDoor

namespace Go.Proofs.YtpdcmmhhgnackaaGreatDoor
open Go.RowKit

/-- The tables that the program reads. -/
structure Tabs (w : World) : Prop where
  forms : FormsAt w
  pow : Lib.TabIs Tryz.prog w "internal/strconv.uint64pow10" .u64 Lib.pow10Tab
  lt : 3 < w.heap.size

theorem Tabs.below {w w' : World} {B : Nat} (h : Tabs w) (hb : Below B w w') (hB : 4 ≤ B) : Tabs w' :=
  ⟨h.forms.below hb (by omega), var?_below hb gPow (by omega) h.pow, Nat.lt_of_lt_of_le h.lt hb.size⟩

theorem Tabs.big {w : World} (h : Tabs w) : 4 ≤ w.heap.size := by
  have h1 := h.lt
  have h2 := h.forms.1
  omega

def TxtP (d : Nat) : Prop := ∀ (e : Ex) (a : Option Addr) (c : Nat) (w : World), Tabs w → shapeE e = true → e.nodes ≤ 40 → KidsAt w d a c e.kids →
  Calls Tryz.prog 88 #[.agg #[.int .i64 e.kind, .string e.text, .int .i64 e.num, .slice a e.kids.length c]] w fun x w' => x = .returned (.string (tE e 1)) ∧ Below w.heap.size w w'

theorem nat_kind {e : Ex} (hs : shapeE e = true) : ∃ i : Nat, i < 19 ∧ e.kind = i := by
  obtain ⟨k, t, n, kids⟩ := e
  have := kind_in (shape_parts hs).1
  exact ⟨k.toNat, by omega, by show k = _; omega⟩

set_option maxRecDepth 100000 in
set_option maxHeartbeats 2000000 in
theorem opText0 (d : Nat) (ih : TxtP d) (i : Nat) (hi : i < 19) (t : ByteArray) (n : Int) (kids : List Ex) (a : Option Addr) (c : Nat) (m : Int) (w : World) (hT : Tabs w) (hs : shapeE (.mk i t n kids) = true) (hn : (Ex.mk i t n kids).nodes ≤ 40) (hm : 0 ≤ m) (hk : KidsAt w d a c kids) (r : ByteArray) (hr : tE (.mk i t n kids) m.toNat = r) :
    Calls Tryz.prog 125 #[.agg #[.int .i64 (i : Int), .string t, .int .i64 n, .slice a kids.length c], .int .i64 m] w fun x w' => x = .returned (.string r) ∧ Below w.heap.size w w' := by
  have HBX := Lib.hid (fun T => boxK_new w (i : Int) t n a kids.length c T)
  have HK := Lib.hid (fun w' hb => hk.below (w' := w') hb)
  have HT := Lib.hid (fun w' hb => hT.below (w' := w') (B := w.heap.size) hb hT.big)
  have hz := tE_size (L := 1) hs hn
  have HE := Lib.hid (tE_end (e := .mk i t n kids) (L := m.toNat) (s := tE (.mk i t n kids) 1) rfl)
  have hih : ∀ w, Tabs w → KidsAt w d a c kids → Calls Tryz.prog 88 #[.agg #[.int .i64 (i : Int), .string t, .int .i64 n, .slice a kids.length c]] w fun x w' => x = .returned (.string (tE (.mk i t n kids) 1)) ∧ Below w.heap.size w w' := fun w h1 h2 => ih (.mk i t n kids) a c w h1 hs hn h2
  obtain ⟨s, hs1⟩ : ∃ s, s = tE (.mk i t n kids) 1 := ⟨_, rfl⟩
  rw [← hs1] at hz HE hih
  have HRR := Lib.hid hr
  have l3 : (ByteArray.mk #[40]).size = 1 := rfl
  have l4 : (ByteArray.mk #[41]).size = 1 := rfl
  have ad1 : ∀ w, (Op.stringOp .add (ByteArray.mk #[40]) s).run Tryz.prog w = .ok (.string ((ByteArray.mk #[40]) ++ s)) w := fun w => run_string_add_sum w _ _ (by omega)
  have ad2 : ∀ w, (Op.stringOp .add ((ByteArray.mk #[40]) ++ s) (ByteArray.mk #[41])).run Tryz.prog w = .ok (.string ((ByteArray.mk #[40]) ++ s ++ (ByteArray.mk #[41]))) w := fun w => run_string_add_sum w _ _ (by rw [ByteArray.size_append]; omega)
  have hb0 : (0 : Int) ≤ (i : Int) := by omega
  have hb1 : (i : Int) < 19 := by omega
  have hst : ∃ st : Int, (bindsK (i : Int) : Int) = st := ⟨_, rfl⟩
  obtain ⟨st, hst⟩ := hst
  have HG : Hid (∀ o, (w.alloc o).cell? ⟨1, i * 4 + 1, none⟩ = some (.int .i64 st)) := fun o => by
    rw [← hst, ← fm_strength i hi]
    exact ((hT.forms.below ((Below.refl w.heap.size w).alloc (Nat.le_refl _) o) hT.forms.1).2 i hi).2.1
  have hg1 := HG.out (.cells #[.int .i64 (i : Int), .string t, .int .i64 n, .slice a kids.length c] 66)
  clear hk hT ih hr hs1
  by_cases hlt : st < m
  · have HR := Lib.hid (HE.out.1 (by show bindsK (i : Int) < m.toNat; omega))
    go_enter Tryz.func125, Tryz.ntmps125
    go_wp2_with fail
    refine (hih _ (HT.out _ (HBX.out _).bel) (HK.out _ (HBX.out _).bel)).mono ?_
    rintro x w2 ⟨rfl, hb2⟩
    have B2 := Lib.hid ((HBX.out _).below hb2).bel
    clear hb2 hg1
    go_wp2_with fail
    go_ret
    exact ⟨by rw [← HRR.out, HR.out]; rfl, B2.out⟩
  · have HR := Lib.hid (HE.out.2 (by show ¬ bindsK (i : Int) < m.toNat; omega))
    go_enter Tryz.func125, Tryz.ntmps125
    go_wp2_with fail
    refine (hih _ (HT.out _ (HBX.out _).bel) (HK.out _ (HBX.out _).bel)).mono ?_
    rintro x w2 ⟨rfl, hb2⟩
    have B2 := Lib.hid ((HBX.out _).below hb2).bel
    clear hb2 hg1
    go_wp2_with fail
    go_ret
    exact ⟨by rw [← HRR.out, HR.out]; rfl, B2.out⟩

theorem opText (d : Nat) (ih : TxtP d) (e : Ex) (a : Option Addr) (c : Nat) (m : Int) (w : World) (hT : Tabs w) (hs : shapeE e = true) (hn : e.nodes ≤ 40) (hm : 0 ≤ m) (hk : KidsAt w d a c e.kids) (r : ByteArray) (hr : tE e m.toNat = r) :
    Calls Tryz.prog 125 #[.agg #[.int .i64 e.kind, .string e.text, .int .i64 e.num, .slice a e.kids.length c], .int .i64 m] w fun x w' => x = .returned (.string r) ∧ Below w.heap.size w w' := by
  obtain ⟨i, hi, hik⟩ := nat_kind hs
  obtain ⟨k, t, n, kids⟩ := e
  have hik' : k = i := hik
  subst hik'
  exact opText0 d ih i hi t n kids a c m w hT hs hn hm hk r hr

/-- The box of the argument, and that of its form. -/
structure BoxF (w : World) (k : Int) (t : ByteArray) (n : Int) (a : Option Addr) (l c : Nat) (f0 f1 f2 : Int) (f3 : ByteArray) (w1 : World) : Prop where
  lt : w.heap.size + 1 < w1.heap.size
  c0 : w1.cell? ⟨w.heap.size, 0, none⟩ = some (.int .i64 k)
  c1 : w1.cell? ⟨w.heap.size, 1, none⟩ = some (.string t)
  c2 : w1.cell? ⟨w.heap.size, 2, none⟩ = some (.int .i64 n)
  c3 : w1.cell? ⟨w.heap.size, 3, none⟩ = some (.slice a l c)
  g0 : w1.cell? ⟨w.heap.size + 1, 0, none⟩ = some (.int .i64 f0)
  g1 : w1.cell? ⟨w.heap.size + 1, 1, none⟩ = some (.int .i64 f1)
  g2 : w1.cell? ⟨w.heap.size + 1, 2, none⟩ = some (.int .i64 f2)
  g3 : w1.cell? ⟨w.heap.size + 1, 3, none⟩ = some (.string f3)
  bel : Below w.heap.size w w1

theorem boxF_new (w : World) (k : Int) (t : ByteArray) (n : Int) (a : Option Addr) (l c : Nat) (f0 f1 f2 : Int) (f3 : ByteArray) (T T2 : TypeId) :
    BoxF w k t n a l c f0 f1 f2 f3 ((w.alloc (.cells #[.int .i64 k, .string t, .int .i64 n, .slice a l c] T)).alloc (.cells #[.int .i64 f0, .int .i64 f1, .int .i64 f2, .string f3] T2)) :=
  ⟨by simp, by simp [go_sem], by simp [go_sem], by simp [go_sem], by simp [go_sem], by simp [go_sem], by simp [go_sem], by simp [go_sem], by simp [go_sem], ((Below.refl _ _).alloc (Nat.le_refl _) _).alloc (by simp) _⟩

theorem BoxF.below {w w1 w2 : World} {k : Int} {t : ByteArray} {n : Int} {a : Option Addr} {l c : Nat} {f0 f1 f2 : Int} {f3 : ByteArray} (h : BoxF w k t n a l c f0 f1 f2 f3 w1) (hb : Below w1.heap.size w1 w2) : BoxF w k t n a l c f0 f1 f2 f3 w2 := by
  have e := fun o => hb.cell (p := ⟨w.heap.size, o, none⟩) (by have := h.lt; simp only; omega)
  have e' := fun o => hb.cell (p := ⟨w.heap.size + 1, o, none⟩) h.lt
  exact ⟨Nat.lt_of_lt_of_le h.lt hb.size, (e _).trans h.c0, (e _).trans h.c1, (e _).trans h.c2, (e _).trans h.c3, (e' _).trans h.g0, (e' _).trans h.g1, (e' _).trans h.g2, (e' _).trans h.g3, h.bel.trans (hb.mono h.bel.size)⟩

/-- What the table holds of a kind, in a world with one new block. -/
theorem forms_alloc {w : World} (hT : Tabs w) (i : Nat) (hi : i < 19) (o : Obj) :
    (w.alloc o).cell? ⟨1, i * 4, none⟩ = some (.int .i64 (fm i).kids) ∧ (w.alloc o).cell? ⟨1, i * 4 + 1, none⟩ = some (.int .i64 (fm i).strength) ∧
    (w.alloc o).cell? ⟨1, i * 4 + 2, none⟩ = some (.int .i64 (fm i).token) ∧ (w.alloc o).cell? ⟨1, i * 4 + 3, none⟩ = some (.string (txt (fm i).text)) :=
  (hT.forms.below ((Below.refl w.heap.size w).alloc (Nat.le_refl _) o) hT.forms.1).2 i hi

set_option maxRecDepth 100000 in
set_option maxHeartbeats 4000000 in
theorem txtLeaf (k : Int) (t : ByteArray) (n : Int) (a : Option Addr) (c : Nat) (w : World) (hT : Tabs w) (h : node1 k t n 0 = true) :
    Calls Tryz.prog 88 #[.agg #[.int .i64 k, .string t, .int .i64 n, .slice a 0 c]] w fun x w' => x = .returned (.string (tE (.mk k t n []) 1)) ∧ Below w.heap.size w w' := by
  have hk := zero_kids (arity h)
  have hts := small_text h
  have hns := small_num h
  have HT := Lib.hid (fun w' hb => hT.below (w' := w') (B := w.heap.size) hb hT.big)
  have HG := Lib.hid (forms_alloc hT)
  clear h hT
  rcases hk with rfl | rfl | rfl | rfl | rfl | rfl
  · have HBX := Lib.hid (fun T T2 => boxF_new w 0 t n a 0 c 0 7 0 (txt []) T T2)
    obtain ⟨g0, g1, g2, g3⟩ := HG.out 0 (by omega) (.cells #[.int .i64 0, .string t, .int .i64 n, .slice a 0 c] 66)
    change _ = some (Value.int .i64 0) at g0; change _ = some (Value.int .i64 7) at g1; change _ = some (Value.int .i64 0) at g2; change _ = some (Value.string (txt [])) at g3
    obtain ⟨r, hr⟩ : ∃ r, nameT t = r := ⟨_, rfl⟩
    have HE : Hid (tE (.mk 0 t n []) 1 = r) := by unfold Hid; rw [tE_name, hr]
    go_enter Tryz.func88, Tryz.ntmps88
    go_wp2_with (go_at_call 30; refine (implPutName t _ (by omega) r hr).mono ?_; rintro e w2 ⟨rfl, hb2⟩)
    go_ret
    exact ⟨by rw [HE.out]; rfl, ((HBX.out _ _).below hb2).bel⟩
  · have HBX := Lib.hid (fun T T2 => boxF_new w 1 t n a 0 c 0 7 0 (txt []) T T2)
    obtain ⟨g0, g1, g2, g3⟩ := HG.out 1 (by omega) (.cells #[.int .i64 1, .string t, .int .i64 n, .slice a 0 c] 66)
    change _ = some (Value.int .i64 0) at g0; change _ = some (Value.int .i64 7) at g1; change _ = some (Value.int .i64 0) at g2; change _ = some (Value.string (txt [])) at g3
    have HE : Hid (tE (.mk 1 t n []) 1 = dec n) := by unfold Hid; rw [tE_num]
    go_enter Tryz.func88, Tryz.ntmps88
    go_wp2_with (go_at_call 82; refine (implDecText n _ (by omega) (by omega) (HT.out _ (HBX.out _ _).bel).pow).mono ?_; rintro e w2 ⟨rfl, hb2⟩)
    go_ret
    exact ⟨by rw [HE.out]; rfl, ((HBX.out _ _).below hb2).bel⟩
  · have HBX := Lib.hid (fun T T2 => boxF_new w 2 t n a 0 c 0 7 0 (txt []) T T2)
    obtain ⟨g0, g1, g2, g3⟩ := HG.out 2 (by omega) (.cells #[.int .i64 2, .string t, .int .i64 n, .slice a 0 c] 66)
    change _ = some (Value.int .i64 0) at g0; change _ = some (Value.int .i64 7) at g1; change _ = some (Value.int .i64 0) at g2; change _ = some (Value.string (txt [])) at g3
    have HE : Hid (tE (.mk 2 t n []) 1 = quoteT t 39) := by unfold Hid; rw [tE_text]
    go_enter Tryz.func88, Tryz.ntmps88
    go_wp2_with (go_at_call 79; refine (implQuote t 39 _ (by omega)).mono ?_; rintro e w2 ⟨rfl, hb2⟩)
    go_ret
    exact ⟨by rw [HE.out]; rfl, ((HBX.out _ _).below hb2).bel⟩
  · have HBX := Lib.hid (fun T T2 => boxF_new w 3 t n a 0 c 0 7 0 (txt wTrue) T T2)
    obtain ⟨g0, g1, g2, g3⟩ := HG.out 3 (by omega) (.cells #[.int .i64 3, .string t, .int .i64 n, .slice a 0 c] 66)
    change _ = some (Value.int .i64 0) at g0; change _ = some (Value.int .i64 7) at g1; change _ = some (Value.int .i64 0) at g2; change _ = some (Value.string (txt wTrue)) at g3
    have HE : Hid (tE (.mk 3 t n []) 1 = txt wTrue) := by unfold Hid; rw [tE_true]
    go_enter Tryz.func88, Tryz.ntmps88
    go_wp2_with fail
    go_ret
    exact ⟨by rw [HE.out]; rfl, (HBX.out _ _).bel⟩
  · have HBX := Lib.hid (fun T T2 => boxF_new w 4 t n a 0 c 0 7 0 (txt wFalse) T T2)
    obtain ⟨g0, g1, g2, g3⟩ := HG.out 4 (by omega) (.cells #[.int .i64 4, .string t, .int .i64 n, .slice a 0 c] 66)
    change _ = some (Value.int .i64 0) at g0; change _ = some (Value.int .i64 7) at g1; change _ = some (Value.int .i64 0) at g2; change _ = some (Value.string (txt wFalse)) at g3
    have HE : Hid (tE (.mk 4 t n []) 1 = txt wFalse) := by unfold Hid; rw [tE_false]
    go_enter Tryz.func88, Tryz.ntmps88
    go_wp2_with fail
    go_ret
    exact ⟨by rw [HE.out]; rfl, (HBX.out _ _).bel⟩
  · have HBX := Lib.hid (fun T T2 => boxF_new w 5 t n a 0 c 0 7 0 (txt wNull) T T2)
    obtain ⟨g0, g1, g2, g3⟩ := HG.out 5 (by omega) (.cells #[.int .i64 5, .string t, .int .i64 n, .slice a 0 c] 66)
    change _ = some (Value.int .i64 0) at g0; change _ = some (Value.int .i64 7) at g1; change _ = some (Value.int .i64 0) at g2; change _ = some (Value.string (txt wNull)) at g3
    have HE : Hid (tE (.mk 5 t n []) 1 = txt wNull) := by unfold Hid; rw [tE_nul]
    go_enter Tryz.func88, Tryz.ntmps88
    go_wp2_with fail
    go_ret
    exact ⟨by rw [HE.out]; rfl, (HBX.out _ _).bel⟩

end Go.Proofs.YtpdcmmhhgnackaaGreatDoor

namespace Go.Proofs.YtpdcmmhhgnackaaGreatDoor
open Go.RowKit

/-- Any world. -/
def AnyW (_ : World) : Prop := True
theorem AnyW.call {w w' : World} (_ : AnyW w) (_ : Below w.heap.size w w') : AnyW w' := trivial

/-- A world that holds the two tables of forms. -/
structure FormR (w : World) : Prop where
  forms : FormsAt w
  rules : RulesAt w
theorem FormR.call {w w' : World} (h : FormR w) (hb : Below w.heap.size w w') : FormR w' := ⟨h.forms.call hb, h.rules.call hb⟩

theorem Tabs.call {w w' : World} (h : Tabs w) (hb : Below w.heap.size w w') : Tabs w' := h.below hb h.big

structure TabR (w : World) : Prop where
  tabs : Tabs w
  rules : RulesAt w
theorem TabR.call {w w' : World} (h : TabR w) (hb : Below w.heap.size w w') : TabR w' := ⟨h.tabs.call hb, h.rules.call hb⟩
theorem TabR.formR {w : World} (h : TabR w) : FormR w := ⟨h.tabs.forms, h.rules⟩

theorem tabs_of {W : World} {rest rest' : List (String × DataW Unit)} (h : laidMet Tryz.prog (("internal/strconv.uint64pow10", Rows.laid_internal_strconv_uint64pow10) :: rest) W)
    (h' : laidMet Tryz.prog (("loop.example/g00751/impl.exprForms", Rows.laid_loop_example_g00751_impl_exprForms) :: rest') W) : Tabs W := by
  have hp := powTab_of h
  have hcell : W.cell? ⟨3, 0, none⟩ = some (.int .u64 (Lib.pow10Tab.getD 0 0)) := hp.cell gPow 0 (by rw [Lib.pow10Tab_length]; omega)
  exact ⟨formsAt_of h', hp, World.block_lt_of_cell? W ⟨3, 0, none⟩ hcell⟩

/-- One name in one cell. -/
def RNm : Rd ByteArray := fun _ _ vs s => vs = [.string s] ∧ s.size ≤ maxLen

theorem goodRNm : Good RNm := by
  constructor
  · rintro lo w w' vs x ⟨h, f⟩ _
    exact ⟨h, f⟩
  · rintro lo lo' w vs x ⟨h, f⟩ _
    exact ⟨h, f⟩

theorem Ss.sl {lo : Nat} {w : World} {a : Option Addr} {c : Nat} {xs : List ByteArray} (h : Ss lo w a c xs) : Sl 1 RNm lo w a c xs := by
  obtain ⟨⟨h1, h2, h3, h4, h5⟩, h6⟩ := h
  refine ⟨h1, h2, h4, fun hp => ?_⟩
  obtain ⟨b, off, ha, hlt, hc⟩ := h5 hp
  obtain ⟨b', off', ha', hl⟩ := h6 hp
  rw [ha] at ha'
  cases ha'
  refine ⟨b, off, ha, hl, hlt, fun i hi => ⟨[.string xs[i]], fun j hj => ?_, rfl, h3 _ (List.getElem_mem hi)⟩⟩
  have : j = 0 := by simpa using hj
  subst this
  simp [hc i hi]

/-- One expression in four cells. -/
def RE (d : Nat) : Rd Ex := fun lo w vs e => ∃ a c, vs = [.int .i64 e.kind, .string e.text, .int .i64 e.num, .slice a e.kids.length c] ∧ e.fit ∧ KidsB lo w d a c e.kids

theorem goodRE (d : Nat) : Good (RE d) := by
  constructor
  · rintro lo w w' vs x ⟨a, c, h, f, k⟩ hk
    exact ⟨a, c, h, f, k.agree hk.1 hk.2⟩
  · rintro lo lo' w vs x ⟨a, c, h, f, k⟩ hl
    exact ⟨a, c, h, f, k.lower hl⟩

theorem KidsB.sl {lo d : Nat} {w : World} {a : Option Addr} {c : Nat} {kids : List Ex} (h : KidsB lo w (d + 1) a c kids) : Sl 4 (RE d) lo w a c kids := by
  obtain ⟨h1, h2, h3, h4⟩ := h
  refine ⟨h1, h2, h3, fun hp => ?_⟩
  obtain ⟨b, off, ha, hl, hlt, hc⟩ := h4 hp
  refine ⟨b, off, ha, hl, hlt, fun i hi => ?_⟩
  obtain ⟨c0, c1, c2, hf, a', c', c3, hk⟩ := hc i hi
  refine ⟨[.int .i64 kids[i].kind, .string kids[i].text, .int .i64 kids[i].num, .slice a' kids[i].kids.length c'], fun j hj => ?_, a', c', rfl, hf, hk⟩
  have hj4 : j < 4 := hj
  match j, hj4 with
  | 0, _ => exact c0
  | 1, _ => exact c1
  | 2, _ => exact c2
  | 3, _ => exact c3

theorem wtL_mem {l : List Ex} {x : Ex} (h : x ∈ l) : x.wt ≤ wtL l := by
  obtain ⟨i, hi, rfl⟩ := List.mem_iff_getElem.1 h
  have h1 := wtL_take l i hi
  have h2 := wtL_mono l (i + 1)
  omega

theorem wtS_mem {X : Type} (f : X → Nat) {xs : List X} {x : X} (h : x ∈ xs) : f x ≤ wtS f xs := by
  obtain ⟨i, hi, rfl⟩ := List.mem_iff_getElem.1 h
  exact wtS_get f hi

set_option maxHeartbeats 1000000 in
theorem spanAllows (lo hi : Int) (n : Nat) (w : World) (v : Bool) (hv : inI n lo hi = v) :
    Calls Tryz.prog 113 #[.agg #[.int .i64 lo, .int .i64 hi], .int .i64 n] w fun e w' => e = .returned (.bool v) ∧ Below w.heap.size w w' := by
  unfold inI at hv
  have hb := fun o => (Below.refl w.heap.size w).alloc (Nat.le_refl _) o
  have HB := Lib.hid hb
  clear hb
  cases h1 : decide (lo ≤ (n : Int)) with
  | false =>
    have HV : Hid (v = false) := by unfold Hid; rw [← hv, h1]; rfl
    clear hv
    go_enter Tryz.func113, Tryz.ntmps113
    go_wp2_with fail
    go_ret
    exact ⟨by rw [HV.out]; rfl, HB.out _⟩
  | true =>
    have HV : Hid (v = decide ((n : Int) ≤ hi)) := by unfold Hid; rw [← hv, h1]; rfl
    clear hv
    go_enter Tryz.func113, Tryz.ntmps113
    go_wp2_with fail
    go_ret
    exact ⟨by rw [HV.out]; rfl, HB.out _⟩

end Go.Proofs.YtpdcmmhhgnackaaGreatDoor

namespace Go.Proofs.YtpdcmmhhgnackaaGreatDoor
open Go.RowKit

set_option maxHeartbeats 1000000 in
theorem specExprOk (e : Ex) (a : Option Addr) (c d : Nat) (w : World) (hk : KidsAt w d a c e.kids) (hwt : e.wt ≤ 1048576) (v : Bool) (hv : (decide (e.nodes ≤ 40) && shapeE e) = v) :
    Calls Tryz.prog 69 #[.agg #[.int .i64 e.kind, .string e.text, .int .i64 e.num, .slice a e.kids.length c]] w fun x w' => x = .returned (.bool v) ∧ Below w.heap.size w w' := by
  have hwe := Ex.wt_eq e
  have hnw := nodes_wt e
  have HE := Lib.hid (Ex.eta e)
  have HK := Lib.hid (fun w' hb => hk.below (w' := w') hb)
  have HBX := Lib.hid (fun T => boxK_new w e.kind e.text e.num a e.kids.length c T)
  clear hk
  by_cases hn : e.nodes ≤ 40
  · rw [decide_eq_true hn, Bool.true_and] at hv
    have hd : decide ((e.nodes : Int) ≤ 40) = true := by simp; omega
    subst hv
    go_enter Tryz.func69, Tryz.ntmps69
    go_wp2_with fail
    refine (specNodes d e a c _ (by omega) (HK.out _ (HBX.out _).bel)).mono ?_
    rintro x w2 ⟨rfl, hb2⟩
    have BX := (HBX.out _).below hb2
    obtain ⟨hW1, c0, c1, c2, c3, bW1⟩ := BX
    clear hb2
    go_wp2_with fail
    refine (specShape d e.kind e.text e.num e.kids a c _ (by omega) (by omega) (HK.out _ bW1)).mono ?_
    rw [← HE.out]
    rintro x w3 ⟨rfl, hb3⟩
    have B3 := Lib.hid (bW1.trans (hb3.mono bW1.size))
    clear hb3
    cases hs : shapeE e with
    | true => go_wp2_with fail; go_ret; exact ⟨by rw [hs]; rfl, B3.out⟩
    | false => go_wp2_with fail; go_ret; exact ⟨by rw [hs]; rfl, B3.out⟩
  · rw [decide_eq_false hn, Bool.false_and] at hv
    have hd : decide ((e.nodes : Int) ≤ 40) = false := by simp; omega
    subst hv
    go_enter Tryz.func69, Tryz.ntmps69
    go_wp2_with fail
    refine (specNodes d e a c _ (by omega) (HK.out _ (HBX.out _).bel)).mono ?_
    rintro x w2 ⟨rfl, hb2⟩
    have B2 := Lib.hid ((HBX.out _).below hb2).bel
    clear hb2
    go_wp2_with fail
    go_ret
    exact ⟨rfl, B2.out⟩

end Go.Proofs.YtpdcmmhhgnackaaGreatDoor

namespace Go.Proofs.YtpdcmmhhgnackaaGreatDoor
open Go.RowKit

theorem tE_zero (e : Ex) : tE e 0 = tE e 1 := tE_out (by omega)

set_option maxHeartbeats 1000000 in
theorem specPutExpr (e : Ex) (a : Option Addr) (c d : Nat) (w : World) (hk : KidsAt w d a c e.kids) (hwt : e.wt ≤ 1048576) (r : ByteArray) (hr : putT e = r) :
    Calls Tryz.prog 26 #[.agg #[.int .i64 e.kind, .string e.text, .int .i64 e.num, .slice a e.kids.length c]] w fun x w' => x = .returned (.string r) ∧ Below w.heap.size w w' := by
  have HK := Lib.hid (fun w' hb => hk.below (w' := w') hb)
  have HBX := Lib.hid (fun T => boxK_new w e.kind e.text e.num a e.kids.length c T)
  clear hk
  cases hok : (decide (e.nodes ≤ 40) && shapeE e) with
  | true =>
    have hr2 : tE e 0 = r := by rw [tE_zero, ← hr, putT, if_pos hok]
    have HOK := Lib.hid hok
    have hb := hok
    rw [Bool.and_eq_true, decide_eq_true_eq] at hb
    have HR := Lib.hid hr2
    clear hok hr hr2
    go_enter Tryz.func26, Tryz.ntmps26
    go_wp2_with fail
    refine (specExprOk e a c d _ (HK.out _ (HBX.out _).bel) hwt true HOK.out).mono ?_
    rintro x w2 ⟨rfl, hb2⟩
    have BX := (HBX.out _).below hb2
    obtain ⟨hW1, c0, c1, c2, c3, bW1⟩ := BX
    clear hb2
    go_wp2_with fail
    have hput := specPut d e a c 0 w2 hb.2 hb.1 (by omega) (HK.out _ bW1)
    rw [HR.out] at hput
    refine hput.mono ?_
    rintro x w3 ⟨rfl, hb3⟩
    have B3 := Lib.hid (bW1.trans (hb3.mono bW1.size))
    clear hb3 hput
    go_wp2_with fail
    go_ret
    exact ⟨rfl, B3.out⟩
  | false =>
    have HOK := Lib.hid hok
    have HR : Hid (r = txt []) := by unfold Hid; rw [← hr, putT, if_neg (by rw [hok]; decide)]
    clear hok hr
    go_enter Tryz.func26, Tryz.ntmps26
    go_wp2_with fail
    refine (specExprOk e a c d _ (HK.out _ (HBX.out _).bel) hwt false HOK.out).mono ?_
    rintro x w2 ⟨rfl, hb2⟩
    have B2 := Lib.hid ((HBX.out _).below hb2).bel
    clear hb2
    go_wp2_with fail
    go_ret
    exact ⟨by rw [HR.out]; rfl, B2.out⟩

end Go.Proofs.YtpdcmmhhgnackaaGreatDoor

namespace Go.Proofs.YtpdcmmhhgnackaaGreatDoor
open Go.RowKit

theorem all_over {X : Type} (f : X → Bool) (xs : List X) (lo hi : Int) (h : inI xs.length lo hi = false) (b : Bool) : (inI xs.length lo hi && b) = false := by rw [h]; rfl

set_option maxRecDepth 100000 in
set_option maxHeartbeats 2000000 in
theorem specExprs (a : Option Addr) (c : Nat) (xs : List Ex) (lo hi : Int) (w : World) (hx : Ks 0 w a c xs) (hwt : wtL xs ≤ 1048576) (h0 : i64E lo) (h1 : i64E hi) (v : Bool) (hv : exprsB xs lo hi = v) :
    Calls Tryz.prog 61 #[.slice a xs.length c, .int .i64 lo, .int .i64 hi] w fun e w' => e = .returned (.bool v) ∧ Below w.heap.size w w' := by
  obtain ⟨d, hx⟩ := hx
  have hx := hx.sl
  have hl := hx.len
  have HX := Lib.hid (fun w' (hb : Below w.heap.size w w') => hx.kept (goodRE d) (Kept.below hb))
  have HW := Lib.hid (fun (x : Ex) (hm : x ∈ xs) => Nat.le_trans (wtL_mem hm) hwt)
  have HV := Lib.hid hv
  clear hx hv
  unfold i64E at h0 h1
  go_enter Tryz.func61, Tryz.ntmps61
  go_wp2
  go_loopw [7] (fun i wr => ∃ k : Nat, k ≤ xs.length ∧ i = .int .i64 k ∧ Hid (∀ m (hm : m < xs.length), m < k → okX xs[m] = true) ∧ Below w.heap.size w wr) (fun i _ => xs.length - (intOf i).toNat)
  case atStart => exact ⟨0, Nat.zero_le _, rfl, fun m h hm => absurd hm (by omega), Below.refl _ _⟩
  case round =>
    obtain ⟨k, hk, rfl, hall, hb⟩ := hrel
    by_cases hlt : k < xs.length
    · have hltI : (k : Int) < (xs.length : Int) := by omega
      by_cases hle : (k : Int) ≤ hi
      · obtain ⟨b, off, vs, rfl, hbl, hcs, hR⟩ := (HX.out _ hb).spot hlt
        obtain ⟨a0, c0, rfl, hfit, hkid⟩ := hR
        have hc0 : wr.cell? ⟨b, off + k * 4, none⟩ = some (.int .i64 xs[k].kind) := hcs 0 (by simp)
        have hc1 : wr.cell? ⟨b, off + k * 4 + 1, none⟩ = some (.string xs[k].text) := hcs 1 (by simp)
        have hc2 : wr.cell? ⟨b, off + k * 4 + 2, none⟩ = some (.int .i64 xs[k].num) := hcs 2 (by simp)
        have hc3 : wr.cell? ⟨b, off + k * 4 + 3, none⟩ = some (.slice a0 xs[k].kids.length c0) := hcs 3 (by simp)
        have HK := Lib.hid hkid.at
        clear hkid hcs
        go_wp2_with fail
        refine (specExprOk xs[k] a0 c0 d _ HK.out (HW.out _ (List.getElem_mem hlt)) _ rfl).mono ?_
        rintro e w2 ⟨rfl, hb2⟩
        have HB2 := Lib.hid (hb.trans (hb2.mono hb.size))
        clear hb2
        rw [show (decide (xs[k].nodes ≤ 40) && shapeE xs[k]) = okX xs[k] from rfl]
        cases he : okX xs[k] with
        | false =>
          have HE : Hid (v = false) := by unfold Hid; rw [← HV.out]; unfold exprsB; rw [all_hit okX xs k hlt he]; simp
          clear he
          go_wp2_with fail
          go_ret
          exact ⟨by rw [HE.out]; rfl, HB2.out⟩
        | true =>
          have HE := Lib.hid he
          clear he
          go_wp2_with fail
          go_roundw
          case rel => exact ⟨k + 1, by omega, by go_num, fun m hm h1 => by
            rcases Nat.lt_or_ge m k with h2 | h2
            · exact hall.out m hm h2
            · obtain rfl : m = k := by omega
              exact HE.out, HB2.out⟩
          case measure => simp [intOf]; omega
      · have HI : Hid (inI xs.length lo hi = false) := by unfold Hid inI; simp; omega
        have HE : Hid (v = false) := by unfold Hid; rw [← HV.out]; unfold exprsB; rw [HI.out]; rfl
        go_wp2_with fail
        refine (specInIs _ lo hi _ false HI.out).mono ?_
        rintro e w2 ⟨rfl, rfl⟩
        go_wp2_with fail
        go_ret
        exact ⟨by rw [HE.out]; rfl, hb⟩
    · have hge : ¬ (k : Int) < (xs.length : Int) := by omega
      have HE : Hid (v = inI xs.length lo hi) := by unfold Hid; rw [← HV.out]; unfold exprsB; rw [all_miss okX xs fun m hm => hall.out m hm (by omega)]; simp
      go_wp2_with fail
      refine (specInIs _ lo hi _ _ rfl).mono ?_
      rintro e w2 ⟨rfl, rfl⟩
      go_wp2_with fail
      go_ret
      exact ⟨by rw [HE.out] <;> rfl, hb⟩

set_option maxRecDepth 100000 in
set_option maxHeartbeats 2000000 in
theorem specNames (a : Option Addr) (c : Nat) (xs : List ByteArray) (hi : Int) (w : World) (hx : Strs w a c xs) (hwt : lets xs ≤ 1048576) (h1 : i64E hi) (v : Bool) (hv : namesB xs hi = v) :
    Calls Tryz.prog 85 #[.slice a xs.length c, .int .i64 hi] w fun e w' => e = .returned (.bool v) ∧ w = w' := by
  have hl := hx.len
  have HW := Lib.hid (fun (x : ByteArray) (hm : x ∈ xs) => Nat.le_trans (lets_mem hm) hwt)
  have HV := Lib.hid hv
  clear hv
  unfold i64E at h1
  go_enter Tryz.func85, Tryz.ntmps85
  go_wp2
  go_loop [5] (fun i => ∃ k : Nat, k ≤ xs.length ∧ i = .int .i64 k ∧ Hid (∀ m (hm : m < xs.length), m < k → nmB xs[m] = true)) (fun i => xs.length - (intOf i).toNat)
  case atStart => exact ⟨0, Nat.zero_le _, rfl, fun m h hm => absurd hm (by omega)⟩
  case round =>
    obtain ⟨k, hk, rfl, hall⟩ := hrel
    by_cases hlt : k < xs.length
    · have hltI : (k : Int) < (xs.length : Int) := by omega
      by_cases hle : (k : Int) ≤ hi
      · obtain ⟨b, off, rfl, hbl, hc⟩ := hx.spot hlt
        go_wp2_with fail
        refine (specNameOk xs[k] _ (HW.out _ (List.getElem_mem hlt)) _ rfl).mono ?_
        rintro e w2 ⟨rfl, rfl⟩
        rw [show nameB xs[k].data.toList = nmB xs[k] from rfl]
        cases he : nmB xs[k] with
        | false =>
          have HE : Hid (v = false) := by unfold Hid; rw [← HV.out]; unfold namesB; rw [all_hit nmB xs k hlt he]; simp
          clear he
          go_wp2_with fail
          go_ret
          exact ⟨by rw [HE.out]; rfl, rfl⟩
        | true =>
          have HE := Lib.hid he
          clear he
          go_wp2_with fail
          go_round
          case rel => exact ⟨k + 1, by omega, by go_num, fun m hm h1 => by
            rcases Nat.lt_or_ge m k with h2 | h2
            · exact hall.out m hm h2
            · obtain rfl : m = k := by omega
              exact HE.out⟩
          case measure => simp [intOf]; omega
      · have HI : Hid (inI xs.length 1 hi = false) := by unfold Hid inI; simp; omega
        have HE : Hid (v = false) := by unfold Hid; rw [← HV.out]; unfold namesB; rw [HI.out]; rfl
        go_wp2_with fail
        refine (specInIs _ 1 hi _ false HI.out).mono ?_
        rintro e w2 ⟨rfl, rfl⟩
        go_wp2_with fail
        go_ret
        exact ⟨by rw [HE.out]; rfl, rfl⟩
    · have hge : ¬ (k : Int) < (xs.length : Int) := by omega
      have HE : Hid (v = inI xs.length 1 hi) := by unfold Hid; rw [← HV.out]; unfold namesB; rw [all_miss nmB xs fun m hm => hall.out m hm (by omega)]; simp
      go_wp2_with fail
      refine (specInIs _ 1 hi _ _ rfl).mono ?_
      rintro e w2 ⟨rfl, rfl⟩
      go_wp2_with fail
      go_ret
      exact ⟨by rw [HE.out] <;> rfl, rfl⟩

/-- The cells of a column's own box. -/
def BoxCo (w : World) (x : Co) (a : Option Addr) (c : Nat) (w1 : World) : Prop :=
  Blk w1 w.heap.size [.string x.name, .int .i64 x.ty.kind, .int .i64 x.ty.len, .string x.ty.name, .bool x.notNull, .slice a x.dflt.length c] ∧ Below w.heap.size w w1

theorem BoxCo.call {w w1 w2 : World} {x : Co} {a : Option Addr} {c : Nat} (h : BoxCo w x a c w1) (hb : Below w1.heap.size w1 w2) : BoxCo w x a c w2 :=
  ⟨h.1.below hb, Below.call hb h.2⟩

theorem boxCo_new (w : World) (x : Co) (a : Option Addr) (c : Nat) (T : TypeId) : BoxCo w x a c (w.alloc (.cells [.string x.name, .int .i64 x.ty.kind, .int .i64 x.ty.len, .string x.ty.name, .bool x.notNull, .slice a x.dflt.length c].toArray T)) :=
  ⟨blk_new w T _, (Below.refl _ _).alloc (Nat.le_refl _) _⟩

set_option maxRecDepth 100000 in
set_option maxHeartbeats 2000000 in
theorem specColOk (vs : List Value) (x : Co) (w : World) (hR : RCo 0 w vs x) (hwt : x.wt ≤ 1048576) (v : Bool) (hv : colB x = v) :
    Calls Tryz.prog 23 #[.agg vs.toArray] w fun e w' => e = .returned (.bool v) ∧ Below w.heap.size w w' := by
  obtain ⟨a0, c0, rfl, hfit, k0⟩ := hR
  have HK := Lib.hid (fun w' (hb : Below w.heap.size w w') => k0.kept (Kept.below hb))
  have HB := Lib.hid (fun T => boxCo_new w x a0 c0 T)
  have hW : x.wt = x.name.size + x.ty.name.size + (x.dflt.length + wtL x.dflt) := rfl
  have HN := Lib.hid (show x.name.size ≤ 1048576 by omega)
  have HTn := Lib.hid (show x.ty.name.size ≤ 1048576 by omega)
  have HD := Lib.hid (show wtL x.dflt ≤ 1048576 by omega)
  unfold colB at hv
  clear k0 hW
  cases h1 : nmB x.name with
  | false =>
    have H1 : Hid (nameB x.name.data.toList = false) := h1
    have HV : Hid (v = false) := by unfold Hid; rw [← hv, h1]; rfl
    clear hv h1
    go_enter Tryz.func23, Tryz.ntmps23
    go_wp2_with fail
    refine (specNameOk x.name _ HN.out _ H1.out).mono ?_
    rintro e w1 ⟨rfl, rfl⟩
    go_wp2_with fail
    go_ret
    exact ⟨by rw [HV.out]; rfl, (HB.out _).2⟩
  | true =>
    have H1 : Hid (nameB x.name.data.toList = true) := h1
    cases h2 : tyB x.ty with
    | false =>
      have H2 := Lib.hid h2
      have HV : Hid (v = false) := by unfold Hid; rw [← hv, h2]; simp
      clear hv h1 h2
      go_enter Tryz.func23, Tryz.ntmps23
      go_wp2_with fail
      refine (specNameOk x.name _ HN.out _ H1.out).mono ?_
      rintro e w1 ⟨rfl, rfl⟩
      go_wp2_with fail
      refine (specTypeOk x.ty.kind x.ty.len x.ty.name _ HTn.out _ H2.out).mono ?_
      rintro e w2 ⟨rfl, b2⟩
      have B2 := Lib.hid ((HB.out 32).call b2)
      clear b2
      go_wp2_with fail
      go_ret
      exact ⟨by rw [HV.out]; rfl, B2.out.2⟩
    | true =>
      have H2 := Lib.hid h2
      have HV : Hid (exprsB x.dflt 0 1 = v) := by unfold Hid; rw [← hv, h1, h2]; rfl
      clear hv h1 h2
      go_enter Tryz.func23, Tryz.ntmps23
      go_wp2_with fail
      refine (specNameOk x.name _ HN.out _ H1.out).mono ?_
      rintro e w1 ⟨rfl, rfl⟩
      go_wp2_with fail
      refine (specTypeOk x.ty.kind x.ty.len x.ty.name _ HTn.out _ H2.out).mono ?_
      rintro e w2 ⟨rfl, b2⟩
      have B2 := Lib.hid ((HB.out 32).call b2)
      clear b2
      have g5 : w2.cell? ⟨w.heap.size, 5, none⟩ = some (.slice a0 x.dflt.length c0) := (B2.out.1.2 5 (by simp)).1
      go_wp2_with fail
      refine (specExprs a0 c0 x.dflt 0 1 _ (HK.out _ B2.out.2) HD.out (by unfold i64E; omega) (by unfold i64E; omega) v HV.out).mono ?_
      rintro e w3 ⟨rfl, b3⟩
      have B3 := Lib.hid (B2.out.call b3)
      clear b3
      go_wp2_with fail
      go_ret
      exact ⟨rfl, B3.out.2⟩

theorem run_add (P : Program) (a b r : ByteArray) (h : r = a ++ b) (hz : a.size + b.size ≤ 4611686018427387904) : ∀ w, (Op.stringOp .add a b).run P w = .ok (.string r) w := fun w => by
  rw [h]; exact run_string_add_sum w _ _ (by omega)

set_option maxRecDepth 100000 in
set_option maxHeartbeats 4000000 in
theorem specPutCol (vs : List Value) (x : Co) (w : World) (hR : RCo 0 w vs x) (hwt : x.wt ≤ 1048576) (r : ByteArray) (hr : colT x = r) :
    Calls Tryz.prog 7 #[.agg vs.toArray] w fun e w' => e = .returned (.string r) ∧ Below w.heap.size w w' := by
  have HC := Lib.hid (fun w' (hb : Below w.heap.size w w') => specColOk vs x w' (goodCo.kept hR (Kept.below hb)) hwt _ rfl)
  obtain ⟨a0, c0, rfl, hfit, k0⟩ := hR
  have HK := Lib.hid (fun w' (hb : Below w.heap.size w w') => k0.kept (Kept.below hb))
  have HB := Lib.hid (fun T => boxCo_new w x a0 c0 T)
  have hW : x.wt = x.name.size + x.ty.name.size + (x.dflt.length + wtL x.dflt) := rfl
  have HN := Lib.hid (show x.name.size ≤ 1048576 by omega)
  have HTn := Lib.hid (show x.ty.name.size ≤ 1048576 by omega)
  have HD := Lib.hid (show wtL x.dflt ≤ 1048576 by omega)
  unfold colT at hr
  clear k0 hW
  cases hc : colB x with
  | false =>
    have HCC := Lib.hid hc
    have HV : Hid (r = ⟨#[]⟩) := by unfold Hid; rw [← hr, hc]; rfl
    clear hr hc
    go_enter Tryz.func7, Tryz.ntmps7
    go_wp2_with fail
    refine (HC.out _ (HB.out _).2).mono ?_
    rintro e w1 ⟨rfl, b1⟩
    have B1 := Lib.hid ((HB.out 32).call b1)
    clear b1
    rw [HCC.out]
    go_wp2_with fail
    go_ret
    exact ⟨by rw [HV.out]; rfl, B1.out.2⟩
  | true =>
    have HCC := Lib.hid hc
    obtain ⟨q1, q2, q3, q4⟩ := colB_parts hc
    rw [if_pos hc] at hr
    obtain ⟨s1, hs1⟩ : ∃ s, nameT x.name = s := ⟨_, rfl⟩
    obtain ⟨s2, hs2⟩ : ∃ s, tyT x.ty = s := ⟨_, rfl⟩
    have z1 : s1.size ≤ 82 := by rw [← hs1]; exact nameT_small q1
    have z2 : s2.size ≤ 100 := by rw [← hs2]; exact tyT_small q2
    obtain ⟨p1, hp1⟩ : ∃ p, p = s1 ++ (ByteArray.mk #[32]) := ⟨_, rfl⟩
    obtain ⟨p2, hp2⟩ : ∃ p, p = p1 ++ s2 := ⟨_, rfl⟩
    have y1 : (ByteArray.mk #[32]).size = 1 := rfl
    have y2 : (ByteArray.mk #[32, 110, 111, 116, 32, 110, 117, 108, 108]).size = 9 := rfl
    have y3 : (ByteArray.mk #[32, 100, 101, 102, 97, 117, 108, 116, 32]).size = 9 := rfl
    have z3 : p1.size ≤ 83 := by rw [hp1, ByteArray.size_append]; omega
    have z4 : p2.size ≤ 183 := by rw [hp2, ByteArray.size_append]; omega
    have ad1 := run_add Tryz.prog s1 _ p1 hp1 (by omega)
    have ad2 := run_add Tryz.prog p1 _ p2 hp2 (by omega)
    obtain ⟨p3, hp3⟩ : ∃ p, p = p2 ++ (ByteArray.mk #[32, 110, 111, 116, 32, 110, 117, 108, 108]) := ⟨_, rfl⟩
    have ad3 := run_add Tryz.prog p2 _ p3 hp3 (by omega)
    have z5 : p3.size ≤ 192 := by rw [hp3, ByteArray.size_append]; omega
    have HNN : Hid (nnT x = if x.notNull = true then p3 else p2) := by unfold Hid nnT; rw [hs1, hs2, hp3, hp2, hp1]; rfl
    have HS1 := Lib.hid hs1
    have HS2 := Lib.hid hs2
    have HR := Lib.hid hr
    clear hr hc hs1 hs2 hp1 hp2 hp3 q1 q2
    go_enter Tryz.func7, Tryz.ntmps7
    go_wp2_with fail
    refine (HC.out _ (HB.out _).2).mono ?_
    rintro e w1 ⟨rfl, b1⟩
    have B1 := Lib.hid ((HB.out 32).call b1)
    clear b1
    rw [HCC.out]
    go_wp2_with fail
    have hst : Hid (∀ p q : World, (((p.cell? ⟨w.heap.size, 0, none⟩ = some (.string x.name) ∧ p.cell? ⟨w.heap.size, 1, none⟩ = some (.int .i64 x.ty.kind) ∧ p.cell? ⟨w.heap.size, 2, none⟩ = some (.int .i64 x.ty.len) ∧ p.cell? ⟨w.heap.size, 3, none⟩ = some (.string x.ty.name)) ∧ Hid (BoxCo w x a0 c0 p)) → Below p.heap.size p q → ((q.cell? ⟨w.heap.size, 0, none⟩ = some (.string x.name) ∧ q.cell? ⟨w.heap.size, 1, none⟩ = some (.int .i64 x.ty.kind) ∧ q.cell? ⟨w.heap.size, 2, none⟩ = some (.int .i64 x.ty.len) ∧ q.cell? ⟨w.heap.size, 3, none⟩ = some (.string x.ty.name)) ∧ Hid (BoxCo w x a0 c0 q)))) := fun p q h hb => by
      have T := h.2.out.call hb
      exact ⟨⟨(T.1.2 0 (by simp)).1, (T.1.2 1 (by simp)).1, (T.1.2 2 (by simp)).1, (T.1.2 3 (by simp)).1⟩, T⟩
    have D1 := Lib.hid (B1.out.call (below_drewE (Below.refl _ _)))
    go_region_held3 (fun w' => (w'.cell? ⟨w.heap.size, 0, none⟩ = some (.string x.name) ∧ w'.cell? ⟨w.heap.size, 1, none⟩ = some (.int .i64 x.ty.kind) ∧ w'.cell? ⟨w.heap.size, 2, none⟩ = some (.int .i64 x.ty.len) ∧ w'.cell? ⟨w.heap.size, 3, none⟩ = some (.string x.ty.name)) ∧ Hid (BoxCo w x a0 c0 w')) (first | assumption | exact ⟨⟨(D1.out.1.2 0 (by simp)).1, (D1.out.1.2 1 (by simp)).1, (D1.out.1.2 2 (by simp)).1, (D1.out.1.2 3 (by simp)).1⟩, D1.out⟩)
      (first
        | (go_at_call 24; refine (specPutName x.name _ HN.out s1 HS1.out).mono ?_; rintro e wq ⟨rfl, bq⟩; have hq := hst.out _ _ (by assumption) bq)
        | (go_at_call 25; refine (specTypeText x.ty.kind x.ty.len x.ty.name _ HTn.out s2 HS2.out).mono ?_; rintro e wz ⟨rfl, bz⟩; have hz := hst.out _ _ (by assumption) bz; have T9 := Lib.hid hz.2.out))
    clear hst bz hz bq hq D1
    have g4 : wz.cell? ⟨w.heap.size, 4, none⟩ = some (.bool x.notNull) := (T9.out.1.2 4 (by simp)).1
    have g5 : wz.cell? ⟨w.heap.size, 5, none⟩ = some (.slice a0 x.dflt.length c0) := (T9.out.1.2 5 (by simp)).1
    have hdd : x.dflt = [] ∨ ∃ e, x.dflt = [e] := by
      match hd : x.dflt, q3 with
      | [], _ => exact .inl rfl
      | [e], _ => exact .inr ⟨e, rfl⟩
      | _ :: _ :: _, h => simp at h
    rcases hdd with hd | ⟨e1, hd⟩
    · have hd0 : x.dflt.length = 0 := by rw [hd]; rfl
      rw [hd0] at g5
      cases hnn : x.notNull with
      | false =>
        have HV : Hid (r = p2) := by unfold Hid; rw [← HR.out, HNN.out, hd, hnn]; rfl
        rw [hnn] at g4
        clear hnn hd hd0
        go_wp2_with fail
        go_ret
        exact ⟨by rw [HV.out] <;> rfl, T9.out.2⟩
      | true =>
        have HV : Hid (r = p3) := by unfold Hid; rw [← HR.out, HNN.out, hd, hnn]; rfl
        rw [hnn] at g4
        clear hnn hd hd0
        go_wp2_with fail
        go_ret
        exact ⟨by rw [HV.out] <;> rfl, T9.out.2⟩
    · have hd0 : x.dflt.length = 1 := by rw [hd]; rfl
      have hk1 := HK.out _ T9.out.2
      obtain ⟨dd, hk1⟩ := hk1
      have hk1 := hk1.sl
      obtain ⟨b, off, vs1, rfl, hbl, hcs, hR1⟩ := hk1.spot (i := 0) (by omega)
      obtain ⟨a1, c1, rfl, hfit1, hkid⟩ := hR1
      rw [hd0] at g5
      have hx0 : x.dflt[0]'(by omega) = e1 := by simp [hd]
      rw [hx0] at hcs hkid
      have hc0 : wz.cell? ⟨b, off, none⟩ = some (.int .i64 e1.kind) := by have := hcs 0 (by simp); simpa using this
      have hc1 : wz.cell? ⟨b, off + 1, none⟩ = some (.string e1.text) := by have := hcs 1 (by simp); simpa using this
      have hc2 : wz.cell? ⟨b, off + 2, none⟩ = some (.int .i64 e1.num) := by have := hcs 2 (by simp); simpa using this
      have hc3 : wz.cell? ⟨b, off + 3, none⟩ = some (.slice a1 e1.kids.length c1) := by have := hcs 3 (by simp); simpa using this
      have HKd := Lib.hid hkid.at
      have hok := q4 e1 (by rw [hd]; simp)
      have HEw := Lib.hid (show e1.wt ≤ 1048576 from Nat.le_trans (wtL_mem (by rw [hd]; simp)) HD.out)
      obtain ⟨s3, hs3⟩ : ∃ s, putT e1 = s := ⟨_, rfl⟩
      have z6 : s3.size ≤ 8400 := by rw [← hs3]; exact putT_small hok
      have HS3 := Lib.hid hs3
      cases hnn : x.notNull with
      | false =>
        obtain ⟨p4, hp4⟩ : ∃ p, p = p2 ++ (ByteArray.mk #[32, 100, 101, 102, 97, 117, 108, 116, 32]) := ⟨_, rfl⟩
        obtain ⟨p5, hp5⟩ : ∃ p, p = p4 ++ s3 := ⟨_, rfl⟩
        have HV : Hid (r = p5) := by unfold Hid; rw [← HR.out, HNN.out, hd, hnn, hp5, hp4, ← hs3]; rfl
        have z7 : p4.size ≤ 192 := by rw [hp4, ByteArray.size_append]; omega
        have ad4 := run_add Tryz.prog p2 _ p4 hp4 (by omega)
        have ad5 := run_add Tryz.prog p4 _ p5 hp5 (by omega)
        rw [hnn] at g4
        clear hnn hp4 hp5 hs3 hok hkid hx0 hcs hk1 hfit1
        have HD1 := Lib.hid hd
        clear hd
        go_wp2_with fail
        refine (specPutExpr e1 a1 c1 dd _ HKd.out HEw.out s3 HS3.out).mono ?_
        rintro e w5 ⟨rfl, b5⟩
        have B5 := Lib.hid (T9.out.call b5)
        clear b5
        go_wp2_with fail
        go_ret
        exact ⟨by rw [HV.out] <;> rfl, B5.out.2⟩
      | true =>
        obtain ⟨p4, hp4⟩ : ∃ p, p = p3 ++ (ByteArray.mk #[32, 100, 101, 102, 97, 117, 108, 116, 32]) := ⟨_, rfl⟩
        obtain ⟨p5, hp5⟩ : ∃ p, p = p4 ++ s3 := ⟨_, rfl⟩
        have HV : Hid (r = p5) := by unfold Hid; rw [← HR.out, HNN.out, hd, hnn, hp5, hp4, ← hs3]; rfl
        have z7 : p4.size ≤ 201 := by rw [hp4, ByteArray.size_append]; omega
        have ad4 := run_add Tryz.prog p3 _ p4 hp4 (by omega)
        have ad5 := run_add Tryz.prog p4 _ p5 hp5 (by omega)
        rw [hnn] at g4
        clear hnn hp4 hp5 hs3 hok hkid hx0 hcs hk1 hfit1
        have HD1 := Lib.hid hd
        clear hd
        go_wp2_with fail
        refine (specPutExpr e1 a1 c1 dd _ HKd.out HEw.out s3 HS3.out).mono ?_
        rintro e w5 ⟨rfl, b5⟩
        have B5 := Lib.hid (T9.out.call b5)
        clear b5
        go_wp2_with fail
        go_ret
        exact ⟨by rw [HV.out] <;> rfl, B5.out.2⟩

end Go.Proofs.YtpdcmmhhgnackaaGreatDoor
