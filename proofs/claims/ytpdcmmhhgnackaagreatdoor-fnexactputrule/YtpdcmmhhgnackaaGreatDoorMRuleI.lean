/- The program's own look at a form of rules. Written by tools/gen_rule.py. -/
/- Rows of the call's own that grow. -/
/- append onto a phrase of the call's own; lists of names between brackets. -/
import Derived.Test.YtpdcmmhhgnackaaGreatDoorMRuleS
import Derived.Test.YtpdcmmhhgnackaaGreatDoorMColI
import Derived.Test.YtpdcmmhhgnackaaGreatDoorMMem
import Derived.Test.YtpdcmmhhgnackaaGreatDoorMOkW
namespace Go.Proofs.YtpdcmmhhgnackaaGreatDoor
open Go.RowKit

theorem implNameUse (s : ByteArray) (u : Bool) (w : World) (v : Bool) (hv : (if u = true then nmB s else s.toList.isEmpty) = v) :
    Calls Tryz.prog 123 #[.string s, .bool u] w fun e w' => e = .returned (.bool v) ∧ w = w' := by
  cases u with
  | true =>
    rw [if_pos rfl] at hv
    have HV := Lib.hid hv
    clear hv
    go_enter Tryz.func123, Tryz.ntmps123
    go_wp2_with fail
    refine (implNameOk s _ v HV.out).mono ?_
    rintro e w1 ⟨rfl, rfl⟩
    go_wp2_with fail
    go_ret
    exact ⟨rfl, rfl⟩
  | false =>
    rw [if_neg (by simp)] at hv
    have HV := Lib.hid hv
    clear hv
    go_enter Tryz.func123, Tryz.ntmps123
    go_wp2_with fail
    go_ret
    exact ⟨by rw [← HV.out] <;> rfl, rfl⟩

/-- Three boxes, one behind the other. -/
def Box3 (w : World) (us vs ts : List Value) (w1 : World) : Prop := Blk w1 w.heap.size us ∧ Blk w1 (w.heap.size + 1) vs ∧ Blk w1 (w.heap.size + 1 + 1) ts ∧ Below w.heap.size w w1

theorem Box3.call {w w1 w2 : World} {us vs ts : List Value} (h : Box3 w us vs ts w1) (hb : Below w1.heap.size w1 w2) : Box3 w us vs ts w2 := ⟨h.1.below hb, h.2.1.below hb, h.2.2.1.below hb, Below.call hb h.2.2.2⟩

theorem Box3.new (w : World) (us vs ts : List Value) (T U V : TypeId) : Box3 w us vs ts (((w.alloc (.cells us.toArray T)).alloc (.cells vs.toArray U)).alloc (.cells ts.toArray V)) :=
  ⟨((blk_new w T us).alloc _).alloc _, (blk_new' (by simp) U vs).alloc _, blk_new' (by simp) V ts, (((Below.refl _ _).alloc (Nat.le_refl _) _).alloc (by simp) _).alloc (by simp; omega) _⟩

set_option maxRecDepth 100000 in
set_option maxHeartbeats 4000000 in
theorem formFits_true (fs : ByteArray) (l0 l1 e0 e1 : Int) (name : ByteArray) (kind : Int) (cols : List ByteArray) (expr : List Ex) (table : ByteArray) (to : List ByteArray) (a0 a1 a2 : Option Addr) (c0 c1 c2 : Nat) (w : World)
    (hJ : FormsAt w) (k0 : Ss 0 w a0 c0 cols) (k1 : Ks 0 w a1 c1 expr) (k2 : Ss 0 w a2 c2 to) (hq : ∀ e ∈ expr, e.wt ≤ 1048576) (v : Bool)
    (hv : (nmB name && (nmB table && ((inI cols.length l0 l1 && cols.all nmB) && ((inI to.length (cols.length : Int) (cols.length : Int) && to.all nmB) && (inI expr.length e0 e1 && expr.all okX))))) = v) :
    Calls Tryz.prog 87 #[.agg #[.string fs, .int .i64 l0, .int .i64 l1, .int .i64 e0, .int .i64 e1, .bool true], .agg #[.string name, .int .i64 kind, .slice a0 cols.length c0, .slice a1 expr.length c1, .string table, .slice a2 to.length c2]] w fun e w' => e = .returned (.bool v) ∧ Below w.heap.size w w' := by
  have Hcols := Lib.hid (fun w' (hb : Below w.heap.size w w') => (k0.kept (Kept.below hb)).sl)
  have Hexpr := Lib.hid (fun w' (hb : Below w.heap.size w w') => And.intro (k1.kept (Kept.below hb)).sl (hJ.call hb))
  have Hto := Lib.hid (fun w' (hb : Below w.heap.size w w') => (k2.kept (Kept.below hb)).sl)
  have lc := k0.1.len
  have HQ := Lib.hid hq
  have HVV := Lib.hid hv
  have HB := Lib.hid (Box3.new w [.string fs, .int .i64 l0, .int .i64 l1, .int .i64 e0, .int .i64 e1, .bool true] [.string name, .int .i64 kind, .slice a0 cols.length c0, .slice a1 expr.length c1, .string table, .slice a2 to.length c2] [.int .i64 (cols.length : Int), .int .i64 (cols.length : Int)] 82 42 80)
  clear k0 k1 k2 hJ hq hv
  go_enter Tryz.func87, Tryz.ntmps87
  go_wp2_with fail
  generalize ((w.alloc (.cells #[.string fs, .int .i64 l0, .int .i64 l1, .int .i64 e0, .int .i64 e1, .bool true] 82)).alloc (.cells #[.string name, .int .i64 kind, .slice a0 cols.length c0, .slice a1 expr.length c1, .string table, .slice a2 to.length c2] 42)).alloc (.cells #[.int .i64 (cols.length : Int), .int .i64 (cols.length : Int)] 80) = W0 at HB ⊢
  have fHB_0 : W0.cell? ⟨w.heap.size, 0, none⟩ = some (.string fs) := (HB.out.1.2 0 (by simp)).1
  have fHB_1 : W0.cell? ⟨w.heap.size, 1, none⟩ = some (.int .i64 l0) := (HB.out.1.2 1 (by simp)).1
  have fHB_2 : W0.cell? ⟨w.heap.size, 2, none⟩ = some (.int .i64 l1) := (HB.out.1.2 2 (by simp)).1
  have fHB_3 : W0.cell? ⟨w.heap.size, 3, none⟩ = some (.int .i64 e0) := (HB.out.1.2 3 (by simp)).1
  have fHB_4 : W0.cell? ⟨w.heap.size, 4, none⟩ = some (.int .i64 e1) := (HB.out.1.2 4 (by simp)).1
  have fHB_5 : W0.cell? ⟨w.heap.size, 5, none⟩ = some (.bool true) := (HB.out.1.2 5 (by simp)).1
  have rHB_0 : W0.cell? ⟨w.heap.size + 1, 0, none⟩ = some (.string name) := (HB.out.2.1.2 0 (by simp)).1
  have rHB_1 : W0.cell? ⟨w.heap.size + 1, 1, none⟩ = some (.int .i64 kind) := (HB.out.2.1.2 1 (by simp)).1
  have rHB_2 : W0.cell? ⟨w.heap.size + 1, 2, none⟩ = some (.slice a0 cols.length c0) := (HB.out.2.1.2 2 (by simp)).1
  have rHB_3 : W0.cell? ⟨w.heap.size + 1, 3, none⟩ = some (.slice a1 expr.length c1) := (HB.out.2.1.2 3 (by simp)).1
  have rHB_4 : W0.cell? ⟨w.heap.size + 1, 4, none⟩ = some (.string table) := (HB.out.2.1.2 4 (by simp)).1
  have rHB_5 : W0.cell? ⟨w.heap.size + 1, 5, none⟩ = some (.slice a2 to.length c2) := (HB.out.2.1.2 5 (by simp)).1
  have tHB_0 : W0.cell? ⟨w.heap.size + 1 + 1, 0, none⟩ = some (.int .i64 (cols.length : Int)) := (HB.out.2.2.1.2 0 (by simp)).1
  have tHB_1 : W0.cell? ⟨w.heap.size + 1 + 1, 1, none⟩ = some (.int .i64 (cols.length : Int)) := (HB.out.2.2.1.2 1 (by simp)).1
  refine (implNameOk name _ _ rfl).mono ?_
  rintro e w0 ⟨rfl, rfl⟩
  cases h0 : nameB name.data.toList with
  | false =>
    have HV : Hid (v = false) := by unfold Hid; rw [← HVV.out]; rw [show nmB name = nameB name.data.toList from rfl, h0] <;> simp only [Bool.false_and, Bool.true_and, Bool.and_false, Bool.and_true]
    clear h0
    go_wp2_with fail
    go_ret
    exact ⟨by rw [HV.out] <;> rfl, HB.out.2.2.2⟩
  | true =>
    go_wp2_with fail
    refine (implNameUse table true _ (nmB table) rfl).mono ?_
    rintro e w1 ⟨rfl, rfl⟩
    cases h1 : nmB table with
    | false =>
      have HV : Hid (v = false) := by unfold Hid; rw [← HVV.out]; rw [show nmB name = nameB name.data.toList from rfl, h0, h1] <;> simp only [Bool.false_and, Bool.true_and, Bool.and_false, Bool.and_true]
      clear h0 h1
      go_wp2_with fail
      go_ret
      exact ⟨by rw [HV.out] <;> rfl, HB.out.2.2.2⟩
    | true =>
      go_wp2_with fail
      refine (fitsN a0 c0 cols l0 l1 _ (Hcols.out _ HB.out.2.2.2) trivial (fun _ _ => trivial) _ rfl).mono ?_
      rintro e w2 ⟨rfl, b2⟩
      have B2 := Lib.hid (HB.out.call b2)
      clear b2 fHB_0 fHB_1 fHB_2 fHB_3 fHB_4 fHB_5 rHB_0 rHB_1 rHB_2 rHB_3 rHB_4 rHB_5 tHB_0 tHB_1
      have fB2_0 : w2.cell? ⟨w.heap.size, 0, none⟩ = some (.string fs) := (B2.out.1.2 0 (by simp)).1
      have fB2_1 : w2.cell? ⟨w.heap.size, 1, none⟩ = some (.int .i64 l0) := (B2.out.1.2 1 (by simp)).1
      have fB2_2 : w2.cell? ⟨w.heap.size, 2, none⟩ = some (.int .i64 l1) := (B2.out.1.2 2 (by simp)).1
      have fB2_3 : w2.cell? ⟨w.heap.size, 3, none⟩ = some (.int .i64 e0) := (B2.out.1.2 3 (by simp)).1
      have fB2_4 : w2.cell? ⟨w.heap.size, 4, none⟩ = some (.int .i64 e1) := (B2.out.1.2 4 (by simp)).1
      have fB2_5 : w2.cell? ⟨w.heap.size, 5, none⟩ = some (.bool true) := (B2.out.1.2 5 (by simp)).1
      have rB2_0 : w2.cell? ⟨w.heap.size + 1, 0, none⟩ = some (.string name) := (B2.out.2.1.2 0 (by simp)).1
      have rB2_1 : w2.cell? ⟨w.heap.size + 1, 1, none⟩ = some (.int .i64 kind) := (B2.out.2.1.2 1 (by simp)).1
      have rB2_2 : w2.cell? ⟨w.heap.size + 1, 2, none⟩ = some (.slice a0 cols.length c0) := (B2.out.2.1.2 2 (by simp)).1
      have rB2_3 : w2.cell? ⟨w.heap.size + 1, 3, none⟩ = some (.slice a1 expr.length c1) := (B2.out.2.1.2 3 (by simp)).1
      have rB2_4 : w2.cell? ⟨w.heap.size + 1, 4, none⟩ = some (.string table) := (B2.out.2.1.2 4 (by simp)).1
      have rB2_5 : w2.cell? ⟨w.heap.size + 1, 5, none⟩ = some (.slice a2 to.length c2) := (B2.out.2.1.2 5 (by simp)).1
      have tB2_0 : w2.cell? ⟨w.heap.size + 1 + 1, 0, none⟩ = some (.int .i64 (cols.length : Int)) := (B2.out.2.2.1.2 0 (by simp)).1
      have tB2_1 : w2.cell? ⟨w.heap.size + 1 + 1, 1, none⟩ = some (.int .i64 (cols.length : Int)) := (B2.out.2.2.1.2 1 (by simp)).1
      cases h2 : (inI cols.length l0 l1 && cols.all nmB) with
      | false =>
        have HV : Hid (v = false) := by unfold Hid; rw [← HVV.out]; rw [show nmB name = nameB name.data.toList from rfl, h0, h1, h2] <;> simp only [Bool.false_and, Bool.true_and, Bool.and_false, Bool.and_true]
        clear h0 h1 h2
        go_wp2_with fail
        go_ret
        exact ⟨by rw [HV.out] <;> rfl, B2.out.2.2.2⟩
      | true =>
        go_wp2_with fail
        refine (fitsN a2 c2 to (cols.length : Int) (cols.length : Int) _ (Hto.out _ B2.out.2.2.2) trivial (fun _ _ => trivial) _ rfl).mono ?_
        rintro e w3 ⟨rfl, b3⟩
        have B3 := Lib.hid (B2.out.call b3)
        clear b3 fB2_0 fB2_1 fB2_2 fB2_3 fB2_4 fB2_5 rB2_0 rB2_1 rB2_2 rB2_3 rB2_4 rB2_5 tB2_0 tB2_1
        have fB3_0 : w3.cell? ⟨w.heap.size, 0, none⟩ = some (.string fs) := (B3.out.1.2 0 (by simp)).1
        have fB3_1 : w3.cell? ⟨w.heap.size, 1, none⟩ = some (.int .i64 l0) := (B3.out.1.2 1 (by simp)).1
        have fB3_2 : w3.cell? ⟨w.heap.size, 2, none⟩ = some (.int .i64 l1) := (B3.out.1.2 2 (by simp)).1
        have fB3_3 : w3.cell? ⟨w.heap.size, 3, none⟩ = some (.int .i64 e0) := (B3.out.1.2 3 (by simp)).1
        have fB3_4 : w3.cell? ⟨w.heap.size, 4, none⟩ = some (.int .i64 e1) := (B3.out.1.2 4 (by simp)).1
        have fB3_5 : w3.cell? ⟨w.heap.size, 5, none⟩ = some (.bool true) := (B3.out.1.2 5 (by simp)).1
        have rB3_0 : w3.cell? ⟨w.heap.size + 1, 0, none⟩ = some (.string name) := (B3.out.2.1.2 0 (by simp)).1
        have rB3_1 : w3.cell? ⟨w.heap.size + 1, 1, none⟩ = some (.int .i64 kind) := (B3.out.2.1.2 1 (by simp)).1
        have rB3_2 : w3.cell? ⟨w.heap.size + 1, 2, none⟩ = some (.slice a0 cols.length c0) := (B3.out.2.1.2 2 (by simp)).1
        have rB3_3 : w3.cell? ⟨w.heap.size + 1, 3, none⟩ = some (.slice a1 expr.length c1) := (B3.out.2.1.2 3 (by simp)).1
        have rB3_4 : w3.cell? ⟨w.heap.size + 1, 4, none⟩ = some (.string table) := (B3.out.2.1.2 4 (by simp)).1
        have rB3_5 : w3.cell? ⟨w.heap.size + 1, 5, none⟩ = some (.slice a2 to.length c2) := (B3.out.2.1.2 5 (by simp)).1
        have tB3_0 : w3.cell? ⟨w.heap.size + 1 + 1, 0, none⟩ = some (.int .i64 (cols.length : Int)) := (B3.out.2.2.1.2 0 (by simp)).1
        have tB3_1 : w3.cell? ⟨w.heap.size + 1 + 1, 1, none⟩ = some (.int .i64 (cols.length : Int)) := (B3.out.2.2.1.2 1 (by simp)).1
        cases h3 : (inI to.length (cols.length : Int) (cols.length : Int) && to.all nmB) with
        | false =>
          have HV : Hid (v = false) := by unfold Hid; rw [← HVV.out]; rw [show nmB name = nameB name.data.toList from rfl, h0, h1, h2, h3] <;> simp only [Bool.false_and, Bool.true_and, Bool.and_false, Bool.and_true]
          clear h0 h1 h2 h3
          go_wp2_with fail
          go_ret
          exact ⟨by rw [HV.out] <;> rfl, B3.out.2.2.2⟩
        | true =>
          go_wp2_with fail
          obtain ⟨dd, hsx⟩ := (Hexpr.out _ B3.out.2.2.2).1
          refine (fitsX dd a1 c1 expr e0 e1 _ hsx (Hexpr.out _ B3.out.2.2.2).2 HQ.out _ rfl).mono ?_
          rintro e w4 ⟨rfl, b4⟩
          have B4 := Lib.hid (B3.out.call b4)
          clear b4 fB3_0 fB3_1 fB3_2 fB3_3 fB3_4 fB3_5 rB3_0 rB3_1 rB3_2 rB3_3 rB3_4 rB3_5 tB3_0 tB3_1
          clear hsx
          have fB4_0 : w4.cell? ⟨w.heap.size, 0, none⟩ = some (.string fs) := (B4.out.1.2 0 (by simp)).1
          have fB4_1 : w4.cell? ⟨w.heap.size, 1, none⟩ = some (.int .i64 l0) := (B4.out.1.2 1 (by simp)).1
          have fB4_2 : w4.cell? ⟨w.heap.size, 2, none⟩ = some (.int .i64 l1) := (B4.out.1.2 2 (by simp)).1
          have fB4_3 : w4.cell? ⟨w.heap.size, 3, none⟩ = some (.int .i64 e0) := (B4.out.1.2 3 (by simp)).1
          have fB4_4 : w4.cell? ⟨w.heap.size, 4, none⟩ = some (.int .i64 e1) := (B4.out.1.2 4 (by simp)).1
          have fB4_5 : w4.cell? ⟨w.heap.size, 5, none⟩ = some (.bool true) := (B4.out.1.2 5 (by simp)).1
          have rB4_0 : w4.cell? ⟨w.heap.size + 1, 0, none⟩ = some (.string name) := (B4.out.2.1.2 0 (by simp)).1
          have rB4_1 : w4.cell? ⟨w.heap.size + 1, 1, none⟩ = some (.int .i64 kind) := (B4.out.2.1.2 1 (by simp)).1
          have rB4_2 : w4.cell? ⟨w.heap.size + 1, 2, none⟩ = some (.slice a0 cols.length c0) := (B4.out.2.1.2 2 (by simp)).1
          have rB4_3 : w4.cell? ⟨w.heap.size + 1, 3, none⟩ = some (.slice a1 expr.length c1) := (B4.out.2.1.2 3 (by simp)).1
          have rB4_4 : w4.cell? ⟨w.heap.size + 1, 4, none⟩ = some (.string table) := (B4.out.2.1.2 4 (by simp)).1
          have rB4_5 : w4.cell? ⟨w.heap.size + 1, 5, none⟩ = some (.slice a2 to.length c2) := (B4.out.2.1.2 5 (by simp)).1
          have tB4_0 : w4.cell? ⟨w.heap.size + 1 + 1, 0, none⟩ = some (.int .i64 (cols.length : Int)) := (B4.out.2.2.1.2 0 (by simp)).1
          have tB4_1 : w4.cell? ⟨w.heap.size + 1 + 1, 1, none⟩ = some (.int .i64 (cols.length : Int)) := (B4.out.2.2.1.2 1 (by simp)).1
          cases h4 : (inI expr.length e0 e1 && expr.all okX) with
          | false =>
            have HV : Hid (v = false) := by unfold Hid; rw [← HVV.out]; rw [show nmB name = nameB name.data.toList from rfl, h0, h1, h2, h3, h4] <;> simp only [Bool.false_and, Bool.true_and, Bool.and_false, Bool.and_true]
            clear h0 h1 h2 h3 h4
            go_wp2_with fail
            go_ret
            exact ⟨by rw [HV.out] <;> rfl, B4.out.2.2.2⟩
          | true =>
            have HV : Hid (v = true) := by unfold Hid; rw [← HVV.out]; rw [show nmB name = nameB name.data.toList from rfl, h0, h1, h2, h3, h4] <;> rfl
            clear h0 h1 h2 h3 h4
            go_wp2_with fail
            go_ret
            exact ⟨by rw [HV.out] <;> rfl, B4.out.2.2.2⟩

set_option maxRecDepth 100000 in
set_option maxHeartbeats 4000000 in
theorem formFits_false (fs : ByteArray) (l0 l1 e0 e1 : Int) (name : ByteArray) (kind : Int) (cols : List ByteArray) (expr : List Ex) (table : ByteArray) (to : List ByteArray) (a0 a1 a2 : Option Addr) (c0 c1 c2 : Nat) (w : World)
    (hJ : FormsAt w) (k0 : Ss 0 w a0 c0 cols) (k1 : Ks 0 w a1 c1 expr) (k2 : Ss 0 w a2 c2 to) (hq : ∀ e ∈ expr, e.wt ≤ 1048576) (v : Bool)
    (hv : (nmB name && (table.toList.isEmpty && ((inI cols.length l0 l1 && cols.all nmB) && ((inI to.length 0 0 && to.all nmB) && (inI expr.length e0 e1 && expr.all okX))))) = v) :
    Calls Tryz.prog 87 #[.agg #[.string fs, .int .i64 l0, .int .i64 l1, .int .i64 e0, .int .i64 e1, .bool false], .agg #[.string name, .int .i64 kind, .slice a0 cols.length c0, .slice a1 expr.length c1, .string table, .slice a2 to.length c2]] w fun e w' => e = .returned (.bool v) ∧ Below w.heap.size w w' := by
  have Hcols := Lib.hid (fun w' (hb : Below w.heap.size w w') => (k0.kept (Kept.below hb)).sl)
  have Hexpr := Lib.hid (fun w' (hb : Below w.heap.size w w') => And.intro (k1.kept (Kept.below hb)).sl (hJ.call hb))
  have Hto := Lib.hid (fun w' (hb : Below w.heap.size w w') => (k2.kept (Kept.below hb)).sl)
  have lc := k0.1.len
  have HQ := Lib.hid hq
  have HVV := Lib.hid hv
  have HB := Lib.hid (Box3.new w [.string fs, .int .i64 l0, .int .i64 l1, .int .i64 e0, .int .i64 e1, .bool false] [.string name, .int .i64 kind, .slice a0 cols.length c0, .slice a1 expr.length c1, .string table, .slice a2 to.length c2] [.int .i64 0, .int .i64 0] 82 42 80)
  clear k0 k1 k2 hJ hq hv
  go_enter Tryz.func87, Tryz.ntmps87
  go_wp2_with fail
  generalize ((w.alloc (.cells #[.string fs, .int .i64 l0, .int .i64 l1, .int .i64 e0, .int .i64 e1, .bool false] 82)).alloc (.cells #[.string name, .int .i64 kind, .slice a0 cols.length c0, .slice a1 expr.length c1, .string table, .slice a2 to.length c2] 42)).alloc (.cells #[.int .i64 0, .int .i64 0] 80) = W0 at HB ⊢
  have fHB_0 : W0.cell? ⟨w.heap.size, 0, none⟩ = some (.string fs) := (HB.out.1.2 0 (by simp)).1
  have fHB_1 : W0.cell? ⟨w.heap.size, 1, none⟩ = some (.int .i64 l0) := (HB.out.1.2 1 (by simp)).1
  have fHB_2 : W0.cell? ⟨w.heap.size, 2, none⟩ = some (.int .i64 l1) := (HB.out.1.2 2 (by simp)).1
  have fHB_3 : W0.cell? ⟨w.heap.size, 3, none⟩ = some (.int .i64 e0) := (HB.out.1.2 3 (by simp)).1
  have fHB_4 : W0.cell? ⟨w.heap.size, 4, none⟩ = some (.int .i64 e1) := (HB.out.1.2 4 (by simp)).1
  have fHB_5 : W0.cell? ⟨w.heap.size, 5, none⟩ = some (.bool false) := (HB.out.1.2 5 (by simp)).1
  have rHB_0 : W0.cell? ⟨w.heap.size + 1, 0, none⟩ = some (.string name) := (HB.out.2.1.2 0 (by simp)).1
  have rHB_1 : W0.cell? ⟨w.heap.size + 1, 1, none⟩ = some (.int .i64 kind) := (HB.out.2.1.2 1 (by simp)).1
  have rHB_2 : W0.cell? ⟨w.heap.size + 1, 2, none⟩ = some (.slice a0 cols.length c0) := (HB.out.2.1.2 2 (by simp)).1
  have rHB_3 : W0.cell? ⟨w.heap.size + 1, 3, none⟩ = some (.slice a1 expr.length c1) := (HB.out.2.1.2 3 (by simp)).1
  have rHB_4 : W0.cell? ⟨w.heap.size + 1, 4, none⟩ = some (.string table) := (HB.out.2.1.2 4 (by simp)).1
  have rHB_5 : W0.cell? ⟨w.heap.size + 1, 5, none⟩ = some (.slice a2 to.length c2) := (HB.out.2.1.2 5 (by simp)).1
  have tHB_0 : W0.cell? ⟨w.heap.size + 1 + 1, 0, none⟩ = some (.int .i64 0) := (HB.out.2.2.1.2 0 (by simp)).1
  have tHB_1 : W0.cell? ⟨w.heap.size + 1 + 1, 1, none⟩ = some (.int .i64 0) := (HB.out.2.2.1.2 1 (by simp)).1
  refine (implNameOk name _ _ rfl).mono ?_
  rintro e w0 ⟨rfl, rfl⟩
  cases h0 : nameB name.data.toList with
  | false =>
    have HV : Hid (v = false) := by unfold Hid; rw [← HVV.out]; rw [show nmB name = nameB name.data.toList from rfl, h0] <;> simp only [Bool.false_and, Bool.true_and, Bool.and_false, Bool.and_true]
    clear h0
    go_wp2_with fail
    go_ret
    exact ⟨by rw [HV.out] <;> rfl, HB.out.2.2.2⟩
  | true =>
    go_wp2_with fail
    refine (implNameUse table false _ (table.toList.isEmpty) rfl).mono ?_
    rintro e w1 ⟨rfl, rfl⟩
    cases h1 : table.toList.isEmpty with
    | false =>
      have HV : Hid (v = false) := by unfold Hid; rw [← HVV.out]; rw [show nmB name = nameB name.data.toList from rfl, h0, h1] <;> simp only [Bool.false_and, Bool.true_and, Bool.and_false, Bool.and_true]
      clear h0 h1
      go_wp2_with fail
      go_ret
      exact ⟨by rw [HV.out] <;> rfl, HB.out.2.2.2⟩
    | true =>
      go_wp2_with fail
      refine (fitsN a0 c0 cols l0 l1 _ (Hcols.out _ HB.out.2.2.2) trivial (fun _ _ => trivial) _ rfl).mono ?_
      rintro e w2 ⟨rfl, b2⟩
      have B2 := Lib.hid (HB.out.call b2)
      clear b2 fHB_0 fHB_1 fHB_2 fHB_3 fHB_4 fHB_5 rHB_0 rHB_1 rHB_2 rHB_3 rHB_4 rHB_5 tHB_0 tHB_1
      have fB2_0 : w2.cell? ⟨w.heap.size, 0, none⟩ = some (.string fs) := (B2.out.1.2 0 (by simp)).1
      have fB2_1 : w2.cell? ⟨w.heap.size, 1, none⟩ = some (.int .i64 l0) := (B2.out.1.2 1 (by simp)).1
      have fB2_2 : w2.cell? ⟨w.heap.size, 2, none⟩ = some (.int .i64 l1) := (B2.out.1.2 2 (by simp)).1
      have fB2_3 : w2.cell? ⟨w.heap.size, 3, none⟩ = some (.int .i64 e0) := (B2.out.1.2 3 (by simp)).1
      have fB2_4 : w2.cell? ⟨w.heap.size, 4, none⟩ = some (.int .i64 e1) := (B2.out.1.2 4 (by simp)).1
      have fB2_5 : w2.cell? ⟨w.heap.size, 5, none⟩ = some (.bool false) := (B2.out.1.2 5 (by simp)).1
      have rB2_0 : w2.cell? ⟨w.heap.size + 1, 0, none⟩ = some (.string name) := (B2.out.2.1.2 0 (by simp)).1
      have rB2_1 : w2.cell? ⟨w.heap.size + 1, 1, none⟩ = some (.int .i64 kind) := (B2.out.2.1.2 1 (by simp)).1
      have rB2_2 : w2.cell? ⟨w.heap.size + 1, 2, none⟩ = some (.slice a0 cols.length c0) := (B2.out.2.1.2 2 (by simp)).1
      have rB2_3 : w2.cell? ⟨w.heap.size + 1, 3, none⟩ = some (.slice a1 expr.length c1) := (B2.out.2.1.2 3 (by simp)).1
      have rB2_4 : w2.cell? ⟨w.heap.size + 1, 4, none⟩ = some (.string table) := (B2.out.2.1.2 4 (by simp)).1
      have rB2_5 : w2.cell? ⟨w.heap.size + 1, 5, none⟩ = some (.slice a2 to.length c2) := (B2.out.2.1.2 5 (by simp)).1
      have tB2_0 : w2.cell? ⟨w.heap.size + 1 + 1, 0, none⟩ = some (.int .i64 0) := (B2.out.2.2.1.2 0 (by simp)).1
      have tB2_1 : w2.cell? ⟨w.heap.size + 1 + 1, 1, none⟩ = some (.int .i64 0) := (B2.out.2.2.1.2 1 (by simp)).1
      cases h2 : (inI cols.length l0 l1 && cols.all nmB) with
      | false =>
        have HV : Hid (v = false) := by unfold Hid; rw [← HVV.out]; rw [show nmB name = nameB name.data.toList from rfl, h0, h1, h2] <;> simp only [Bool.false_and, Bool.true_and, Bool.and_false, Bool.and_true]
        clear h0 h1 h2
        go_wp2_with fail
        go_ret
        exact ⟨by rw [HV.out] <;> rfl, B2.out.2.2.2⟩
      | true =>
        go_wp2_with fail
        refine (fitsN a2 c2 to 0 0 _ (Hto.out _ B2.out.2.2.2) trivial (fun _ _ => trivial) _ rfl).mono ?_
        rintro e w3 ⟨rfl, b3⟩
        have B3 := Lib.hid (B2.out.call b3)
        clear b3 fB2_0 fB2_1 fB2_2 fB2_3 fB2_4 fB2_5 rB2_0 rB2_1 rB2_2 rB2_3 rB2_4 rB2_5 tB2_0 tB2_1
        have fB3_0 : w3.cell? ⟨w.heap.size, 0, none⟩ = some (.string fs) := (B3.out.1.2 0 (by simp)).1
        have fB3_1 : w3.cell? ⟨w.heap.size, 1, none⟩ = some (.int .i64 l0) := (B3.out.1.2 1 (by simp)).1
        have fB3_2 : w3.cell? ⟨w.heap.size, 2, none⟩ = some (.int .i64 l1) := (B3.out.1.2 2 (by simp)).1
        have fB3_3 : w3.cell? ⟨w.heap.size, 3, none⟩ = some (.int .i64 e0) := (B3.out.1.2 3 (by simp)).1
        have fB3_4 : w3.cell? ⟨w.heap.size, 4, none⟩ = some (.int .i64 e1) := (B3.out.1.2 4 (by simp)).1
        have fB3_5 : w3.cell? ⟨w.heap.size, 5, none⟩ = some (.bool false) := (B3.out.1.2 5 (by simp)).1
        have rB3_0 : w3.cell? ⟨w.heap.size + 1, 0, none⟩ = some (.string name) := (B3.out.2.1.2 0 (by simp)).1
        have rB3_1 : w3.cell? ⟨w.heap.size + 1, 1, none⟩ = some (.int .i64 kind) := (B3.out.2.1.2 1 (by simp)).1
        have rB3_2 : w3.cell? ⟨w.heap.size + 1, 2, none⟩ = some (.slice a0 cols.length c0) := (B3.out.2.1.2 2 (by simp)).1
        have rB3_3 : w3.cell? ⟨w.heap.size + 1, 3, none⟩ = some (.slice a1 expr.length c1) := (B3.out.2.1.2 3 (by simp)).1
        have rB3_4 : w3.cell? ⟨w.heap.size + 1, 4, none⟩ = some (.string table) := (B3.out.2.1.2 4 (by simp)).1
        have rB3_5 : w3.cell? ⟨w.heap.size + 1, 5, none⟩ = some (.slice a2 to.length c2) := (B3.out.2.1.2 5 (by simp)).1
        have tB3_0 : w3.cell? ⟨w.heap.size + 1 + 1, 0, none⟩ = some (.int .i64 0) := (B3.out.2.2.1.2 0 (by simp)).1
        have tB3_1 : w3.cell? ⟨w.heap.size + 1 + 1, 1, none⟩ = some (.int .i64 0) := (B3.out.2.2.1.2 1 (by simp)).1
        cases h3 : (inI to.length 0 0 && to.all nmB) with
        | false =>
          have HV : Hid (v = false) := by unfold Hid; rw [← HVV.out]; rw [show nmB name = nameB name.data.toList from rfl, h0, h1, h2, h3] <;> simp only [Bool.false_and, Bool.true_and, Bool.and_false, Bool.and_true]
          clear h0 h1 h2 h3
          go_wp2_with fail
          go_ret
          exact ⟨by rw [HV.out] <;> rfl, B3.out.2.2.2⟩
        | true =>
          go_wp2_with fail
          obtain ⟨dd, hsx⟩ := (Hexpr.out _ B3.out.2.2.2).1
          refine (fitsX dd a1 c1 expr e0 e1 _ hsx (Hexpr.out _ B3.out.2.2.2).2 HQ.out _ rfl).mono ?_
          rintro e w4 ⟨rfl, b4⟩
          have B4 := Lib.hid (B3.out.call b4)
          clear b4 fB3_0 fB3_1 fB3_2 fB3_3 fB3_4 fB3_5 rB3_0 rB3_1 rB3_2 rB3_3 rB3_4 rB3_5 tB3_0 tB3_1
          clear hsx
          have fB4_0 : w4.cell? ⟨w.heap.size, 0, none⟩ = some (.string fs) := (B4.out.1.2 0 (by simp)).1
          have fB4_1 : w4.cell? ⟨w.heap.size, 1, none⟩ = some (.int .i64 l0) := (B4.out.1.2 1 (by simp)).1
          have fB4_2 : w4.cell? ⟨w.heap.size, 2, none⟩ = some (.int .i64 l1) := (B4.out.1.2 2 (by simp)).1
          have fB4_3 : w4.cell? ⟨w.heap.size, 3, none⟩ = some (.int .i64 e0) := (B4.out.1.2 3 (by simp)).1
          have fB4_4 : w4.cell? ⟨w.heap.size, 4, none⟩ = some (.int .i64 e1) := (B4.out.1.2 4 (by simp)).1
          have fB4_5 : w4.cell? ⟨w.heap.size, 5, none⟩ = some (.bool false) := (B4.out.1.2 5 (by simp)).1
          have rB4_0 : w4.cell? ⟨w.heap.size + 1, 0, none⟩ = some (.string name) := (B4.out.2.1.2 0 (by simp)).1
          have rB4_1 : w4.cell? ⟨w.heap.size + 1, 1, none⟩ = some (.int .i64 kind) := (B4.out.2.1.2 1 (by simp)).1
          have rB4_2 : w4.cell? ⟨w.heap.size + 1, 2, none⟩ = some (.slice a0 cols.length c0) := (B4.out.2.1.2 2 (by simp)).1
          have rB4_3 : w4.cell? ⟨w.heap.size + 1, 3, none⟩ = some (.slice a1 expr.length c1) := (B4.out.2.1.2 3 (by simp)).1
          have rB4_4 : w4.cell? ⟨w.heap.size + 1, 4, none⟩ = some (.string table) := (B4.out.2.1.2 4 (by simp)).1
          have rB4_5 : w4.cell? ⟨w.heap.size + 1, 5, none⟩ = some (.slice a2 to.length c2) := (B4.out.2.1.2 5 (by simp)).1
          have tB4_0 : w4.cell? ⟨w.heap.size + 1 + 1, 0, none⟩ = some (.int .i64 0) := (B4.out.2.2.1.2 0 (by simp)).1
          have tB4_1 : w4.cell? ⟨w.heap.size + 1 + 1, 1, none⟩ = some (.int .i64 0) := (B4.out.2.2.1.2 1 (by simp)).1
          cases h4 : (inI expr.length e0 e1 && expr.all okX) with
          | false =>
            have HV : Hid (v = false) := by unfold Hid; rw [← HVV.out]; rw [show nmB name = nameB name.data.toList from rfl, h0, h1, h2, h3, h4] <;> simp only [Bool.false_and, Bool.true_and, Bool.and_false, Bool.and_true]
            clear h0 h1 h2 h3 h4
            go_wp2_with fail
            go_ret
            exact ⟨by rw [HV.out] <;> rfl, B4.out.2.2.2⟩
          | true =>
            have HV : Hid (v = true) := by unfold Hid; rw [← HVV.out]; rw [show nmB name = nameB name.data.toList from rfl, h0, h1, h2, h3, h4] <;> rfl
            clear h0 h1 h2 h3 h4
            go_wp2_with fail
            go_ret
            exact ⟨by rw [HV.out] <;> rfl, B4.out.2.2.2⟩

theorem in01 {X : Type} (l : List X) : inI l.length 0 0 = l.isEmpty := by
  unfold inI
  cases l with
  | nil => rfl
  | cons x r => simp

theorem len0 {X : Type} (l : List X) : (((l.length : Nat) : Int) == 0) = l.isEmpty := (l0_empty l).symm

theorem isEmpty_all {X : Type} (f : X → Bool) (l : List X) : (l.isEmpty && l.all f) = l.isEmpty := by
  cases l <;> simp

theorem in_same (n m : Nat) : inI (n : Int) (m : Int) (m : Int) = (n == m) := by
  unfold inI
  rw [Bool.eq_iff_iff]
  simp
  omega

set_option maxRecDepth 100000 in
set_option maxHeartbeats 4000000 in
theorem implRuleFits (vs : List Value) (x : Ru) (w : World) (hJ : FormR w) (hR : RRu 0 w vs x) (hwt : x.wt ≤ 1048576) (v : Bool) (hv : ruleB x = v) :
    Calls Tryz.prog 41 #[.agg vs.toArray] w fun e w' => e = .returned (.bool v) ∧ Below w.heap.size w w' := by
  obtain ⟨name, kind, cols, expr, table, to⟩ := x
  obtain ⟨a0, c0, a1, c1, a2, c2, rfl, hfit, k0, k1, k2⟩ := hR
  simp only at k0 k1 k2
  have HK := Lib.hid (fun w' (hb : Below w.heap.size w w') => (show Ss 0 w' a0 c0 cols ∧ Ks 0 w' a1 c1 expr ∧ Ss 0 w' a2 c2 to from ⟨k0.kept (Kept.below hb), k1.kept (Kept.below hb), k2.kept (Kept.below hb)⟩))
  have HJ := Lib.hid (fun w' (hb : Below w.heap.size w w') => hJ.call hb)
  have HB := Lib.hid (fun T => boxV_new w [.string name, .int .i64 kind, .slice a0 cols.length c0, .slice a1 expr.length c1, .string table, .slice a2 to.length c2] T)
  have hW : (Ru.mk name kind cols expr table to).wt = name.size + (cols.length + lets cols) + (expr.length + wtL expr) + table.size + (to.length + lets to) := rfl
  have HQ := Lib.hid (fun (e : Ex) (hm : e ∈ expr) => (show e.wt ≤ 1048576 by have := wtL_mem hm; omega))
  have hlr : 0 < w.heap.size := hJ.rules.1
  have lc := k0.1.len
  have le := k1.len
  have lt := k2.1.len
  simp only
  clear k0 k1 k2 hW hJ
  by_cases hin : 0 ≤ kind ∧ kind ≤ 3
  · have hc : kind = 0 ∨ kind = 1 ∨ kind = 2 ∨ kind = 3 := by omega
    clear hin
    rcases hc with rfl | rfl | rfl | rfl
    · have HV : Hid ((nmB name && (table.toList.isEmpty && ((inI cols.length 1 4 && cols.all nmB) && ((inI to.length 0 0 && to.all nmB) && (inI expr.length 0 0 && expr.all okX))))) = v) := by
        unfold Hid
        rw [← hv, ruleB_key name 0 cols expr table to (.inl rfl)]
        rw [in01 to, isEmpty_all, in01 expr, isEmpty_all, len0 expr, len0 to]
        unfold namesB
        cases nmB name <;> cases table.toList.isEmpty <;> cases (inI cols.length 1 4 && cols.all nmB) <;> cases to.isEmpty <;> cases expr.isEmpty <;> rfl
      clear hv
      have X0 := Lib.hid (HB.out 42)
      have X1 := Lib.hid ((HB.out 42).call (below_drewE (Below.refl _ _)))
      have R1 := Lib.hid (fun (w' : World) (hb : Below w.heap.size w w') => (HJ.out w' hb).rules.2 0 (by omega))
      go_enter Tryz.func41, Tryz.ntmps41
      go_wp2_with fail
      go_region_held3 (fun w' => w'.cell? ⟨w.heap.size, 0, none⟩ = some (.string name) ∧ w'.cell? ⟨w.heap.size, 1, none⟩ = some (.int .i64 0) ∧ w'.cell? ⟨w.heap.size, 2, none⟩ = some (.slice a0 cols.length c0) ∧ w'.cell? ⟨w.heap.size, 3, none⟩ = some (.slice a1 expr.length c1) ∧ w'.cell? ⟨w.heap.size, 4, none⟩ = some (.string table) ∧ w'.cell? ⟨w.heap.size, 5, none⟩ = some (.slice a2 to.length c2) ∧ w'.cell? ⟨0, 0, none⟩ = some (.string (ByteArray.mk #[112, 114, 105, 109, 97, 114, 121, 32, 107, 101, 121])) ∧ w'.cell? ⟨0, 1, none⟩ = some (.int .i64 1) ∧ w'.cell? ⟨0, 2, none⟩ = some (.int .i64 4) ∧ w'.cell? ⟨0, 3, none⟩ = some (.int .i64 0) ∧ w'.cell? ⟨0, 4, none⟩ = some (.int .i64 0) ∧ w'.cell? ⟨0, 5, none⟩ = some (.bool false)) (first | assumption | exact ⟨(X1.out.1.2 0 (by simp)).1, (X1.out.1.2 1 (by simp)).1, (X1.out.1.2 2 (by simp)).1, (X1.out.1.2 3 (by simp)).1, (X1.out.1.2 4 (by simp)).1, (X1.out.1.2 5 (by simp)).1, (R1.out _ X1.out.2) 0 (by decide), (R1.out _ X1.out.2) 1 (by decide), (R1.out _ X1.out.2) 2 (by decide), (R1.out _ X1.out.2) 3 (by decide), (R1.out _ X1.out.2) 4 (by decide), (R1.out _ X1.out.2) 5 (by decide)⟩ | exact ⟨(X0.out.1.2 0 (by simp)).1, (X0.out.1.2 1 (by simp)).1, (X0.out.1.2 2 (by simp)).1, (X0.out.1.2 3 (by simp)).1, (X0.out.1.2 4 (by simp)).1, (X0.out.1.2 5 (by simp)).1, (R1.out _ X0.out.2) 0 (by decide), (R1.out _ X0.out.2) 1 (by decide), (R1.out _ X0.out.2) 2 (by decide), (R1.out _ X0.out.2) 3 (by decide), (R1.out _ X0.out.2) 4 (by decide), (R1.out _ X0.out.2) 5 (by decide)⟩)
        ((go_at_call 87; refine (formFits_false (ByteArray.mk #[112, 114, 105, 109, 97, 114, 121, 32, 107, 101, 121]) 1 4 0 0 name 0 cols expr table to a0 a1 a2 c0 c1 c2 _ (HJ.out _ X1.out.2).forms (HK.out _ X1.out.2).1 (HK.out _ X1.out.2).2.1 (HK.out _ X1.out.2).2.2 HQ.out v HV.out).mono ?_; rintro e w2 ⟨rfl, b2⟩; have B2 := Lib.hid (X1.out.call b2); have R2 := Lib.hid (R1.out _ B2.out.2); have hk2 : w2.cell? ⟨w.heap.size, 0, none⟩ = some (.string name) ∧ w2.cell? ⟨w.heap.size, 1, none⟩ = some (.int .i64 0) ∧ w2.cell? ⟨w.heap.size, 2, none⟩ = some (.slice a0 cols.length c0) ∧ w2.cell? ⟨w.heap.size, 3, none⟩ = some (.slice a1 expr.length c1) ∧ w2.cell? ⟨w.heap.size, 4, none⟩ = some (.string table) ∧ w2.cell? ⟨w.heap.size, 5, none⟩ = some (.slice a2 to.length c2) ∧ w2.cell? ⟨0, 0, none⟩ = some (.string (ByteArray.mk #[112, 114, 105, 109, 97, 114, 121, 32, 107, 101, 121])) ∧ w2.cell? ⟨0, 1, none⟩ = some (.int .i64 1) ∧ w2.cell? ⟨0, 2, none⟩ = some (.int .i64 4) ∧ w2.cell? ⟨0, 3, none⟩ = some (.int .i64 0) ∧ w2.cell? ⟨0, 4, none⟩ = some (.int .i64 0) ∧ w2.cell? ⟨0, 5, none⟩ = some (.bool false) := ⟨(B2.out.1.2 0 (by simp)).1, (B2.out.1.2 1 (by simp)).1, (B2.out.1.2 2 (by simp)).1, (B2.out.1.2 3 (by simp)).1, (B2.out.1.2 4 (by simp)).1, (B2.out.1.2 5 (by simp)).1, (R2.out) 0 (by decide), (R2.out) 1 (by decide), (R2.out) 2 (by decide), (R2.out) 3 (by decide), (R2.out) 4 (by decide), (R2.out) 5 (by decide)⟩))
      go_wp2_with fail
      go_ret
      exact ⟨rfl, B2.out.2⟩
    · have HV : Hid ((nmB name && (table.toList.isEmpty && ((inI cols.length 1 4 && cols.all nmB) && ((inI to.length 0 0 && to.all nmB) && (inI expr.length 0 0 && expr.all okX))))) = v) := by
        unfold Hid
        rw [← hv, ruleB_key name 1 cols expr table to (.inr rfl)]
        rw [in01 to, isEmpty_all, in01 expr, isEmpty_all, len0 expr, len0 to]
        unfold namesB
        cases nmB name <;> cases table.toList.isEmpty <;> cases (inI cols.length 1 4 && cols.all nmB) <;> cases to.isEmpty <;> cases expr.isEmpty <;> rfl
      clear hv
      have X0 := Lib.hid (HB.out 42)
      have X1 := Lib.hid ((HB.out 42).call (below_drewE (Below.refl _ _)))
      have R1 := Lib.hid (fun (w' : World) (hb : Below w.heap.size w w') => (HJ.out w' hb).rules.2 1 (by omega))
      go_enter Tryz.func41, Tryz.ntmps41
      go_wp2_with fail
      go_region_held3 (fun w' => w'.cell? ⟨w.heap.size, 0, none⟩ = some (.string name) ∧ w'.cell? ⟨w.heap.size, 1, none⟩ = some (.int .i64 1) ∧ w'.cell? ⟨w.heap.size, 2, none⟩ = some (.slice a0 cols.length c0) ∧ w'.cell? ⟨w.heap.size, 3, none⟩ = some (.slice a1 expr.length c1) ∧ w'.cell? ⟨w.heap.size, 4, none⟩ = some (.string table) ∧ w'.cell? ⟨w.heap.size, 5, none⟩ = some (.slice a2 to.length c2) ∧ w'.cell? ⟨0, 6, none⟩ = some (.string (ByteArray.mk #[117, 110, 105, 113, 117, 101])) ∧ w'.cell? ⟨0, 7, none⟩ = some (.int .i64 1) ∧ w'.cell? ⟨0, 8, none⟩ = some (.int .i64 4) ∧ w'.cell? ⟨0, 9, none⟩ = some (.int .i64 0) ∧ w'.cell? ⟨0, 10, none⟩ = some (.int .i64 0) ∧ w'.cell? ⟨0, 11, none⟩ = some (.bool false)) (first | assumption | exact ⟨(X1.out.1.2 0 (by simp)).1, (X1.out.1.2 1 (by simp)).1, (X1.out.1.2 2 (by simp)).1, (X1.out.1.2 3 (by simp)).1, (X1.out.1.2 4 (by simp)).1, (X1.out.1.2 5 (by simp)).1, (R1.out _ X1.out.2) 0 (by decide), (R1.out _ X1.out.2) 1 (by decide), (R1.out _ X1.out.2) 2 (by decide), (R1.out _ X1.out.2) 3 (by decide), (R1.out _ X1.out.2) 4 (by decide), (R1.out _ X1.out.2) 5 (by decide)⟩ | exact ⟨(X0.out.1.2 0 (by simp)).1, (X0.out.1.2 1 (by simp)).1, (X0.out.1.2 2 (by simp)).1, (X0.out.1.2 3 (by simp)).1, (X0.out.1.2 4 (by simp)).1, (X0.out.1.2 5 (by simp)).1, (R1.out _ X0.out.2) 0 (by decide), (R1.out _ X0.out.2) 1 (by decide), (R1.out _ X0.out.2) 2 (by decide), (R1.out _ X0.out.2) 3 (by decide), (R1.out _ X0.out.2) 4 (by decide), (R1.out _ X0.out.2) 5 (by decide)⟩)
        ((go_at_call 87; refine (formFits_false (ByteArray.mk #[117, 110, 105, 113, 117, 101]) 1 4 0 0 name 1 cols expr table to a0 a1 a2 c0 c1 c2 _ (HJ.out _ X1.out.2).forms (HK.out _ X1.out.2).1 (HK.out _ X1.out.2).2.1 (HK.out _ X1.out.2).2.2 HQ.out v HV.out).mono ?_; rintro e w2 ⟨rfl, b2⟩; have B2 := Lib.hid (X1.out.call b2); have R2 := Lib.hid (R1.out _ B2.out.2); have hk2 : w2.cell? ⟨w.heap.size, 0, none⟩ = some (.string name) ∧ w2.cell? ⟨w.heap.size, 1, none⟩ = some (.int .i64 1) ∧ w2.cell? ⟨w.heap.size, 2, none⟩ = some (.slice a0 cols.length c0) ∧ w2.cell? ⟨w.heap.size, 3, none⟩ = some (.slice a1 expr.length c1) ∧ w2.cell? ⟨w.heap.size, 4, none⟩ = some (.string table) ∧ w2.cell? ⟨w.heap.size, 5, none⟩ = some (.slice a2 to.length c2) ∧ w2.cell? ⟨0, 6, none⟩ = some (.string (ByteArray.mk #[117, 110, 105, 113, 117, 101])) ∧ w2.cell? ⟨0, 7, none⟩ = some (.int .i64 1) ∧ w2.cell? ⟨0, 8, none⟩ = some (.int .i64 4) ∧ w2.cell? ⟨0, 9, none⟩ = some (.int .i64 0) ∧ w2.cell? ⟨0, 10, none⟩ = some (.int .i64 0) ∧ w2.cell? ⟨0, 11, none⟩ = some (.bool false) := ⟨(B2.out.1.2 0 (by simp)).1, (B2.out.1.2 1 (by simp)).1, (B2.out.1.2 2 (by simp)).1, (B2.out.1.2 3 (by simp)).1, (B2.out.1.2 4 (by simp)).1, (B2.out.1.2 5 (by simp)).1, (R2.out) 0 (by decide), (R2.out) 1 (by decide), (R2.out) 2 (by decide), (R2.out) 3 (by decide), (R2.out) 4 (by decide), (R2.out) 5 (by decide)⟩))
      go_wp2_with fail
      go_ret
      exact ⟨rfl, B2.out.2⟩
    · have HV : Hid ((nmB name && (table.toList.isEmpty && ((inI cols.length 0 0 && cols.all nmB) && ((inI to.length 0 0 && to.all nmB) && (inI expr.length 1 1 && expr.all okX))))) = v) := by
        unfold Hid
        rw [← hv, ruleB_check name cols expr table to]
        rw [in01 to, isEmpty_all, in01 cols, isEmpty_all, len0 cols, len0 to]
        unfold exprsB
        cases nmB name <;> cases table.toList.isEmpty <;> cases (inI expr.length 1 1 && expr.all okX) <;> cases to.isEmpty <;> cases cols.isEmpty <;> rfl
      clear hv
      have X0 := Lib.hid (HB.out 42)
      have X1 := Lib.hid ((HB.out 42).call (below_drewE (Below.refl _ _)))
      have R1 := Lib.hid (fun (w' : World) (hb : Below w.heap.size w w') => (HJ.out w' hb).rules.2 2 (by omega))
      go_enter Tryz.func41, Tryz.ntmps41
      go_wp2_with fail
      go_region_held3 (fun w' => w'.cell? ⟨w.heap.size, 0, none⟩ = some (.string name) ∧ w'.cell? ⟨w.heap.size, 1, none⟩ = some (.int .i64 2) ∧ w'.cell? ⟨w.heap.size, 2, none⟩ = some (.slice a0 cols.length c0) ∧ w'.cell? ⟨w.heap.size, 3, none⟩ = some (.slice a1 expr.length c1) ∧ w'.cell? ⟨w.heap.size, 4, none⟩ = some (.string table) ∧ w'.cell? ⟨w.heap.size, 5, none⟩ = some (.slice a2 to.length c2) ∧ w'.cell? ⟨0, 12, none⟩ = some (.string (ByteArray.mk #[99, 104, 101, 99, 107])) ∧ w'.cell? ⟨0, 13, none⟩ = some (.int .i64 0) ∧ w'.cell? ⟨0, 14, none⟩ = some (.int .i64 0) ∧ w'.cell? ⟨0, 15, none⟩ = some (.int .i64 1) ∧ w'.cell? ⟨0, 16, none⟩ = some (.int .i64 1) ∧ w'.cell? ⟨0, 17, none⟩ = some (.bool false)) (first | assumption | exact ⟨(X1.out.1.2 0 (by simp)).1, (X1.out.1.2 1 (by simp)).1, (X1.out.1.2 2 (by simp)).1, (X1.out.1.2 3 (by simp)).1, (X1.out.1.2 4 (by simp)).1, (X1.out.1.2 5 (by simp)).1, (R1.out _ X1.out.2) 0 (by decide), (R1.out _ X1.out.2) 1 (by decide), (R1.out _ X1.out.2) 2 (by decide), (R1.out _ X1.out.2) 3 (by decide), (R1.out _ X1.out.2) 4 (by decide), (R1.out _ X1.out.2) 5 (by decide)⟩ | exact ⟨(X0.out.1.2 0 (by simp)).1, (X0.out.1.2 1 (by simp)).1, (X0.out.1.2 2 (by simp)).1, (X0.out.1.2 3 (by simp)).1, (X0.out.1.2 4 (by simp)).1, (X0.out.1.2 5 (by simp)).1, (R1.out _ X0.out.2) 0 (by decide), (R1.out _ X0.out.2) 1 (by decide), (R1.out _ X0.out.2) 2 (by decide), (R1.out _ X0.out.2) 3 (by decide), (R1.out _ X0.out.2) 4 (by decide), (R1.out _ X0.out.2) 5 (by decide)⟩)
        ((go_at_call 87; refine (formFits_false (ByteArray.mk #[99, 104, 101, 99, 107]) 0 0 1 1 name 2 cols expr table to a0 a1 a2 c0 c1 c2 _ (HJ.out _ X1.out.2).forms (HK.out _ X1.out.2).1 (HK.out _ X1.out.2).2.1 (HK.out _ X1.out.2).2.2 HQ.out v HV.out).mono ?_; rintro e w2 ⟨rfl, b2⟩; have B2 := Lib.hid (X1.out.call b2); have R2 := Lib.hid (R1.out _ B2.out.2); have hk2 : w2.cell? ⟨w.heap.size, 0, none⟩ = some (.string name) ∧ w2.cell? ⟨w.heap.size, 1, none⟩ = some (.int .i64 2) ∧ w2.cell? ⟨w.heap.size, 2, none⟩ = some (.slice a0 cols.length c0) ∧ w2.cell? ⟨w.heap.size, 3, none⟩ = some (.slice a1 expr.length c1) ∧ w2.cell? ⟨w.heap.size, 4, none⟩ = some (.string table) ∧ w2.cell? ⟨w.heap.size, 5, none⟩ = some (.slice a2 to.length c2) ∧ w2.cell? ⟨0, 12, none⟩ = some (.string (ByteArray.mk #[99, 104, 101, 99, 107])) ∧ w2.cell? ⟨0, 13, none⟩ = some (.int .i64 0) ∧ w2.cell? ⟨0, 14, none⟩ = some (.int .i64 0) ∧ w2.cell? ⟨0, 15, none⟩ = some (.int .i64 1) ∧ w2.cell? ⟨0, 16, none⟩ = some (.int .i64 1) ∧ w2.cell? ⟨0, 17, none⟩ = some (.bool false) := ⟨(B2.out.1.2 0 (by simp)).1, (B2.out.1.2 1 (by simp)).1, (B2.out.1.2 2 (by simp)).1, (B2.out.1.2 3 (by simp)).1, (B2.out.1.2 4 (by simp)).1, (B2.out.1.2 5 (by simp)).1, (R2.out) 0 (by decide), (R2.out) 1 (by decide), (R2.out) 2 (by decide), (R2.out) 3 (by decide), (R2.out) 4 (by decide), (R2.out) 5 (by decide)⟩))
      go_wp2_with fail
      go_ret
      exact ⟨rfl, B2.out.2⟩
    · have HV : Hid ((nmB name && (nmB table && ((inI cols.length 1 4 && cols.all nmB) && ((inI to.length (cols.length : Int) (cols.length : Int) && to.all nmB) && (inI expr.length 0 0 && expr.all okX))))) = v) := by
        unfold Hid
        rw [← hv, ruleB_ref name cols expr table to]
        have e : (((to.length : Nat) : Int) == ((cols.length : Nat) : Int)) = (to.length == cols.length) := by
          rw [Bool.eq_iff_iff, beq_iff_eq, beq_iff_eq]
          omega
        rw [in_same, in01 expr, isEmpty_all, len0 expr, e]
        unfold namesB
        cases hle : (to.length == cols.length) with
        | false => cases nmB name <;> cases nmB table <;> cases (inI cols.length 1 4 && cols.all nmB) <;> cases (inI to.length 1 4 && to.all nmB) <;> cases expr.isEmpty <;> rfl
        | true =>
          have hlen : to.length = cols.length := by simpa using hle
          rw [hlen]
          cases nmB name <;> cases nmB table <;> cases inI cols.length 1 4 <;> cases cols.all nmB <;> cases to.all nmB <;> cases expr.isEmpty <;> rfl
      clear hv
      have X0 := Lib.hid (HB.out 42)
      have X1 := Lib.hid ((HB.out 42).call (below_drewE (Below.refl _ _)))
      have R1 := Lib.hid (fun (w' : World) (hb : Below w.heap.size w w') => (HJ.out w' hb).rules.2 3 (by omega))
      go_enter Tryz.func41, Tryz.ntmps41
      go_wp2_with fail
      go_region_held3 (fun w' => w'.cell? ⟨w.heap.size, 0, none⟩ = some (.string name) ∧ w'.cell? ⟨w.heap.size, 1, none⟩ = some (.int .i64 3) ∧ w'.cell? ⟨w.heap.size, 2, none⟩ = some (.slice a0 cols.length c0) ∧ w'.cell? ⟨w.heap.size, 3, none⟩ = some (.slice a1 expr.length c1) ∧ w'.cell? ⟨w.heap.size, 4, none⟩ = some (.string table) ∧ w'.cell? ⟨w.heap.size, 5, none⟩ = some (.slice a2 to.length c2) ∧ w'.cell? ⟨0, 18, none⟩ = some (.string (ByteArray.mk #[102, 111, 114, 101, 105, 103, 110, 32, 107, 101, 121])) ∧ w'.cell? ⟨0, 19, none⟩ = some (.int .i64 1) ∧ w'.cell? ⟨0, 20, none⟩ = some (.int .i64 4) ∧ w'.cell? ⟨0, 21, none⟩ = some (.int .i64 0) ∧ w'.cell? ⟨0, 22, none⟩ = some (.int .i64 0) ∧ w'.cell? ⟨0, 23, none⟩ = some (.bool true)) (first | assumption | exact ⟨(X1.out.1.2 0 (by simp)).1, (X1.out.1.2 1 (by simp)).1, (X1.out.1.2 2 (by simp)).1, (X1.out.1.2 3 (by simp)).1, (X1.out.1.2 4 (by simp)).1, (X1.out.1.2 5 (by simp)).1, (R1.out _ X1.out.2) 0 (by decide), (R1.out _ X1.out.2) 1 (by decide), (R1.out _ X1.out.2) 2 (by decide), (R1.out _ X1.out.2) 3 (by decide), (R1.out _ X1.out.2) 4 (by decide), (R1.out _ X1.out.2) 5 (by decide)⟩ | exact ⟨(X0.out.1.2 0 (by simp)).1, (X0.out.1.2 1 (by simp)).1, (X0.out.1.2 2 (by simp)).1, (X0.out.1.2 3 (by simp)).1, (X0.out.1.2 4 (by simp)).1, (X0.out.1.2 5 (by simp)).1, (R1.out _ X0.out.2) 0 (by decide), (R1.out _ X0.out.2) 1 (by decide), (R1.out _ X0.out.2) 2 (by decide), (R1.out _ X0.out.2) 3 (by decide), (R1.out _ X0.out.2) 4 (by decide), (R1.out _ X0.out.2) 5 (by decide)⟩)
        ((go_at_call 87; refine (formFits_true (ByteArray.mk #[102, 111, 114, 101, 105, 103, 110, 32, 107, 101, 121]) 1 4 0 0 name 3 cols expr table to a0 a1 a2 c0 c1 c2 _ (HJ.out _ X1.out.2).forms (HK.out _ X1.out.2).1 (HK.out _ X1.out.2).2.1 (HK.out _ X1.out.2).2.2 HQ.out v HV.out).mono ?_; rintro e w2 ⟨rfl, b2⟩; have B2 := Lib.hid (X1.out.call b2); have R2 := Lib.hid (R1.out _ B2.out.2); have hk2 : w2.cell? ⟨w.heap.size, 0, none⟩ = some (.string name) ∧ w2.cell? ⟨w.heap.size, 1, none⟩ = some (.int .i64 3) ∧ w2.cell? ⟨w.heap.size, 2, none⟩ = some (.slice a0 cols.length c0) ∧ w2.cell? ⟨w.heap.size, 3, none⟩ = some (.slice a1 expr.length c1) ∧ w2.cell? ⟨w.heap.size, 4, none⟩ = some (.string table) ∧ w2.cell? ⟨w.heap.size, 5, none⟩ = some (.slice a2 to.length c2) ∧ w2.cell? ⟨0, 18, none⟩ = some (.string (ByteArray.mk #[102, 111, 114, 101, 105, 103, 110, 32, 107, 101, 121])) ∧ w2.cell? ⟨0, 19, none⟩ = some (.int .i64 1) ∧ w2.cell? ⟨0, 20, none⟩ = some (.int .i64 4) ∧ w2.cell? ⟨0, 21, none⟩ = some (.int .i64 0) ∧ w2.cell? ⟨0, 22, none⟩ = some (.int .i64 0) ∧ w2.cell? ⟨0, 23, none⟩ = some (.bool true) := ⟨(B2.out.1.2 0 (by simp)).1, (B2.out.1.2 1 (by simp)).1, (B2.out.1.2 2 (by simp)).1, (B2.out.1.2 3 (by simp)).1, (B2.out.1.2 4 (by simp)).1, (B2.out.1.2 5 (by simp)).1, (R2.out) 0 (by decide), (R2.out) 1 (by decide), (R2.out) 2 (by decide), (R2.out) 3 (by decide), (R2.out) 4 (by decide), (R2.out) 5 (by decide)⟩))
      go_wp2_with fail
      go_ret
      exact ⟨rfl, B2.out.2⟩
  · have HV : Hid (v = false) := by unfold Hid; rw [← hv, ruleB_none _ _ _ _ _ _ hin]
    clear hv
    by_cases hneg : kind < 0
    · have d1 : decide (0 ≤ kind) = false := by simp; omega
      clear hin hneg
      go_enter Tryz.func41, Tryz.ntmps41
      go_wp2_with fail
      go_quiet (fail)
      go_wp2_with fail
      go_ret
      exact ⟨by rw [HV.out] <;> rfl, ((HB.out _).call (below_drewN (Below.refl _ _) _)).2⟩
    · have d1 : decide (0 ≤ kind) = true := by simp; omega
      have d2 : decide (kind < 4) = false := by simp; omega
      clear hin hneg
      go_enter Tryz.func41, Tryz.ntmps41
      go_wp2_with fail
      go_quiet (fail)
      go_wp2_with fail
      go_ret
      exact ⟨by rw [HV.out] <;> rfl, ((HB.out _).call (below_drewN (Below.refl _ _) _)).2⟩

end Go.Proofs.YtpdcmmhhgnackaaGreatDoor

namespace Go.Proofs.YtpdcmmhhgnackaaGreatDoor
open Go.RowKit

theorem strsOne (w : World) (s : ByteArray) (hs : s.size ≤ maxLen) : Strs (w.alloc (.cells #[.string s] 9)) (some ⟨w.heap.size, 0, none⟩) 1 [s] := by
  refine ⟨by simp, by unfold maxLen; omega, by simpa using hs, (fun h => by cases h), fun _ => ⟨w.heap.size, 0, rfl, by simp, fun i hi => ?_⟩⟩
  have : i = 0 := by simpa using hi
  subst this
  simp [go_sem]

theorem Own.alloc {w : World} {B : Nat} {a : Option Addr} {c : Nat} {xs : List ByteArray} (h : Own w B a c xs) (o : Obj) : Own (w.alloc o) B a c xs :=
  h.below ((Below.refl _ _).alloc (Nat.le_refl _) _)

theorem Own.drewN {w : World} {B : Nat} {a : Option Addr} {c : Nat} {xs : List ByteArray} (h : Own w B a c xs) (n : Nat) : Own (w.drewN n) B a c xs :=
  h.below (below_drewN (Below.refl _ _) n)

theorem ownEmpty (w : World) : Own (w.alloc (.cells #[] 9)) w.heap.size (some ⟨w.heap.size, 0, none⟩) 0 [] := by
  have := World.ownsRow_lit (base := w.heap.size) (e := 9) (size := 1) w #[] 0 (Nat.le_refl _) (by unfold maxLen; omega) rfl
  exact this

/-- A row of the call's own, one text appended behind a new block: what is below stays. -/
theorem appended {w wr w2 : World} {B : Nat} {a : Option Addr} {c : Nat} {ys : List ByteArray} (hb : Below B w wr) (hBw : B ≤ w.heap.size) (hown : Own wr B a c ys) {o : Obj} (hg : (wr.alloc o).grownBy w2 (Value.slice a ys.length c).ownBlock) : Below B w w2 := by
  have h1 : Below B w (wr.alloc o) := hb.alloc (Nat.le_trans hBw hb.size) o
  exact h1.grown hg (by have := hb.size; simp; omega) (fun k hk => (hown.lt hk).1)

end Go.Proofs.YtpdcmmhhgnackaaGreatDoor

namespace Go.Proofs.YtpdcmmhhgnackaaGreatDoor
open Go.RowKit

set_option maxRecDepth 100000 in
theorem wpAppendPh {w : World} {ops : Array Oper} {rest : List Oper} {o : Oper} {A : Act} {Q : Exit → Act → World → Prop} (hgd : o.guard = none) (s x : Operand)
    (ho : o.op = .call { callee := .builtin .append, args := #[s, x], argTypes := #[69, 69] })
    (i0 : TypeInfo) (hi0 : Tryz.prog.info? 9 = some i0) (hz0 : i0.zero = some (.string ByteArray.empty)) (hz1 : i0.size = 1) (hz2 : i0.bytes = 16)
    (B : Nat) (a : Option Addr) (c : Nat) (xs : List ByteArray) (a1 : Option Addr) (c1 : Nat) (ys : List ByteArray)
    (hs : A.eval s = .slice a xs.length c) (hown : Own w B a c xs) (hx : A.eval x = .slice a1 ys.length c1) (hy : Strs w a1 c1 ys)
    (hn : xs.length + ys.length ≤ 8388608) (hB : B ≤ w.heap.size)
    (h : ∀ a' c' w', Own w' B a' c' (xs ++ ys) → w.grownBy w' (Value.slice a xs.length c).ownBlock → wpList Tryz.prog ops Q rest (A.put o.dst (.slice a' (xs ++ ys).length c')) w') :
    wpList Tryz.prog ops Q (o :: rest) A w := by
  cases a1 with
  | none =>
    have hc1 : c1 = 0 := hy.2.2.2.1 rfl
    have hl : ys = [] := by
      cases ys with
      | nil => rfl
      | cons y r => obtain ⟨_, _, h0, _⟩ := hy.2.2.2.2 (by simp); cases h0
    subst hc1 hl
    refine wpList_append_own_none hgd s x 69 ho B 9 i0 1 Tryz.underlying69 hi0 (.slice a xs.length c) xs.length (xs.map Value.string) hs hown hx ?_
    have := h a c w (by simpa using hown) (World.grownBy.refl w _)
    simpa using this
  | some ad =>
    refine wpList_append_own_at _ hgd s x 69 ho B 9 i0 (.string ByteArray.empty) 1 16 Tryz.underlying69 hi0 hz0 hz1 hz2 rfl (by decide) (.slice a xs.length c) xs.length (xs.map Value.string) hs hown
      ad ys.length c1 (ys.map Value.string) hx (by simp) ?_ (strings_one ys) (by unfold maxLen; omega) (by omega) hB ?_
    · intro j u hu
      have hj : j < ys.length := by
        rcases Nat.lt_or_ge j ys.length with h | h
        · exact h
        · rw [List.getElem?_eq_none (by simpa using h)] at hu; cases hu
      obtain ⟨b, off, hb, _, hc⟩ := hy.spot hj
      cases hb
      rw [List.getElem?_map, List.getElem?_eq_getElem hj] at hu
      cases hu
      rw [← hc]
      congr 1
      unfold Addr.add
      by_cases h0 : j = 0 <;> simp [h0]
    · intro v' w' hown' hg _ _
      have hf : ∃ a' c', v' = .slice a' (xs.length + ys.length) c' := by
        rcases hown'.2 with ⟨rfl, h0⟩ | ⟨g, cap, cur, rfl, _⟩
        · exact ⟨none, 0, by rw [h0]⟩
        · exact ⟨_, _, rfl⟩
      obtain ⟨a', c', rfl⟩ := hf
      have := h a' c' w' (by unfold Own; simpa using hown') hg
      simpa using this

theorem joinT_size (xs : List ByteArray) (s : ByteArray) : (joinT xs s).size = (joinL xs s).length := by
  show (joinL xs s).toArray.size = _
  simp

theorem strsOne1 (w : World) (s : ByteArray) (hs : s.size ≤ maxLen) : Strs (w.alloc (.cells #[.string s] 9)) (some ⟨w.heap.size, 0, none⟩) 1 [s] := strsOne w s hs

set_option maxHeartbeats 1000000 in
theorem inParens (a : Option Addr) (c : Nat) (xs : List ByteArray) (w : World) (hx : Strs w a c xs) (hJ : lets xs + xs.length * 2 ≤ 1073741824) (r : ByteArray) (hr : txt [40] ++ joinT xs (txt [44, 32]) ++ txt [41] = r) :
    Calls Tryz.prog 42 #[.slice a xs.length c] w fun e w' => e = .returned (.string r) ∧ Below w.heap.size w w' := by
  have hz : (joinT xs (txt [44, 32])).size ≤ 1073741824 := by
    have h := joinL_len xs (txt [44, 32]) xs.length (Nat.le_refl _)
    rw [List.take_length] at h
    have e2 : (txt [44, 32]).size = 2 := rfl
    rw [e2] at h
    have e3 : (joinT xs (txt [44, 32])).size = (joinL xs (txt [44, 32])).length := joinT_size _ _
    omega
  have HR := Lib.hid hr
  obtain ⟨J, hJ1⟩ : ∃ J, joinT xs (txt [44, 32]) = J := ⟨_, rfl⟩
  have HJ1 := Lib.hid hJ1
  rw [hJ1] at hz
  have y1 : (ByteArray.mk #[40]).size = 1 := rfl
  have y2 : (ByteArray.mk #[41]).size = 1 := rfl
  obtain ⟨p1, hp1⟩ : ∃ p, p = (ByteArray.mk #[40]) ++ J := ⟨_, rfl⟩
  have z1 : p1.size ≤ 1073741825 := by rw [hp1, ByteArray.size_append]; omega
  obtain ⟨p2, hp2⟩ : ∃ p, p = p1 ++ (ByteArray.mk #[41]) := ⟨_, rfl⟩
  have HV : Hid (r = p2) := by unfold Hid; rw [← hr, hp2, hp1, hJ1]; rfl
  have ad1 : ∀ w, (Op.stringOp .add (ByteArray.mk #[40]) J).run Tryz.prog w = .ok (.string p1) w := fun w => by rw [hp1]; exact run_string_add_sum w _ _ (by omega)
  have ad2 : ∀ w, (Op.stringOp .add p1 (ByteArray.mk #[41])).run Tryz.prog w = .ok (.string p2) w := fun w => by rw [hp2]; exact run_string_add_sum w _ _ (by omega)
  clear hr hJ1 hp1 hp2
  go_enter Tryz.func42, Tryz.ntmps42
  go_wp2_with fail
  refine (implJoin a c xs (txt [44, 32]) _ hx (by have : (txt [44, 32]).size = 2 := rfl; rw [this]; omega) (by omega)).mono ?_
  rintro e w1 ⟨rfl, b1⟩
  rw [HJ1.out]
  go_wp2_with fail
  go_ret
  exact ⟨by rw [HV.out] <;> rfl, b1⟩

theorem lets_map (f : ByteArray → ByteArray) (xs : List ByteArray) (k : Nat) (h : ∀ s ∈ xs, (f s).size ≤ k) : lets (xs.map f) ≤ xs.length * k := by
  induction xs with
  | nil => simp [lets]
  | cons x r ih =>
    have h1 := h x (by simp)
    have h2 := ih fun s hs => h s (by simp [hs])
    simp only [List.map_cons, lets_cons, List.length_cons, Nat.add_mul]
    omega

set_option maxRecDepth 100000 in
set_option maxHeartbeats 2000000 in
theorem specListT (a : Option Addr) (c : Nat) (xs : List ByteArray) (w : World) (hx : Strs w a c xs) (hn : xs.length ≤ 100) (hs : ∀ s ∈ xs, nmB s = true) (r : ByteArray) (hr : listT xs = r) :
    Calls Tryz.prog 39 #[.slice a xs.length c] w fun e w' => e = .returned (.string r) ∧ Below w.heap.size w w' := by
  obtain ⟨i0, hi0, hi1⟩ := Option.map_eq_some_iff.1 Tryz.infoString
  have hz0 : i0.zero = some (.string ByteArray.empty) := (Prod.mk.inj hi1).1
  have hz1 : i0.size = 1 := (Prod.mk.inj (Prod.mk.inj hi1).2).1
  have hz2 : i0.bytes = 16 := (Prod.mk.inj (Prod.mk.inj hi1).2).2
  have hl := hx.len
  have HX := Lib.hid (fun w' (hb : Below w.heap.size w w') => hx.below hb)
  have HS := Lib.hid hs
  have hlet := lets_map nameT xs 82 fun s h => nameT_small (hs s h)
  have hz : (joinT (xs.map nameT) (txt [44, 32])).size ≤ 1000000 := by
    have h := joinL_len (xs.map nameT) (txt [44, 32]) (xs.map nameT).length (Nat.le_refl _)
    rw [List.take_length] at h
    have e2 : (txt [44, 32]).size = 2 := rfl
    have e3 : (joinT (xs.map nameT) (txt [44, 32])).size = (joinL (xs.map nameT) (txt [44, 32])).length := joinT_size _ _
    rw [e2, List.length_map] at h
    omega
  have HLT := Lib.hid hlet
  obtain ⟨J, hJ1⟩ : ∃ J, joinT (xs.map nameT) (txt [44, 32]) = J := ⟨_, rfl⟩
  have HJ1 := Lib.hid hJ1
  rw [hJ1] at hz
  have y1 : (ByteArray.mk #[40]).size = 1 := rfl
  have y2 : (ByteArray.mk #[41]).size = 1 := rfl
  obtain ⟨p1, hp1⟩ : ∃ p, p = (ByteArray.mk #[40]) ++ J := ⟨_, rfl⟩
  have z1 : p1.size ≤ 1073741825 := by rw [hp1, ByteArray.size_append]; omega
  obtain ⟨p2, hp2⟩ : ∃ p, p = p1 ++ (ByteArray.mk #[41]) := ⟨_, rfl⟩
  have HV : Hid (r = p2) := by unfold Hid; rw [← hr, hp2, hp1]; unfold listT; rw [hJ1]; rfl
  have ad1 : ∀ w, (Op.stringOp .add (ByteArray.mk #[40]) J).run Tryz.prog w = .ok (.string p1) w := fun w => by rw [hp1]; exact run_string_add_sum w _ _ (by omega)
  have ad2 : ∀ w, (Op.stringOp .add p1 (ByteArray.mk #[41])).run Tryz.prog w = .ok (.string p2) w := fun w => by rw [hp2]; exact run_string_add_sum w _ _ (by omega)
  have HJo : Hid (∀ W a1 c1, Strs W a1 c1 (xs.map nameT) → Calls Tryz.prog 86 #[.slice a1 xs.length c1, .string (ByteArray.mk #[44, 32])] W fun e w' => e = .returned (.string J) ∧ Below W.heap.size W w') := by
    intro W a1 c1 h
    have h1 := specJoin a1 c1 (xs.map nameT) (txt [44, 32]) W h (by rw [List.length_map, show (txt [44, 32]).size = 2 from rfl]; omega)
    rw [List.length_map, hJ1] at h1
    exact h1
  clear hr hJ1 hp1 hp2 hx hs hlet
  go_enter Tryz.func39, Tryz.ntmps39
  go_wp2
  go_loopw [3, 4] (fun v i wr => ∃ (k : Nat) (a1 : Option Addr) (c1 : Nat) (l : List ByteArray), k ≤ xs.length ∧ i = .int .i64 k ∧ v = .slice a1 l.length c1 ∧ Hid (l = (xs.take k).map nameT ∧ Own wr w.heap.size a1 c1 l) ∧ Below w.heap.size w wr) (fun _ i _ => xs.length - (intOf i).toNat)
  case atStart => exact ⟨0, some ⟨w.heap.size, 0, none⟩, 0, [], Nat.zero_le _, rfl, rfl, ⟨rfl, ownEmpty w⟩, (Below.refl _ _).alloc (Nat.le_refl _) _⟩
  case round =>
    obtain ⟨k, a1, c1, l, hk, rfl, rfl, hown, hb⟩ := hrel
    have hsz := hb.size
    by_cases hlt : k < xs.length
    · obtain ⟨b, off, rfl, hbl, hc⟩ := (HX.out _ hb).spot hlt
      have hnk := HS.out xs[k] (List.getElem_mem hlt)
      have hll : l.length = k := by rw [hown.out.1]; simp; omega
      obtain ⟨N, hN⟩ : ∃ N, nameT xs[k] = N := ⟨_, rfl⟩
      have hNz : N.size ≤ 82 := by rw [← hN]; exact nameT_small hnk
      have hNm : N.size ≤ maxLen := by unfold maxLen; omega
      have HNN := Lib.hid hN
      have HLN : Hid (l ++ [N] = (xs.take (k + 1)).map nameT) := by unfold Hid; rw [hown.out.1, List.take_succ_eq_append_getElem hlt, List.map_append, ← hN]; rfl
      have HO := Lib.hid hown.out.2
      have HZ := Lib.hid (nmB_size hnk)
      have HL := Lib.hid hll
      clear hown hN hll hnk
      go_wp2_with fail
      refine (specPutName xs[k] _ (by have := HZ.out; omega) N HNN.out).mono ?_
      rintro e w2 ⟨rfl, b2⟩
      have B2 := Lib.hid (hb.trans (b2.mono hsz))
      have HO2 := Lib.hid (HO.out.below b2)
      have hsz2 := B2.out.size
      clear b2
      go_wp2_with (at_builtin; refine wpAppendStrs rfl _ _ rfl i0 hi0 hz0 hz1 hz2 w.heap.size a1 c1 l (some ⟨_, 0, none⟩) 1 [N] rfl (HO2.out.alloc _) rfl (strsOne _ _ hNm) (by have := HL.out; simp only [List.length_cons, List.length_nil]; omega) (by simp; omega) ?_; intro a3 c3 w3 hown3 hg3)
      have B3 := Lib.hid (appended B2.out (Nat.le_refl _) HO2.out hg3)
      have HO3 := Lib.hid hown3
      clear hown3 hg3
      go_roundw
      case rel => exact ⟨k + 1, a3, c3, l ++ [N], by omega, by go_num, by rw [List.length_append]; rfl, ⟨HLN.out, HO3.out⟩, B3.out⟩
      case measure => simp [intOf]; omega
    · obtain rfl : k = xs.length := by omega
      have hll : l = xs.map nameT := by have := hown.out.1; rwa [List.take_length] at this
      have HST : Hid (Strs wr a1 c1 (xs.map nameT)) := by
        unfold Hid
        rw [← hll]
        refine hown.out.2.strs fun s hs' => ?_
        rw [hll] at hs'
        obtain ⟨t, ht, rfl⟩ := List.mem_map.1 hs'
        have := nameT_small (HS.out t ht)
        unfold maxLen
        omega
      have hle : l.length = xs.length := by rw [hll, List.length_map]
      rw [hle]
      clear hown hll hle
      go_wp2_with fail
      refine (HJo.out _ a1 c1 HST.out).mono ?_
      rintro e w4 ⟨rfl, b4⟩
      have B4 := Lib.hid (Below.call b4 hb)
      clear b4
      go_wp2_with fail
      go_ret
      exact ⟨by rw [HV.out] <;> rfl, B4.out⟩

end Go.Proofs.YtpdcmmhhgnackaaGreatDoor
