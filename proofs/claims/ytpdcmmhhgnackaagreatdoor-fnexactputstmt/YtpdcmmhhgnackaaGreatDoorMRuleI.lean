/- The program's own look at a form of rules. Written by tools/gen_rule.py. -/
/- When a statement is right. Nothing of the program. Written by tools/gen_st.py. -/
import Derived.Test.YtpdcmmhhgnackaaGreatDoorMExSz
import Derived.Test.YtpdcmmhhgnackaaGreatDoorMOkW
import Derived.Test.YtpdcmmhhgnackaaGreatDoorMPl
namespace Go.Proofs.YtpdcmmhhgnackaaGreatDoor
open Go.RowKit

theorem implNameUse (s : ByteArray) (u : Bool) (w : World) (v : Bool) (hv : (if u = true then nmB s else s.toList.isEmpty) = v) :
    Calls Tryz.prog 123 #[.string s, .bool u] w fun e w' => e = .returned (.bool v) ∧ w = w' := by
  cases u with
  | true =>
    rw [if_pos rfl] at hv
    have HV := Lib.hid hv
    clear hv
    go_enter Tryz.func123, Tryz.ntmps123
    go_wp2_with fail
    refine (implNameOk s _ v HV.out).mono ?_
    rintro e w1 ⟨rfl, rfl⟩
    go_wp2_with fail
    go_ret
    exact ⟨rfl, rfl⟩
  | false =>
    rw [if_neg (by simp)] at hv
    have HV := Lib.hid hv
    clear hv
    go_enter Tryz.func123, Tryz.ntmps123
    go_wp2_with fail
    go_ret
    exact ⟨by rw [← HV.out] <;> rfl, rfl⟩

/-- Three boxes, one behind the other. -/
def Box3 (w : World) (us vs ts : List Value) (w1 : World) : Prop := Blk w1 w.heap.size us ∧ Blk w1 (w.heap.size + 1) vs ∧ Blk w1 (w.heap.size + 1 + 1) ts ∧ Below w.heap.size w w1

theorem Box3.call {w w1 w2 : World} {us vs ts : List Value} (h : Box3 w us vs ts w1) (hb : Below w1.heap.size w1 w2) : Box3 w us vs ts w2 := ⟨h.1.below hb, h.2.1.below hb, h.2.2.1.below hb, Below.call hb h.2.2.2⟩

theorem Box3.new (w : World) (us vs ts : List Value) (T U V : TypeId) : Box3 w us vs ts (((w.alloc (.cells us.toArray T)).alloc (.cells vs.toArray U)).alloc (.cells ts.toArray V)) :=
  ⟨((blk_new w T us).alloc _).alloc _, (blk_new' (by simp) U vs).alloc _, blk_new' (by simp) V ts, (((Below.refl _ _).alloc (Nat.le_refl _) _).alloc (by simp) _).alloc (by simp; omega) _⟩

set_option maxRecDepth 100000 in
set_option maxHeartbeats 4000000 in
theorem formFits_true (fs : ByteArray) (l0 l1 e0 e1 : Int) (name : ByteArray) (kind : Int) (cols : List ByteArray) (expr : List Ex) (table : ByteArray) (to : List ByteArray) (a0 a1 a2 : Option Addr) (c0 c1 c2 : Nat) (w : World)
    (hJ : FormsAt w) (k0 : Ss 0 w a0 c0 cols) (k1 : Ks 0 w a1 c1 expr) (k2 : Ss 0 w a2 c2 to) (hq : ∀ e ∈ expr, e.wt ≤ 1048576) (v : Bool)
    (hv : (nmB name && (nmB table && ((inI cols.length l0 l1 && cols.all nmB) && ((inI to.length (cols.length : Int) (cols.length : Int) && to.all nmB) && (inI expr.length e0 e1 && expr.all okX))))) = v) :
    Calls Tryz.prog 87 #[.agg #[.string fs, .int .i64 l0, .int .i64 l1, .int .i64 e0, .int .i64 e1, .bool true], .agg #[.string name, .int .i64 kind, .slice a0 cols.length c0, .slice a1 expr.length c1, .string table, .slice a2 to.length c2]] w fun e w' => e = .returned (.bool v) ∧ Below w.heap.size w w' := by
  have Hcols := Lib.hid (fun w' (hb : Below w.heap.size w w') => (k0.kept (Kept.below hb)).sl)
  have Hexpr := Lib.hid (fun w' (hb : Below w.heap.size w w') => And.intro (k1.kept (Kept.below hb)).sl (hJ.call hb))
  have Hto := Lib.hid (fun w' (hb : Below w.heap.size w w') => (k2.kept (Kept.below hb)).sl)
  have lc := k0.1.len
  have HQ := Lib.hid hq
  have HVV := Lib.hid hv
  have HB := Lib.hid (Box3.new w [.string fs, .int .i64 l0, .int .i64 l1, .int .i64 e0, .int .i64 e1, .bool true] [.string name, .int .i64 kind, .slice a0 cols.length c0, .slice a1 expr.length c1, .string table, .slice a2 to.length c2] [.int .i64 (cols.length : Int), .int .i64 (cols.length : Int)] 82 42 80)
  clear k0 k1 k2 hJ hq hv
  go_enter Tryz.func87, Tryz.ntmps87
  go_wp2_with fail
  generalize ((w.alloc (.cells #[.string fs, .int .i64 l0, .int .i64 l1, .int .i64 e0, .int .i64 e1, .bool true] 82)).alloc (.cells #[.string name, .int .i64 kind, .slice a0 cols.length c0, .slice a1 expr.length c1, .string table, .slice a2 to.length c2] 42)).alloc (.cells #[.int .i64 (cols.length : Int), .int .i64 (cols.length : Int)] 80) = W0 at HB ⊢
  have fHB_0 : W0.cell? ⟨w.heap.size, 0, none⟩ = some (.string fs) := (HB.out.1.2 0 (by simp)).1
  have fHB_1 : W0.cell? ⟨w.heap.size, 1, none⟩ = some (.int .i64 l0) := (HB.out.1.2 1 (by simp)).1
  have fHB_2 : W0.cell? ⟨w.heap.size, 2, none⟩ = some (.int .i64 l1) := (HB.out.1.2 2 (by simp)).1
  have fHB_3 : W0.cell? ⟨w.heap.size, 3, none⟩ = some (.int .i64 e0) := (HB.out.1.2 3 (by simp)).1
  have fHB_4 : W0.cell? ⟨w.heap.size, 4, none⟩ = some (.int .i64 e1) := (HB.out.1.2 4 (by simp)).1
  have fHB_5 : W0.cell? ⟨w.heap.size, 5, none⟩ = some (.bool true) := (HB.out.1.2 5 (by simp)).1
  have rHB_0 : W0.cell? ⟨w.heap.size + 1, 0, none⟩ = some (.string name) := (HB.out.2.1.2 0 (by simp)).1
  have rHB_1 : W0.cell? ⟨w.heap.size + 1, 1, none⟩ = some (.int .i64 kind) := (HB.out.2.1.2 1 (by simp)).1
  have rHB_2 : W0.cell? ⟨w.heap.size + 1, 2, none⟩ = some (.slice a0 cols.length c0) := (HB.out.2.1.2 2 (by simp)).1
  have rHB_3 : W0.cell? ⟨w.heap.size + 1, 3, none⟩ = some (.slice a1 expr.length c1) := (HB.out.2.1.2 3 (by simp)).1
  have rHB_4 : W0.cell? ⟨w.heap.size + 1, 4, none⟩ = some (.string table) := (HB.out.2.1.2 4 (by simp)).1
  have rHB_5 : W0.cell? ⟨w.heap.size + 1, 5, none⟩ = some (.slice a2 to.length c2) := (HB.out.2.1.2 5 (by simp)).1
  have tHB_0 : W0.cell? ⟨w.heap.size + 1 + 1, 0, none⟩ = some (.int .i64 (cols.length : Int)) := (HB.out.2.2.1.2 0 (by simp)).1
  have tHB_1 : W0.cell? ⟨w.heap.size + 1 + 1, 1, none⟩ = some (.int .i64 (cols.length : Int)) := (HB.out.2.2.1.2 1 (by simp)).1
  refine (implNameOk name _ _ rfl).mono ?_
  rintro e w0 ⟨rfl, rfl⟩
  cases h0 : nameB name.data.toList with
  | false =>
    have HV : Hid (v = false) := by unfold Hid; rw [← HVV.out]; rw [show nmB name = nameB name.data.toList from rfl, h0] <;> simp only [Bool.false_and, Bool.true_and, Bool.and_false, Bool.and_true]
    clear h0
    go_wp2_with fail
    go_ret
    exact ⟨by rw [HV.out] <;> rfl, HB.out.2.2.2⟩
  | true =>
    go_wp2_with fail
    refine (implNameUse table true _ (nmB table) rfl).mono ?_
    rintro e w1 ⟨rfl, rfl⟩
    cases h1 : nmB table with
    | false =>
      have HV : Hid (v = false) := by unfold Hid; rw [← HVV.out]; rw [show nmB name = nameB name.data.toList from rfl, h0, h1] <;> simp only [Bool.false_and, Bool.true_and, Bool.and_false, Bool.and_true]
      clear h0 h1
      go_wp2_with fail
      go_ret
      exact ⟨by rw [HV.out] <;> rfl, HB.out.2.2.2⟩
    | true =>
      go_wp2_with fail
      refine (fitsN a0 c0 cols l0 l1 _ (Hcols.out _ HB.out.2.2.2) trivial (fun _ _ => trivial) _ rfl).mono ?_
      rintro e w2 ⟨rfl, b2⟩
      have B2 := Lib.hid (HB.out.call b2)
      clear b2 fHB_0 fHB_1 fHB_2 fHB_3 fHB_4 fHB_5 rHB_0 rHB_1 rHB_2 rHB_3 rHB_4 rHB_5 tHB_0 tHB_1
      have fB2_0 : w2.cell? ⟨w.heap.size, 0, none⟩ = some (.string fs) := (B2.out.1.2 0 (by simp)).1
      have fB2_1 : w2.cell? ⟨w.heap.size, 1, none⟩ = some (.int .i64 l0) := (B2.out.1.2 1 (by simp)).1
      have fB2_2 : w2.cell? ⟨w.heap.size, 2, none⟩ = some (.int .i64 l1) := (B2.out.1.2 2 (by simp)).1
      have fB2_3 : w2.cell? ⟨w.heap.size, 3, none⟩ = some (.int .i64 e0) := (B2.out.1.2 3 (by simp)).1
      have fB2_4 : w2.cell? ⟨w.heap.size, 4, none⟩ = some (.int .i64 e1) := (B2.out.1.2 4 (by simp)).1
      have fB2_5 : w2.cell? ⟨w.heap.size, 5, none⟩ = some (.bool true) := (B2.out.1.2 5 (by simp)).1
      have rB2_0 : w2.cell? ⟨w.heap.size + 1, 0, none⟩ = some (.string name) := (B2.out.2.1.2 0 (by simp)).1
      have rB2_1 : w2.cell? ⟨w.heap.size + 1, 1, none⟩ = some (.int .i64 kind) := (B2.out.2.1.2 1 (by simp)).1
      have rB2_2 : w2.cell? ⟨w.heap.size + 1, 2, none⟩ = some (.slice a0 cols.length c0) := (B2.out.2.1.2 2 (by simp)).1
      have rB2_3 : w2.cell? ⟨w.heap.size + 1, 3, none⟩ = some (.slice a1 expr.length c1) := (B2.out.2.1.2 3 (by simp)).1
      have rB2_4 : w2.cell? ⟨w.heap.size + 1, 4, none⟩ = some (.string table) := (B2.out.2.1.2 4 (by simp)).1
      have rB2_5 : w2.cell? ⟨w.heap.size + 1, 5, none⟩ = some (.slice a2 to.length c2) := (B2.out.2.1.2 5 (by simp)).1
      have tB2_0 : w2.cell? ⟨w.heap.size + 1 + 1, 0, none⟩ = some (.int .i64 (cols.length : Int)) := (B2.out.2.2.1.2 0 (by simp)).1
      have tB2_1 : w2.cell? ⟨w.heap.size + 1 + 1, 1, none⟩ = some (.int .i64 (cols.length : Int)) := (B2.out.2.2.1.2 1 (by simp)).1
      cases h2 : (inI cols.length l0 l1 && cols.all nmB) with
      | false =>
        have HV : Hid (v = false) := by unfold Hid; rw [← HVV.out]; rw [show nmB name = nameB name.data.toList from rfl, h0, h1, h2] <;> simp only [Bool.false_and, Bool.true_and, Bool.and_false, Bool.and_true]
        clear h0 h1 h2
        go_wp2_with fail
        go_ret
        exact ⟨by rw [HV.out] <;> rfl, B2.out.2.2.2⟩
      | true =>
        go_wp2_with fail
        refine (fitsN a2 c2 to (cols.length : Int) (cols.length : Int) _ (Hto.out _ B2.out.2.2.2) trivial (fun _ _ => trivial) _ rfl).mono ?_
        rintro e w3 ⟨rfl, b3⟩
        have B3 := Lib.hid (B2.out.call b3)
        clear b3 fB2_0 fB2_1 fB2_2 fB2_3 fB2_4 fB2_5 rB2_0 rB2_1 rB2_2 rB2_3 rB2_4 rB2_5 tB2_0 tB2_1
        have fB3_0 : w3.cell? ⟨w.heap.size, 0, none⟩ = some (.string fs) := (B3.out.1.2 0 (by simp)).1
        have fB3_1 : w3.cell? ⟨w.heap.size, 1, none⟩ = some (.int .i64 l0) := (B3.out.1.2 1 (by simp)).1
        have fB3_2 : w3.cell? ⟨w.heap.size, 2, none⟩ = some (.int .i64 l1) := (B3.out.1.2 2 (by simp)).1
        have fB3_3 : w3.cell? ⟨w.heap.size, 3, none⟩ = some (.int .i64 e0) := (B3.out.1.2 3 (by simp)).1
        have fB3_4 : w3.cell? ⟨w.heap.size, 4, none⟩ = some (.int .i64 e1) := (B3.out.1.2 4 (by simp)).1
        have fB3_5 : w3.cell? ⟨w.heap.size, 5, none⟩ = some (.bool true) := (B3.out.1.2 5 (by simp)).1
        have rB3_0 : w3.cell? ⟨w.heap.size + 1, 0, none⟩ = some (.string name) := (B3.out.2.1.2 0 (by simp)).1
        have rB3_1 : w3.cell? ⟨w.heap.size + 1, 1, none⟩ = some (.int .i64 kind) := (B3.out.2.1.2 1 (by simp)).1
        have rB3_2 : w3.cell? ⟨w.heap.size + 1, 2, none⟩ = some (.slice a0 cols.length c0) := (B3.out.2.1.2 2 (by simp)).1
        have rB3_3 : w3.cell? ⟨w.heap.size + 1, 3, none⟩ = some (.slice a1 expr.length c1) := (B3.out.2.1.2 3 (by simp)).1
        have rB3_4 : w3.cell? ⟨w.heap.size + 1, 4, none⟩ = some (.string table) := (B3.out.2.1.2 4 (by simp)).1
        have rB3_5 : w3.cell? ⟨w.heap.size + 1, 5, none⟩ = some (.slice a2 to.length c2) := (B3.out.2.1.2 5 (by simp)).1
        have tB3_0 : w3.cell? ⟨w.heap.size + 1 + 1, 0, none⟩ = some (.int .i64 (cols.length : Int)) := (B3.out.2.2.1.2 0 (by simp)).1
        have tB3_1 : w3.cell? ⟨w.heap.size + 1 + 1, 1, none⟩ = some (.int .i64 (cols.length : Int)) := (B3.out.2.2.1.2 1 (by simp)).1
        cases h3 : (inI to.length (cols.length : Int) (cols.length : Int) && to.all nmB) with
        | false =>
          have HV : Hid (v = false) := by unfold Hid; rw [← HVV.out]; rw [show nmB name = nameB name.data.toList from rfl, h0, h1, h2, h3] <;> simp only [Bool.false_and, Bool.true_and, Bool.and_false, Bool.and_true]
          clear h0 h1 h2 h3
          go_wp2_with fail
          go_ret
          exact ⟨by rw [HV.out] <;> rfl, B3.out.2.2.2⟩
        | true =>
          go_wp2_with fail
          obtain ⟨dd, hsx⟩ := (Hexpr.out _ B3.out.2.2.2).1
          refine (fitsX dd a1 c1 expr e0 e1 _ hsx (Hexpr.out _ B3.out.2.2.2).2 HQ.out _ rfl).mono ?_
          rintro e w4 ⟨rfl, b4⟩
          have B4 := Lib.hid (B3.out.call b4)
          clear b4 fB3_0 fB3_1 fB3_2 fB3_3 fB3_4 fB3_5 rB3_0 rB3_1 rB3_2 rB3_3 rB3_4 rB3_5 tB3_0 tB3_1
          clear hsx
          have fB4_0 : w4.cell? ⟨w.heap.size, 0, none⟩ = some (.string fs) := (B4.out.1.2 0 (by simp)).1
          have fB4_1 : w4.cell? ⟨w.heap.size, 1, none⟩ = some (.int .i64 l0) := (B4.out.1.2 1 (by simp)).1
          have fB4_2 : w4.cell? ⟨w.heap.size, 2, none⟩ = some (.int .i64 l1) := (B4.out.1.2 2 (by simp)).1
          have fB4_3 : w4.cell? ⟨w.heap.size, 3, none⟩ = some (.int .i64 e0) := (B4.out.1.2 3 (by simp)).1
          have fB4_4 : w4.cell? ⟨w.heap.size, 4, none⟩ = some (.int .i64 e1) := (B4.out.1.2 4 (by simp)).1
          have fB4_5 : w4.cell? ⟨w.heap.size, 5, none⟩ = some (.bool true) := (B4.out.1.2 5 (by simp)).1
          have rB4_0 : w4.cell? ⟨w.heap.size + 1, 0, none⟩ = some (.string name) := (B4.out.2.1.2 0 (by simp)).1
          have rB4_1 : w4.cell? ⟨w.heap.size + 1, 1, none⟩ = some (.int .i64 kind) := (B4.out.2.1.2 1 (by simp)).1
          have rB4_2 : w4.cell? ⟨w.heap.size + 1, 2, none⟩ = some (.slice a0 cols.length c0) := (B4.out.2.1.2 2 (by simp)).1
          have rB4_3 : w4.cell? ⟨w.heap.size + 1, 3, none⟩ = some (.slice a1 expr.length c1) := (B4.out.2.1.2 3 (by simp)).1
          have rB4_4 : w4.cell? ⟨w.heap.size + 1, 4, none⟩ = some (.string table) := (B4.out.2.1.2 4 (by simp)).1
          have rB4_5 : w4.cell? ⟨w.heap.size + 1, 5, none⟩ = some (.slice a2 to.length c2) := (B4.out.2.1.2 5 (by simp)).1
          have tB4_0 : w4.cell? ⟨w.heap.size + 1 + 1, 0, none⟩ = some (.int .i64 (cols.length : Int)) := (B4.out.2.2.1.2 0 (by simp)).1
          have tB4_1 : w4.cell? ⟨w.heap.size + 1 + 1, 1, none⟩ = some (.int .i64 (cols.length : Int)) := (B4.out.2.2.1.2 1 (by simp)).1
          cases h4 : (inI expr.length e0 e1 && expr.all okX) with
          | false =>
            have HV : Hid (v = false) := by unfold Hid; rw [← HVV.out]; rw [show nmB name = nameB name.data.toList from rfl, h0, h1, h2, h3, h4] <;> simp only [Bool.false_and, Bool.true_and, Bool.and_false, Bool.and_true]
            clear h0 h1 h2 h3 h4
            go_wp2_with fail
            go_ret
            exact ⟨by rw [HV.out] <;> rfl, B4.out.2.2.2⟩
          | true =>
            have HV : Hid (v = true) := by unfold Hid; rw [← HVV.out]; rw [show nmB name = nameB name.data.toList from rfl, h0, h1, h2, h3, h4] <;> rfl
            clear h0 h1 h2 h3 h4
            go_wp2_with fail
            go_ret
            exact ⟨by rw [HV.out] <;> rfl, B4.out.2.2.2⟩

set_option maxRecDepth 100000 in
set_option maxHeartbeats 4000000 in
theorem formFits_false (fs : ByteArray) (l0 l1 e0 e1 : Int) (name : ByteArray) (kind : Int) (cols : List ByteArray) (expr : List Ex) (table : ByteArray) (to : List ByteArray) (a0 a1 a2 : Option Addr) (c0 c1 c2 : Nat) (w : World)
    (hJ : FormsAt w) (k0 : Ss 0 w a0 c0 cols) (k1 : Ks 0 w a1 c1 expr) (k2 : Ss 0 w a2 c2 to) (hq : ∀ e ∈ expr, e.wt ≤ 1048576) (v : Bool)
    (hv : (nmB name && (table.toList.isEmpty && ((inI cols.length l0 l1 && cols.all nmB) && ((inI to.length 0 0 && to.all nmB) && (inI expr.length e0 e1 && expr.all okX))))) = v) :
    Calls Tryz.prog 87 #[.agg #[.string fs, .int .i64 l0, .int .i64 l1, .int .i64 e0, .int .i64 e1, .bool false], .agg #[.string name, .int .i64 kind, .slice a0 cols.length c0, .slice a1 expr.length c1, .string table, .slice a2 to.length c2]] w fun e w' => e = .returned (.bool v) ∧ Below w.heap.size w w' := by
  have Hcols := Lib.hid (fun w' (hb : Below w.heap.size w w') => (k0.kept (Kept.below hb)).sl)
  have Hexpr := Lib.hid (fun w' (hb : Below w.heap.size w w') => And.intro (k1.kept (Kept.below hb)).sl (hJ.call hb))
  have Hto := Lib.hid (fun w' (hb : Below w.heap.size w w') => (k2.kept (Kept.below hb)).sl)
  have lc := k0.1.len
  have HQ := Lib.hid hq
  have HVV := Lib.hid hv
  have HB := Lib.hid (Box3.new w [.string fs, .int .i64 l0, .int .i64 l1, .int .i64 e0, .int .i64 e1, .bool false] [.string name, .int .i64 kind, .slice a0 cols.length c0, .slice a1 expr.length c1, .string table, .slice a2 to.length c2] [.int .i64 0, .int .i64 0] 82 42 80)
  clear k0 k1 k2 hJ hq hv
  go_enter Tryz.func87, Tryz.ntmps87
  go_wp2_with fail
  generalize ((w.alloc (.cells #[.string fs, .int .i64 l0, .int .i64 l1, .int .i64 e0, .int .i64 e1, .bool false] 82)).alloc (.cells #[.string name, .int .i64 kind, .slice a0 cols.length c0, .slice a1 expr.length c1, .string table, .slice a2 to.length c2] 42)).alloc (.cells #[.int .i64 0, .int .i64 0] 80) = W0 at HB ⊢
  have fHB_0 : W0.cell? ⟨w.heap.size, 0, none⟩ = some (.string fs) := (HB.out.1.2 0 (by simp)).1
  have fHB_1 : W0.cell? ⟨w.heap.size, 1, none⟩ = some (.int .i64 l0) := (HB.out.1.2 1 (by simp)).1
  have fHB_2 : W0.cell? ⟨w.heap.size, 2, none⟩ = some (.int .i64 l1) := (HB.out.1.2 2 (by simp)).1
  have fHB_3 : W0.cell? ⟨w.heap.size, 3, none⟩ = some (.int .i64 e0) := (HB.out.1.2 3 (by simp)).1
  have fHB_4 : W0.cell? ⟨w.heap.size, 4, none⟩ = some (.int .i64 e1) := (HB.out.1.2 4 (by simp)).1
  have fHB_5 : W0.cell? ⟨w.heap.size, 5, none⟩ = some (.bool false) := (HB.out.1.2 5 (by simp)).1
  have rHB_0 : W0.cell? ⟨w.heap.size + 1, 0, none⟩ = some (.string name) := (HB.out.2.1.2 0 (by simp)).1
  have rHB_1 : W0.cell? ⟨w.heap.size + 1, 1, none⟩ = some (.int .i64 kind) := (HB.out.2.1.2 1 (by simp)).1
  have rHB_2 : W0.cell? ⟨w.heap.size + 1, 2, none⟩ = some (.slice a0 cols.length c0) := (HB.out.2.1.2 2 (by simp)).1
  have rHB_3 : W0.cell? ⟨w.heap.size + 1, 3, none⟩ = some (.slice a1 expr.length c1) := (HB.out.2.1.2 3 (by simp)).1
  have rHB_4 : W0.cell? ⟨w.heap.size + 1, 4, none⟩ = some (.string table) := (HB.out.2.1.2 4 (by simp)).1
  have rHB_5 : W0.cell? ⟨w.heap.size + 1, 5, none⟩ = some (.slice a2 to.length c2) := (HB.out.2.1.2 5 (by simp)).1
  have tHB_0 : W0.cell? ⟨w.heap.size + 1 + 1, 0, none⟩ = some (.int .i64 0) := (HB.out.2.2.1.2 0 (by simp)).1
  have tHB_1 : W0.cell? ⟨w.heap.size + 1 + 1, 1, none⟩ = some (.int .i64 0) := (HB.out.2.2.1.2 1 (by simp)).1
  refine (implNameOk name _ _ rfl).mono ?_
  rintro e w0 ⟨rfl, rfl⟩
  cases h0 : nameB name.data.toList with
  | false =>
    have HV : Hid (v = false) := by unfold Hid; rw [← HVV.out]; rw [show nmB name = nameB name.data.toList from rfl, h0] <;> simp only [Bool.false_and, Bool.true_and, Bool.and_false, Bool.and_true]
    clear h0
    go_wp2_with fail
    go_ret
    exact ⟨by rw [HV.out] <;> rfl, HB.out.2.2.2⟩
  | true =>
    go_wp2_with fail
    refine (implNameUse table false _ (table.toList.isEmpty) rfl).mono ?_
    rintro e w1 ⟨rfl, rfl⟩
    cases h1 : table.toList.isEmpty with
    | false =>
      have HV : Hid (v = false) := by unfold Hid; rw [← HVV.out]; rw [show nmB name = nameB name.data.toList from rfl, h0, h1] <;> simp only [Bool.false_and, Bool.true_and, Bool.and_false, Bool.and_true]
      clear h0 h1
      go_wp2_with fail
      go_ret
      exact ⟨by rw [HV.out] <;> rfl, HB.out.2.2.2⟩
    | true =>
      go_wp2_with fail
      refine (fitsN a0 c0 cols l0 l1 _ (Hcols.out _ HB.out.2.2.2) trivial (fun _ _ => trivial) _ rfl).mono ?_
      rintro e w2 ⟨rfl, b2⟩
      have B2 := Lib.hid (HB.out.call b2)
      clear b2 fHB_0 fHB_1 fHB_2 fHB_3 fHB_4 fHB_5 rHB_0 rHB_1 rHB_2 rHB_3 rHB_4 rHB_5 tHB_0 tHB_1
      have fB2_0 : w2.cell? ⟨w.heap.size, 0, none⟩ = some (.string fs) := (B2.out.1.2 0 (by simp)).1
      have fB2_1 : w2.cell? ⟨w.heap.size, 1, none⟩ = some (.int .i64 l0) := (B2.out.1.2 1 (by simp)).1
      have fB2_2 : w2.cell? ⟨w.heap.size, 2, none⟩ = some (.int .i64 l1) := (B2.out.1.2 2 (by simp)).1
      have fB2_3 : w2.cell? ⟨w.heap.size, 3, none⟩ = some (.int .i64 e0) := (B2.out.1.2 3 (by simp)).1
      have fB2_4 : w2.cell? ⟨w.heap.size, 4, none⟩ = some (.int .i64 e1) := (B2.out.1.2 4 (by simp)).1
      have fB2_5 : w2.cell? ⟨w.heap.size, 5, none⟩ = some (.bool false) := (B2.out.1.2 5 (by simp)).1
      have rB2_0 : w2.cell? ⟨w.heap.size + 1, 0, none⟩ = some (.string name) := (B2.out.2.1.2 0 (by simp)).1
      have rB2_1 : w2.cell? ⟨w.heap.size + 1, 1, none⟩ = some (.int .i64 kind) := (B2.out.2.1.2 1 (by simp)).1
      have rB2_2 : w2.cell? ⟨w.heap.size + 1, 2, none⟩ = some (.slice a0 cols.length c0) := (B2.out.2.1.2 2 (by simp)).1
      have rB2_3 : w2.cell? ⟨w.heap.size + 1, 3, none⟩ = some (.slice a1 expr.length c1) := (B2.out.2.1.2 3 (by simp)).1
      have rB2_4 : w2.cell? ⟨w.heap.size + 1, 4, none⟩ = some (.string table) := (B2.out.2.1.2 4 (by simp)).1
      have rB2_5 : w2.cell? ⟨w.heap.size + 1, 5, none⟩ = some (.slice a2 to.length c2) := (B2.out.2.1.2 5 (by simp)).1
      have tB2_0 : w2.cell? ⟨w.heap.size + 1 + 1, 0, none⟩ = some (.int .i64 0) := (B2.out.2.2.1.2 0 (by simp)).1
      have tB2_1 : w2.cell? ⟨w.heap.size + 1 + 1, 1, none⟩ = some (.int .i64 0) := (B2.out.2.2.1.2 1 (by simp)).1
      cases h2 : (inI cols.length l0 l1 && cols.all nmB) with
      | false =>
        have HV : Hid (v = false) := by unfold Hid; rw [← HVV.out]; rw [show nmB name = nameB name.data.toList from rfl, h0, h1, h2] <;> simp only [Bool.false_and, Bool.true_and, Bool.and_false, Bool.and_true]
        clear h0 h1 h2
        go_wp2_with fail
        go_ret
        exact ⟨by rw [HV.out] <;> rfl, B2.out.2.2.2⟩
      | true =>
        go_wp2_with fail
        refine (fitsN a2 c2 to 0 0 _ (Hto.out _ B2.out.2.2.2) trivial (fun _ _ => trivial) _ rfl).mono ?_
        rintro e w3 ⟨rfl, b3⟩
        have B3 := Lib.hid (B2.out.call b3)
        clear b3 fB2_0 fB2_1 fB2_2 fB2_3 fB2_4 fB2_5 rB2_0 rB2_1 rB2_2 rB2_3 rB2_4 rB2_5 tB2_0 tB2_1
        have fB3_0 : w3.cell? ⟨w.heap.size, 0, none⟩ = some (.string fs) := (B3.out.1.2 0 (by simp)).1
        have fB3_1 : w3.cell? ⟨w.heap.size, 1, none⟩ = some (.int .i64 l0) := (B3.out.1.2 1 (by simp)).1
        have fB3_2 : w3.cell? ⟨w.heap.size, 2, none⟩ = some (.int .i64 l1) := (B3.out.1.2 2 (by simp)).1
        have fB3_3 : w3.cell? ⟨w.heap.size, 3, none⟩ = some (.int .i64 e0) := (B3.out.1.2 3 (by simp)).1
        have fB3_4 : w3.cell? ⟨w.heap.size, 4, none⟩ = some (.int .i64 e1) := (B3.out.1.2 4 (by simp)).1
        have fB3_5 : w3.cell? ⟨w.heap.size, 5, none⟩ = some (.bool false) := (B3.out.1.2 5 (by simp)).1
        have rB3_0 : w3.cell? ⟨w.heap.size + 1, 0, none⟩ = some (.string name) := (B3.out.2.1.2 0 (by simp)).1
        have rB3_1 : w3.cell? ⟨w.heap.size + 1, 1, none⟩ = some (.int .i64 kind) := (B3.out.2.1.2 1 (by simp)).1
        have rB3_2 : w3.cell? ⟨w.heap.size + 1, 2, none⟩ = some (.slice a0 cols.length c0) := (B3.out.2.1.2 2 (by simp)).1
        have rB3_3 : w3.cell? ⟨w.heap.size + 1, 3, none⟩ = some (.slice a1 expr.length c1) := (B3.out.2.1.2 3 (by simp)).1
        have rB3_4 : w3.cell? ⟨w.heap.size + 1, 4, none⟩ = some (.string table) := (B3.out.2.1.2 4 (by simp)).1
        have rB3_5 : w3.cell? ⟨w.heap.size + 1, 5, none⟩ = some (.slice a2 to.length c2) := (B3.out.2.1.2 5 (by simp)).1
        have tB3_0 : w3.cell? ⟨w.heap.size + 1 + 1, 0, none⟩ = some (.int .i64 0) := (B3.out.2.2.1.2 0 (by simp)).1
        have tB3_1 : w3.cell? ⟨w.heap.size + 1 + 1, 1, none⟩ = some (.int .i64 0) := (B3.out.2.2.1.2 1 (by simp)).1
        cases h3 : (inI to.length 0 0 && to.all nmB) with
        | false =>
          have HV : Hid (v = false) := by unfold Hid; rw [← HVV.out]; rw [show nmB name = nameB name.data.toList from rfl, h0, h1, h2, h3] <;> simp only [Bool.false_and, Bool.true_and, Bool.and_false, Bool.and_true]
          clear h0 h1 h2 h3
          go_wp2_with fail
          go_ret
          exact ⟨by rw [HV.out] <;> rfl, B3.out.2.2.2⟩
        | true =>
          go_wp2_with fail
          obtain ⟨dd, hsx⟩ := (Hexpr.out _ B3.out.2.2.2).1
          refine (fitsX dd a1 c1 expr e0 e1 _ hsx (Hexpr.out _ B3.out.2.2.2).2 HQ.out _ rfl).mono ?_
          rintro e w4 ⟨rfl, b4⟩
          have B4 := Lib.hid (B3.out.call b4)
          clear b4 fB3_0 fB3_1 fB3_2 fB3_3 fB3_4 fB3_5 rB3_0 rB3_1 rB3_2 rB3_3 rB3_4 rB3_5 tB3_0 tB3_1
          clear hsx
          have fB4_0 : w4.cell? ⟨w.heap.size, 0, none⟩ = some (.string fs) := (B4.out.1.2 0 (by simp)).1
          have fB4_1 : w4.cell? ⟨w.heap.size, 1, none⟩ = some (.int .i64 l0) := (B4.out.1.2 1 (by simp)).1
          have fB4_2 : w4.cell? ⟨w.heap.size, 2, none⟩ = some (.int .i64 l1) := (B4.out.1.2 2 (by simp)).1
          have fB4_3 : w4.cell? ⟨w.heap.size, 3, none⟩ = some (.int .i64 e0) := (B4.out.1.2 3 (by simp)).1
          have fB4_4 : w4.cell? ⟨w.heap.size, 4, none⟩ = some (.int .i64 e1) := (B4.out.1.2 4 (by simp)).1
          have fB4_5 : w4.cell? ⟨w.heap.size, 5, none⟩ = some (.bool false) := (B4.out.1.2 5 (by simp)).1
          have rB4_0 : w4.cell? ⟨w.heap.size + 1, 0, none⟩ = some (.string name) := (B4.out.2.1.2 0 (by simp)).1
          have rB4_1 : w4.cell? ⟨w.heap.size + 1, 1, none⟩ = some (.int .i64 kind) := (B4.out.2.1.2 1 (by simp)).1
          have rB4_2 : w4.cell? ⟨w.heap.size + 1, 2, none⟩ = some (.slice a0 cols.length c0) := (B4.out.2.1.2 2 (by simp)).1
          have rB4_3 : w4.cell? ⟨w.heap.size + 1, 3, none⟩ = some (.slice a1 expr.length c1) := (B4.out.2.1.2 3 (by simp)).1
          have rB4_4 : w4.cell? ⟨w.heap.size + 1, 4, none⟩ = some (.string table) := (B4.out.2.1.2 4 (by simp)).1
          have rB4_5 : w4.cell? ⟨w.heap.size + 1, 5, none⟩ = some (.slice a2 to.length c2) := (B4.out.2.1.2 5 (by simp)).1
          have tB4_0 : w4.cell? ⟨w.heap.size + 1 + 1, 0, none⟩ = some (.int .i64 0) := (B4.out.2.2.1.2 0 (by simp)).1
          have tB4_1 : w4.cell? ⟨w.heap.size + 1 + 1, 1, none⟩ = some (.int .i64 0) := (B4.out.2.2.1.2 1 (by simp)).1
          cases h4 : (inI expr.length e0 e1 && expr.all okX) with
          | false =>
            have HV : Hid (v = false) := by unfold Hid; rw [← HVV.out]; rw [show nmB name = nameB name.data.toList from rfl, h0, h1, h2, h3, h4] <;> simp only [Bool.false_and, Bool.true_and, Bool.and_false, Bool.and_true]
            clear h0 h1 h2 h3 h4
            go_wp2_with fail
            go_ret
            exact ⟨by rw [HV.out] <;> rfl, B4.out.2.2.2⟩
          | true =>
            have HV : Hid (v = true) := by unfold Hid; rw [← HVV.out]; rw [show nmB name = nameB name.data.toList from rfl, h0, h1, h2, h3, h4] <;> rfl
            clear h0 h1 h2 h3 h4
            go_wp2_with fail
            go_ret
            exact ⟨by rw [HV.out] <;> rfl, B4.out.2.2.2⟩

theorem in01 {X : Type} (l : List X) : inI l.length 0 0 = l.isEmpty := by
  unfold inI
  cases l with
  | nil => rfl
  | cons x r => simp

theorem len0 {X : Type} (l : List X) : (((l.length : Nat) : Int) == 0) = l.isEmpty := (l0_empty l).symm

theorem isEmpty_all {X : Type} (f : X → Bool) (l : List X) : (l.isEmpty && l.all f) = l.isEmpty := by
  cases l <;> simp

theorem in_same (n m : Nat) : inI (n : Int) (m : Int) (m : Int) = (n == m) := by
  unfold inI
  rw [Bool.eq_iff_iff]
  simp
  omega

set_option maxRecDepth 100000 in
set_option maxHeartbeats 4000000 in
theorem implRuleFits (vs : List Value) (x : Ru) (w : World) (hJ : FormR w) (hR : RRu 0 w vs x) (hwt : x.wt ≤ 1048576) (v : Bool) (hv : ruleB x = v) :
    Calls Tryz.prog 41 #[.agg vs.toArray] w fun e w' => e = .returned (.bool v) ∧ Below w.heap.size w w' := by
  obtain ⟨name, kind, cols, expr, table, to⟩ := x
  obtain ⟨a0, c0, a1, c1, a2, c2, rfl, hfit, k0, k1, k2⟩ := hR
  simp only at k0 k1 k2
  have HK := Lib.hid (fun w' (hb : Below w.heap.size w w') => (show Ss 0 w' a0 c0 cols ∧ Ks 0 w' a1 c1 expr ∧ Ss 0 w' a2 c2 to from ⟨k0.kept (Kept.below hb), k1.kept (Kept.below hb), k2.kept (Kept.below hb)⟩))
  have HJ := Lib.hid (fun w' (hb : Below w.heap.size w w') => hJ.call hb)
  have HB := Lib.hid (fun T => boxV_new w [.string name, .int .i64 kind, .slice a0 cols.length c0, .slice a1 expr.length c1, .string table, .slice a2 to.length c2] T)
  have hW : (Ru.mk name kind cols expr table to).wt = name.size + (cols.length + lets cols) + (expr.length + wtL expr) + table.size + (to.length + lets to) := rfl
  have HQ := Lib.hid (fun (e : Ex) (hm : e ∈ expr) => (show e.wt ≤ 1048576 by have := wtL_mem hm; omega))
  have hlr : 0 < w.heap.size := hJ.rules.1
  have lc := k0.1.len
  have le := k1.len
  have lt := k2.1.len
  simp only
  clear k0 k1 k2 hW hJ
  by_cases hin : 0 ≤ kind ∧ kind ≤ 3
  · have hc : kind = 0 ∨ kind = 1 ∨ kind = 2 ∨ kind = 3 := by omega
    clear hin
    rcases hc with rfl | rfl | rfl | rfl
    · have HV : Hid ((nmB name && (table.toList.isEmpty && ((inI cols.length 1 4 && cols.all nmB) && ((inI to.length 0 0 && to.all nmB) && (inI expr.length 0 0 && expr.all okX))))) = v) := by
        unfold Hid
        rw [← hv, ruleB_key name 0 cols expr table to (.inl rfl)]
        rw [in01 to, isEmpty_all, in01 expr, isEmpty_all, len0 expr, len0 to]
        unfold namesB
        cases nmB name <;> cases table.toList.isEmpty <;> cases (inI cols.length 1 4 && cols.all nmB) <;> cases to.isEmpty <;> cases expr.isEmpty <;> rfl
      clear hv
      have X0 := Lib.hid (HB.out 42)
      have X1 := Lib.hid ((HB.out 42).call (below_drewE (Below.refl _ _)))
      have R1 := Lib.hid (fun (w' : World) (hb : Below w.heap.size w w') => (HJ.out w' hb).rules.2 0 (by omega))
      go_enter Tryz.func41, Tryz.ntmps41
      go_wp2_with fail
      go_region_held3 (fun w' => w'.cell? ⟨w.heap.size, 0, none⟩ = some (.string name) ∧ w'.cell? ⟨w.heap.size, 1, none⟩ = some (.int .i64 0) ∧ w'.cell? ⟨w.heap.size, 2, none⟩ = some (.slice a0 cols.length c0) ∧ w'.cell? ⟨w.heap.size, 3, none⟩ = some (.slice a1 expr.length c1) ∧ w'.cell? ⟨w.heap.size, 4, none⟩ = some (.string table) ∧ w'.cell? ⟨w.heap.size, 5, none⟩ = some (.slice a2 to.length c2) ∧ w'.cell? ⟨0, 0, none⟩ = some (.string (ByteArray.mk #[112, 114, 105, 109, 97, 114, 121, 32, 107, 101, 121])) ∧ w'.cell? ⟨0, 1, none⟩ = some (.int .i64 1) ∧ w'.cell? ⟨0, 2, none⟩ = some (.int .i64 4) ∧ w'.cell? ⟨0, 3, none⟩ = some (.int .i64 0) ∧ w'.cell? ⟨0, 4, none⟩ = some (.int .i64 0) ∧ w'.cell? ⟨0, 5, none⟩ = some (.bool false)) (first | assumption | exact ⟨(X1.out.1.2 0 (by simp)).1, (X1.out.1.2 1 (by simp)).1, (X1.out.1.2 2 (by simp)).1, (X1.out.1.2 3 (by simp)).1, (X1.out.1.2 4 (by simp)).1, (X1.out.1.2 5 (by simp)).1, (R1.out _ X1.out.2) 0 (by decide), (R1.out _ X1.out.2) 1 (by decide), (R1.out _ X1.out.2) 2 (by decide), (R1.out _ X1.out.2) 3 (by decide), (R1.out _ X1.out.2) 4 (by decide), (R1.out _ X1.out.2) 5 (by decide)⟩ | exact ⟨(X0.out.1.2 0 (by simp)).1, (X0.out.1.2 1 (by simp)).1, (X0.out.1.2 2 (by simp)).1, (X0.out.1.2 3 (by simp)).1, (X0.out.1.2 4 (by simp)).1, (X0.out.1.2 5 (by simp)).1, (R1.out _ X0.out.2) 0 (by decide), (R1.out _ X0.out.2) 1 (by decide), (R1.out _ X0.out.2) 2 (by decide), (R1.out _ X0.out.2) 3 (by decide), (R1.out _ X0.out.2) 4 (by decide), (R1.out _ X0.out.2) 5 (by decide)⟩)
        ((go_at_call 87; refine (formFits_false (ByteArray.mk #[112, 114, 105, 109, 97, 114, 121, 32, 107, 101, 121]) 1 4 0 0 name 0 cols expr table to a0 a1 a2 c0 c1 c2 _ (HJ.out _ X1.out.2).forms (HK.out _ X1.out.2).1 (HK.out _ X1.out.2).2.1 (HK.out _ X1.out.2).2.2 HQ.out v HV.out).mono ?_; rintro e w2 ⟨rfl, b2⟩; have B2 := Lib.hid (X1.out.call b2); have R2 := Lib.hid (R1.out _ B2.out.2); have hk2 : w2.cell? ⟨w.heap.size, 0, none⟩ = some (.string name) ∧ w2.cell? ⟨w.heap.size, 1, none⟩ = some (.int .i64 0) ∧ w2.cell? ⟨w.heap.size, 2, none⟩ = some (.slice a0 cols.length c0) ∧ w2.cell? ⟨w.heap.size, 3, none⟩ = some (.slice a1 expr.length c1) ∧ w2.cell? ⟨w.heap.size, 4, none⟩ = some (.string table) ∧ w2.cell? ⟨w.heap.size, 5, none⟩ = some (.slice a2 to.length c2) ∧ w2.cell? ⟨0, 0, none⟩ = some (.string (ByteArray.mk #[112, 114, 105, 109, 97, 114, 121, 32, 107, 101, 121])) ∧ w2.cell? ⟨0, 1, none⟩ = some (.int .i64 1) ∧ w2.cell? ⟨0, 2, none⟩ = some (.int .i64 4) ∧ w2.cell? ⟨0, 3, none⟩ = some (.int .i64 0) ∧ w2.cell? ⟨0, 4, none⟩ = some (.int .i64 0) ∧ w2.cell? ⟨0, 5, none⟩ = some (.bool false) := ⟨(B2.out.1.2 0 (by simp)).1, (B2.out.1.2 1 (by simp)).1, (B2.out.1.2 2 (by simp)).1, (B2.out.1.2 3 (by simp)).1, (B2.out.1.2 4 (by simp)).1, (B2.out.1.2 5 (by simp)).1, (R2.out) 0 (by decide), (R2.out) 1 (by decide), (R2.out) 2 (by decide), (R2.out) 3 (by decide), (R2.out) 4 (by decide), (R2.out) 5 (by decide)⟩))
      go_wp2_with fail
      go_ret
      exact ⟨rfl, B2.out.2⟩
    · have HV : Hid ((nmB name && (table.toList.isEmpty && ((inI cols.length 1 4 && cols.all nmB) && ((inI to.length 0 0 && to.all nmB) && (inI expr.length 0 0 && expr.all okX))))) = v) := by
        unfold Hid
        rw [← hv, ruleB_key name 1 cols expr table to (.inr rfl)]
        rw [in01 to, isEmpty_all, in01 expr, isEmpty_all, len0 expr, len0 to]
        unfold namesB
        cases nmB name <;> cases table.toList.isEmpty <;> cases (inI cols.length 1 4 && cols.all nmB) <;> cases to.isEmpty <;> cases expr.isEmpty <;> rfl
      clear hv
      have X0 := Lib.hid (HB.out 42)
      have X1 := Lib.hid ((HB.out 42).call (below_drewE (Below.refl _ _)))
      have R1 := Lib.hid (fun (w' : World) (hb : Below w.heap.size w w') => (HJ.out w' hb).rules.2 1 (by omega))
      go_enter Tryz.func41, Tryz.ntmps41
      go_wp2_with fail
      go_region_held3 (fun w' => w'.cell? ⟨w.heap.size, 0, none⟩ = some (.string name) ∧ w'.cell? ⟨w.heap.size, 1, none⟩ = some (.int .i64 1) ∧ w'.cell? ⟨w.heap.size, 2, none⟩ = some (.slice a0 cols.length c0) ∧ w'.cell? ⟨w.heap.size, 3, none⟩ = some (.slice a1 expr.length c1) ∧ w'.cell? ⟨w.heap.size, 4, none⟩ = some (.string table) ∧ w'.cell? ⟨w.heap.size, 5, none⟩ = some (.slice a2 to.length c2) ∧ w'.cell? ⟨0, 6, none⟩ = some (.string (ByteArray.mk #[117, 110, 105, 113, 117, 101])) ∧ w'.cell? ⟨0, 7, none⟩ = some (.int .i64 1) ∧ w'.cell? ⟨0, 8, none⟩ = some (.int .i64 4) ∧ w'.cell? ⟨0, 9, none⟩ = some (.int .i64 0) ∧ w'.cell? ⟨0, 10, none⟩ = some (.int .i64 0) ∧ w'.cell? ⟨0, 11, none⟩ = some (.bool false)) (first | assumption | exact ⟨(X1.out.1.2 0 (by simp)).1, (X1.out.1.2 1 (by simp)).1, (X1.out.1.2 2 (by simp)).1, (X1.out.1.2 3 (by simp)).1, (X1.out.1.2 4 (by simp)).1, (X1.out.1.2 5 (by simp)).1, (R1.out _ X1.out.2) 0 (by decide), (R1.out _ X1.out.2) 1 (by decide), (R1.out _ X1.out.2) 2 (by decide), (R1.out _ X1.out.2) 3 (by decide), (R1.out _ X1.out.2) 4 (by decide), (R1.out _ X1.out.2) 5 (by decide)⟩ | exact ⟨(X0.out.1.2 0 (by simp)).1, (X0.out.1.2 1 (by simp)).1, (X0.out.1.2 2 (by simp)).1, (X0.out.1.2 3 (by simp)).1, (X0.out.1.2 4 (by simp)).1, (X0.out.1.2 5 (by simp)).1, (R1.out _ X0.out.2) 0 (by decide), (R1.out _ X0.out.2) 1 (by decide), (R1.out _ X0.out.2) 2 (by decide), (R1.out _ X0.out.2) 3 (by decide), (R1.out _ X0.out.2) 4 (by decide), (R1.out _ X0.out.2) 5 (by decide)⟩)
        ((go_at_call 87; refine (formFits_false (ByteArray.mk #[117, 110, 105, 113, 117, 101]) 1 4 0 0 name 1 cols expr table to a0 a1 a2 c0 c1 c2 _ (HJ.out _ X1.out.2).forms (HK.out _ X1.out.2).1 (HK.out _ X1.out.2).2.1 (HK.out _ X1.out.2).2.2 HQ.out v HV.out).mono ?_; rintro e w2 ⟨rfl, b2⟩; have B2 := Lib.hid (X1.out.call b2); have R2 := Lib.hid (R1.out _ B2.out.2); have hk2 : w2.cell? ⟨w.heap.size, 0, none⟩ = some (.string name) ∧ w2.cell? ⟨w.heap.size, 1, none⟩ = some (.int .i64 1) ∧ w2.cell? ⟨w.heap.size, 2, none⟩ = some (.slice a0 cols.length c0) ∧ w2.cell? ⟨w.heap.size, 3, none⟩ = some (.slice a1 expr.length c1) ∧ w2.cell? ⟨w.heap.size, 4, none⟩ = some (.string table) ∧ w2.cell? ⟨w.heap.size, 5, none⟩ = some (.slice a2 to.length c2) ∧ w2.cell? ⟨0, 6, none⟩ = some (.string (ByteArray.mk #[117, 110, 105, 113, 117, 101])) ∧ w2.cell? ⟨0, 7, none⟩ = some (.int .i64 1) ∧ w2.cell? ⟨0, 8, none⟩ = some (.int .i64 4) ∧ w2.cell? ⟨0, 9, none⟩ = some (.int .i64 0) ∧ w2.cell? ⟨0, 10, none⟩ = some (.int .i64 0) ∧ w2.cell? ⟨0, 11, none⟩ = some (.bool false) := ⟨(B2.out.1.2 0 (by simp)).1, (B2.out.1.2 1 (by simp)).1, (B2.out.1.2 2 (by simp)).1, (B2.out.1.2 3 (by simp)).1, (B2.out.1.2 4 (by simp)).1, (B2.out.1.2 5 (by simp)).1, (R2.out) 0 (by decide), (R2.out) 1 (by decide), (R2.out) 2 (by decide), (R2.out) 3 (by decide), (R2.out) 4 (by decide), (R2.out) 5 (by decide)⟩))
      go_wp2_with fail
      go_ret
      exact ⟨rfl, B2.out.2⟩
    · have HV : Hid ((nmB name && (table.toList.isEmpty && ((inI cols.length 0 0 && cols.all nmB) && ((inI to.length 0 0 && to.all nmB) && (inI expr.length 1 1 && expr.all okX))))) = v) := by
        unfold Hid
        rw [← hv, ruleB_check name cols expr table to]
        rw [in01 to, isEmpty_all, in01 cols, isEmpty_all, len0 cols, len0 to]
        unfold exprsB
        cases nmB name <;> cases table.toList.isEmpty <;> cases (inI expr.length 1 1 && expr.all okX) <;> cases to.isEmpty <;> cases cols.isEmpty <;> rfl
      clear hv
      have X0 := Lib.hid (HB.out 42)
      have X1 := Lib.hid ((HB.out 42).call (below_drewE (Below.refl _ _)))
      have R1 := Lib.hid (fun (w' : World) (hb : Below w.heap.size w w') => (HJ.out w' hb).rules.2 2 (by omega))
      go_enter Tryz.func41, Tryz.ntmps41
      go_wp2_with fail
      go_region_held3 (fun w' => w'.cell? ⟨w.heap.size, 0, none⟩ = some (.string name) ∧ w'.cell? ⟨w.heap.size, 1, none⟩ = some (.int .i64 2) ∧ w'.cell? ⟨w.heap.size, 2, none⟩ = some (.slice a0 cols.length c0) ∧ w'.cell? ⟨w.heap.size, 3, none⟩ = some (.slice a1 expr.length c1) ∧ w'.cell? ⟨w.heap.size, 4, none⟩ = some (.string table) ∧ w'.cell? ⟨w.heap.size, 5, none⟩ = some (.slice a2 to.length c2) ∧ w'.cell? ⟨0, 12, none⟩ = some (.string (ByteArray.mk #[99, 104, 101, 99, 107])) ∧ w'.cell? ⟨0, 13, none⟩ = some (.int .i64 0) ∧ w'.cell? ⟨0, 14, none⟩ = some (.int .i64 0) ∧ w'.cell? ⟨0, 15, none⟩ = some (.int .i64 1) ∧ w'.cell? ⟨0, 16, none⟩ = some (.int .i64 1) ∧ w'.cell? ⟨0, 17, none⟩ = some (.bool false)) (first | assumption | exact ⟨(X1.out.1.2 0 (by simp)).1, (X1.out.1.2 1 (by simp)).1, (X1.out.1.2 2 (by simp)).1, (X1.out.1.2 3 (by simp)).1, (X1.out.1.2 4 (by simp)).1, (X1.out.1.2 5 (by simp)).1, (R1.out _ X1.out.2) 0 (by decide), (R1.out _ X1.out.2) 1 (by decide), (R1.out _ X1.out.2) 2 (by decide), (R1.out _ X1.out.2) 3 (by decide), (R1.out _ X1.out.2) 4 (by decide), (R1.out _ X1.out.2) 5 (by decide)⟩ | exact ⟨(X0.out.1.2 0 (by simp)).1, (X0.out.1.2 1 (by simp)).1, (X0.out.1.2 2 (by simp)).1, (X0.out.1.2 3 (by simp)).1, (X0.out.1.2 4 (by simp)).1, (X0.out.1.2 5 (by simp)).1, (R1.out _ X0.out.2) 0 (by decide), (R1.out _ X0.out.2) 1 (by decide), (R1.out _ X0.out.2) 2 (by decide), (R1.out _ X0.out.2) 3 (by decide), (R1.out _ X0.out.2) 4 (by decide), (R1.out _ X0.out.2) 5 (by decide)⟩)
        ((go_at_call 87; refine (formFits_false (ByteArray.mk #[99, 104, 101, 99, 107]) 0 0 1 1 name 2 cols expr table to a0 a1 a2 c0 c1 c2 _ (HJ.out _ X1.out.2).forms (HK.out _ X1.out.2).1 (HK.out _ X1.out.2).2.1 (HK.out _ X1.out.2).2.2 HQ.out v HV.out).mono ?_; rintro e w2 ⟨rfl, b2⟩; have B2 := Lib.hid (X1.out.call b2); have R2 := Lib.hid (R1.out _ B2.out.2); have hk2 : w2.cell? ⟨w.heap.size, 0, none⟩ = some (.string name) ∧ w2.cell? ⟨w.heap.size, 1, none⟩ = some (.int .i64 2) ∧ w2.cell? ⟨w.heap.size, 2, none⟩ = some (.slice a0 cols.length c0) ∧ w2.cell? ⟨w.heap.size, 3, none⟩ = some (.slice a1 expr.length c1) ∧ w2.cell? ⟨w.heap.size, 4, none⟩ = some (.string table) ∧ w2.cell? ⟨w.heap.size, 5, none⟩ = some (.slice a2 to.length c2) ∧ w2.cell? ⟨0, 12, none⟩ = some (.string (ByteArray.mk #[99, 104, 101, 99, 107])) ∧ w2.cell? ⟨0, 13, none⟩ = some (.int .i64 0) ∧ w2.cell? ⟨0, 14, none⟩ = some (.int .i64 0) ∧ w2.cell? ⟨0, 15, none⟩ = some (.int .i64 1) ∧ w2.cell? ⟨0, 16, none⟩ = some (.int .i64 1) ∧ w2.cell? ⟨0, 17, none⟩ = some (.bool false) := ⟨(B2.out.1.2 0 (by simp)).1, (B2.out.1.2 1 (by simp)).1, (B2.out.1.2 2 (by simp)).1, (B2.out.1.2 3 (by simp)).1, (B2.out.1.2 4 (by simp)).1, (B2.out.1.2 5 (by simp)).1, (R2.out) 0 (by decide), (R2.out) 1 (by decide), (R2.out) 2 (by decide), (R2.out) 3 (by decide), (R2.out) 4 (by decide), (R2.out) 5 (by decide)⟩))
      go_wp2_with fail
      go_ret
      exact ⟨rfl, B2.out.2⟩
    · have HV : Hid ((nmB name && (nmB table && ((inI cols.length 1 4 && cols.all nmB) && ((inI to.length (cols.length : Int) (cols.length : Int) && to.all nmB) && (inI expr.length 0 0 && expr.all okX))))) = v) := by
        unfold Hid
        rw [← hv, ruleB_ref name cols expr table to]
        have e : (((to.length : Nat) : Int) == ((cols.length : Nat) : Int)) = (to.length == cols.length) := by
          rw [Bool.eq_iff_iff, beq_iff_eq, beq_iff_eq]
          omega
        rw [in_same, in01 expr, isEmpty_all, len0 expr, e]
        unfold namesB
        cases hle : (to.length == cols.length) with
        | false => cases nmB name <;> cases nmB table <;> cases (inI cols.length 1 4 && cols.all nmB) <;> cases (inI to.length 1 4 && to.all nmB) <;> cases expr.isEmpty <;> rfl
        | true =>
          have hlen : to.length = cols.length := by simpa using hle
          rw [hlen]
          cases nmB name <;> cases nmB table <;> cases inI cols.length 1 4 <;> cases cols.all nmB <;> cases to.all nmB <;> cases expr.isEmpty <;> rfl
      clear hv
      have X0 := Lib.hid (HB.out 42)
      have X1 := Lib.hid ((HB.out 42).call (below_drewE (Below.refl _ _)))
      have R1 := Lib.hid (fun (w' : World) (hb : Below w.heap.size w w') => (HJ.out w' hb).rules.2 3 (by omega))
      go_enter Tryz.func41, Tryz.ntmps41
      go_wp2_with fail
      go_region_held3 (fun w' => w'.cell? ⟨w.heap.size, 0, none⟩ = some (.string name) ∧ w'.cell? ⟨w.heap.size, 1, none⟩ = some (.int .i64 3) ∧ w'.cell? ⟨w.heap.size, 2, none⟩ = some (.slice a0 cols.length c0) ∧ w'.cell? ⟨w.heap.size, 3, none⟩ = some (.slice a1 expr.length c1) ∧ w'.cell? ⟨w.heap.size, 4, none⟩ = some (.string table) ∧ w'.cell? ⟨w.heap.size, 5, none⟩ = some (.slice a2 to.length c2) ∧ w'.cell? ⟨0, 18, none⟩ = some (.string (ByteArray.mk #[102, 111, 114, 101, 105, 103, 110, 32, 107, 101, 121])) ∧ w'.cell? ⟨0, 19, none⟩ = some (.int .i64 1) ∧ w'.cell? ⟨0, 20, none⟩ = some (.int .i64 4) ∧ w'.cell? ⟨0, 21, none⟩ = some (.int .i64 0) ∧ w'.cell? ⟨0, 22, none⟩ = some (.int .i64 0) ∧ w'.cell? ⟨0, 23, none⟩ = some (.bool true)) (first | assumption | exact ⟨(X1.out.1.2 0 (by simp)).1, (X1.out.1.2 1 (by simp)).1, (X1.out.1.2 2 (by simp)).1, (X1.out.1.2 3 (by simp)).1, (X1.out.1.2 4 (by simp)).1, (X1.out.1.2 5 (by simp)).1, (R1.out _ X1.out.2) 0 (by decide), (R1.out _ X1.out.2) 1 (by decide), (R1.out _ X1.out.2) 2 (by decide), (R1.out _ X1.out.2) 3 (by decide), (R1.out _ X1.out.2) 4 (by decide), (R1.out _ X1.out.2) 5 (by decide)⟩ | exact ⟨(X0.out.1.2 0 (by simp)).1, (X0.out.1.2 1 (by simp)).1, (X0.out.1.2 2 (by simp)).1, (X0.out.1.2 3 (by simp)).1, (X0.out.1.2 4 (by simp)).1, (X0.out.1.2 5 (by simp)).1, (R1.out _ X0.out.2) 0 (by decide), (R1.out _ X0.out.2) 1 (by decide), (R1.out _ X0.out.2) 2 (by decide), (R1.out _ X0.out.2) 3 (by decide), (R1.out _ X0.out.2) 4 (by decide), (R1.out _ X0.out.2) 5 (by decide)⟩)
        ((go_at_call 87; refine (formFits_true (ByteArray.mk #[102, 111, 114, 101, 105, 103, 110, 32, 107, 101, 121]) 1 4 0 0 name 3 cols expr table to a0 a1 a2 c0 c1 c2 _ (HJ.out _ X1.out.2).forms (HK.out _ X1.out.2).1 (HK.out _ X1.out.2).2.1 (HK.out _ X1.out.2).2.2 HQ.out v HV.out).mono ?_; rintro e w2 ⟨rfl, b2⟩; have B2 := Lib.hid (X1.out.call b2); have R2 := Lib.hid (R1.out _ B2.out.2); have hk2 : w2.cell? ⟨w.heap.size, 0, none⟩ = some (.string name) ∧ w2.cell? ⟨w.heap.size, 1, none⟩ = some (.int .i64 3) ∧ w2.cell? ⟨w.heap.size, 2, none⟩ = some (.slice a0 cols.length c0) ∧ w2.cell? ⟨w.heap.size, 3, none⟩ = some (.slice a1 expr.length c1) ∧ w2.cell? ⟨w.heap.size, 4, none⟩ = some (.string table) ∧ w2.cell? ⟨w.heap.size, 5, none⟩ = some (.slice a2 to.length c2) ∧ w2.cell? ⟨0, 18, none⟩ = some (.string (ByteArray.mk #[102, 111, 114, 101, 105, 103, 110, 32, 107, 101, 121])) ∧ w2.cell? ⟨0, 19, none⟩ = some (.int .i64 1) ∧ w2.cell? ⟨0, 20, none⟩ = some (.int .i64 4) ∧ w2.cell? ⟨0, 21, none⟩ = some (.int .i64 0) ∧ w2.cell? ⟨0, 22, none⟩ = some (.int .i64 0) ∧ w2.cell? ⟨0, 23, none⟩ = some (.bool true) := ⟨(B2.out.1.2 0 (by simp)).1, (B2.out.1.2 1 (by simp)).1, (B2.out.1.2 2 (by simp)).1, (B2.out.1.2 3 (by simp)).1, (B2.out.1.2 4 (by simp)).1, (B2.out.1.2 5 (by simp)).1, (R2.out) 0 (by decide), (R2.out) 1 (by decide), (R2.out) 2 (by decide), (R2.out) 3 (by decide), (R2.out) 4 (by decide), (R2.out) 5 (by decide)⟩))
      go_wp2_with fail
      go_ret
      exact ⟨rfl, B2.out.2⟩
  · have HV : Hid (v = false) := by unfold Hid; rw [← hv, ruleB_none _ _ _ _ _ _ hin]
    clear hv
    by_cases hneg : kind < 0
    · have d1 : decide (0 ≤ kind) = false := by simp; omega
      clear hin hneg
      go_enter Tryz.func41, Tryz.ntmps41
      go_wp2_with fail
      go_quiet (fail)
      go_wp2_with fail
      go_ret
      exact ⟨by rw [HV.out] <;> rfl, ((HB.out _).call (below_drewN (Below.refl _ _) _)).2⟩
    · have d1 : decide (0 ≤ kind) = true := by simp; omega
      have d2 : decide (kind < 4) = false := by simp; omega
      clear hin hneg
      go_enter Tryz.func41, Tryz.ntmps41
      go_wp2_with fail
      go_quiet (fail)
      go_wp2_with fail
      go_ret
      exact ⟨by rw [HV.out] <;> rfl, ((HB.out _).call (below_drewN (Below.refl _ _) _)).2⟩

end Go.Proofs.YtpdcmmhhgnackaaGreatDoor

namespace Go.Proofs.YtpdcmmhhgnackaaGreatDoor
open Go.RowKit

/-- The form of the statements of one kind. -/
structure Sf where
  start : List UInt8
  on : Bool
  l0 : Int
  l1 : Int
  n0 : Int
  n1 : Int
  flag : Bool
  typed : Bool
  c0 : Int
  c1 : Int
  r0 : Int
  r1 : Int
  e0 : Int
  e1 : Int

def formsS : List Sf := [⟨[99, 114, 101, 97, 116, 101, 32, 116, 121, 112, 101], false, 1, 12, 0, 0, false, false, 0, 0, 0, 0, 0, 0⟩, ⟨[100, 114, 111, 112, 32, 116, 121, 112, 101], false, 0, 0, 0, 0, false, false, 0, 0, 0, 0, 0, 0⟩, ⟨[99, 114, 101, 97, 116, 101, 32, 115, 101, 113, 117, 101, 110, 99, 101], false, 0, 0, 0, 999999999, false, false, 0, 0, 0, 0, 0, 0⟩, ⟨[100, 114, 111, 112, 32, 115, 101, 113, 117, 101, 110, 99, 101], false, 0, 0, 0, 0, false, false, 0, 0, 0, 0, 0, 0⟩, ⟨[99, 114, 101, 97, 116, 101, 32, 116, 97, 98, 108, 101], false, 0, 0, 0, 0, false, false, 0, 12, 0, 8, 0, 0⟩, ⟨[100, 114, 111, 112, 32, 116, 97, 98, 108, 101], false, 0, 0, 0, 0, false, false, 0, 0, 0, 0, 0, 0⟩, ⟨[97, 108, 116, 101, 114, 32, 116, 97, 98, 108, 101], false, 0, 0, 0, 0, false, false, 1, 1, 0, 0, 0, 0⟩, ⟨[97, 108, 116, 101, 114, 32, 116, 97, 98, 108, 101], true, 0, 0, 0, 0, false, false, 0, 0, 0, 0, 0, 0⟩, ⟨[97, 108, 116, 101, 114, 32, 116, 97, 98, 108, 101], true, 0, 0, 0, 0, false, true, 0, 0, 0, 0, 0, 0⟩, ⟨[97, 108, 116, 101, 114, 32, 116, 97, 98, 108, 101], true, 0, 0, 0, 0, true, false, 0, 0, 0, 0, 0, 0⟩, ⟨[97, 108, 116, 101, 114, 32, 116, 97, 98, 108, 101], true, 0, 0, 0, 0, false, false, 0, 0, 0, 0, 0, 1⟩, ⟨[97, 108, 116, 101, 114, 32, 116, 97, 98, 108, 101], false, 0, 0, 0, 0, false, false, 0, 0, 1, 1, 0, 0⟩, ⟨[97, 108, 116, 101, 114, 32, 116, 97, 98, 108, 101], true, 0, 0, 0, 0, false, false, 0, 0, 0, 0, 0, 0⟩, ⟨[99, 114, 101, 97, 116, 101, 32, 105, 110, 100, 101, 120], true, 1, 12, 0, 0, true, false, 0, 0, 0, 0, 0, 0⟩, ⟨[100, 114, 111, 112, 32, 105, 110, 100, 101, 120], false, 0, 0, 0, 0, false, false, 0, 0, 0, 0, 0, 0⟩, ⟨[99, 114, 101, 97, 116, 101, 32, 118, 105, 101, 119], true, 1, 12, 0, 0, false, false, 0, 0, 0, 0, 0, 1⟩, ⟨[100, 114, 111, 112, 32, 118, 105, 101, 119], false, 0, 0, 0, 0, false, false, 0, 0, 0, 0, 0, 0⟩]

def sf (k : Int) : Sf := formsS.getD k.toNat ⟨[], false, 0, 0, 0, 0, false, false, 0, 0, 0, 0, 0, 0⟩

def ty0 (t : Ty) : Bool := tyEq t ⟨0, 0, ByteArray.empty⟩

def useB (s : ByteArray) (u : Bool) : Bool := if u = true then nmB s else s.toList.isEmpty

def fitsS (f : Sf) (s : St) : Bool :=
  nmB s.name && (useB s.on f.on && (inI s.num f.n0 f.n1 && ((f.flag || !s.flag) && (tyB s.ty && ((f.typed || ty0 s.ty) &&
    ((inI s.list.length f.l0 f.l1 && s.list.all nmB) && ((inI s.cols.length f.c0 f.c1 && s.cols.all colB) &&
      ((inI s.rules.length f.r0 f.r1 && s.rules.all ruleB) && (inI s.exprs.length f.e0 f.e1 && s.exprs.all okX)))))))))

def stB (s : St) : Bool := (decide (0 ≤ s.kind) && decide (s.kind ≤ 16)) && fitsS (sf s.kind) s

/-- What the model asks of columns and rules. -/
def partsB (C R least : Int) (cols : List Co) (rules : List Ru) : Bool :=
  (decide ((cols.length : Int) ≤ C) && cols.all colB) && ((decide ((rules.length : Int) ≤ R) && rules.all ruleB) && decide (least ≤ (cols.length : Int) + rules.length))

/-- .. and of the rest. -/
def restB (on list flag typed num : Bool) (most : Int) (exprs : List Ex) : Bool := on && (list && (flag && (typed && (num && exprsB exprs 0 most))))

theorem ty0_ok {t : Ty} (h : ty0 t = true) : tyB t = true := by
  obtain ⟨k, l, s⟩ := t
  unfold ty0 tyEq at h
  simp only [Bool.and_eq_true, beq_iff_eq] at h
  obtain ⟨rfl, rfl, h3⟩ := h
  unfold tyB typeOkB
  simp only [true_or, if_true, beq_self_eq_true, Bool.true_and]
  rw [h3]
  simp [ByteArray.toList, ByteArray.toList.loop]

theorem inle (n : Nat) (m : Int) : inI (n : Int) 0 m = decide ((n : Int) ≤ m) := by
  unfold inI
  rw [show decide ((0 : Int) ≤ (n : Int)) = true by simp, Bool.true_and]

theorem lt0 {X : Type} (l : List X) : decide ((l.length : Int) ≤ 0) = l.isEmpty := by
  cases l with
  | nil => rfl
  | cons x r => simp

theorem num0 (n : Int) : inI n 0 0 = (n == 0) := by
  unfold inI
  rw [Bool.eq_iff_iff]
  simp
  omega

theorem empty_all {X : Type} (f : X → Bool) (l : List X) (h : l.isEmpty = true) : l.all f = true := by
  cases l with
  | nil => rfl
  | cons x r => cases h

theorem one_lens {X Y : Type} (l : List X) (r : List Y) : (decide ((l.length : Int) ≤ 1) && (r.isEmpty && decide (1 ≤ (l.length : Int) + r.length))) = (inI l.length 1 1 && r.isEmpty) := by
  cases r with
  | nil => unfold inI; rw [Bool.eq_iff_iff]; simp; omega
  | cons x r => simp

theorem ge0 {X Y : Type} (l : List X) (r : List Y) : decide ((0 : Int) ≤ (l.length : Int) + r.length) = true := by simp; omega

end Go.Proofs.YtpdcmmhhgnackaaGreatDoor
