/- The program's StmtOk. Written by tools/gen_st.py. -/
import Derived.Test.YtpdcmmhhgnackaaGreatDoorMStFo
import Derived.Test.YtpdcmmhhgnackaaGreatDoorMStAg
import Derived.Test.YtpdcmmhhgnackaaGreatDoorMEvC
import Derived.Test.YtpdcmmhhgnackaaGreatDoorMOkW
namespace Go.Proofs.YtpdcmmhhgnackaaGreatDoor
open Go.RowKit

theorem boolT : (∀ s, nmB s = nameB s.data.toList) ∧ (∀ t : Ty, tyB t = typeOkB t.kind t.len t.name) ∧ (!true) = false ∧ (!false) = true ∧ (∀ b, (false && b) = false) ∧ (∀ b, (b && false) = false) ∧ (∀ b, (true && b) = b) ∧ (∀ b, (b && true) = b) ∧ (∀ b, (b || false) = b) ∧ (∀ b, (false || b) = b) ∧ (∀ b, (true || b) = true) ∧ (∀ b, (b || true) = true) :=
  ⟨fun _ => rfl, fun _ => rfl, rfl, rfl, Bool.false_and, Bool.and_false, Bool.true_and, Bool.and_true, Bool.or_false, Bool.false_or, Bool.true_or, Bool.or_true⟩

set_option maxHeartbeats 1000000 in
theorem spanAllowsZ (lo hi : Int) (n : Int) (w : World) (v : Bool) (hv : inI n lo hi = v) :
    Calls Tryz.prog 113 #[.agg #[.int .i64 lo, .int .i64 hi], .int .i64 n] w fun e w' => e = .returned (.bool v) ∧ Below w.heap.size w w' := by
  unfold inI at hv
  have hb := fun o => (Below.refl w.heap.size w).alloc (Nat.le_refl _) o
  have HB := Lib.hid hb
  clear hb
  cases h1 : decide (lo ≤ n) with
  | false =>
    have HV : Hid (v = false) := by unfold Hid; rw [← hv, h1]; rfl
    clear hv
    go_enter Tryz.func113, Tryz.ntmps113
    go_wp2_with fail
    go_ret
    exact ⟨by rw [HV.out]; rfl, HB.out _⟩
  | true =>
    have HV : Hid (v = decide (n ≤ hi)) := by unfold Hid; rw [← hv, h1]; rfl
    clear hv
    go_enter Tryz.func113, Tryz.ntmps113
    go_wp2_with fail
    go_ret
    exact ⟨by rw [HV.out]; rfl, HB.out _⟩

/-- Two boxes, one behind the other. -/
def Box2 (w : World) (us vs : List Value) (w1 : World) : Prop := Blk w1 w.heap.size us ∧ Blk w1 (w.heap.size + 1) vs ∧ Below w.heap.size w w1

theorem Box2.call {w w1 w2 : World} {us vs : List Value} (h : Box2 w us vs w1) (hb : Below w1.heap.size w1 w2) : Box2 w us vs w2 := ⟨h.1.below hb, h.2.1.below hb, Below.call hb h.2.2⟩

theorem Box2.new (w : World) (us vs : List Value) (T U : TypeId) : Box2 w us vs ((w.alloc (.cells us.toArray T)).alloc (.cells vs.toArray U)) :=
  ⟨(blk_new w T us).alloc _, blk_new' (by simp) U vs, ((Below.refl _ _).alloc (Nat.le_refl _) _).alloc (by simp) _⟩

set_option maxRecDepth 100000 in
set_option maxHeartbeats 8000000 in
theorem stmtFits (fs : ByteArray) (fon fflag ftyped : Bool) (l0 l1 n0 n1 r0 r1 s0 s1 e0 e1 : Int) (kind : Int) (name on : ByteArray) (list : List ByteArray) (num : Int) (flag : Bool) (ty : Ty) (cols : List Co) (rules : List Ru) (exprs : List Ex) (a0 a1 a2 a3 : Option Addr) (c0 c1 c2 c3 : Nat) (w : World)
    (hJ : FormR w) (k0 : Ss 0 w a0 c0 list) (k1 : Sl 6 RCo 0 w a1 c1 cols) (k2 : Sl 6 RRu 0 w a2 c2 rules) (k3 : Ks 0 w a3 c3 exprs) (zc : ∀ x ∈ cols, x.wt ≤ 1048576) (zr : ∀ x ∈ rules, x.wt ≤ 1048576) (zx : ∀ x ∈ exprs, x.wt ≤ 1048576) (hn : i64E ty.kind) (v : Bool)
    (hv : (nmB name && (useB on fon && (inI num n0 n1 && ((fflag || !flag) && (tyB ty && ((ftyped || ty0 ty) && ((inI list.length l0 l1 && list.all nmB) && ((inI cols.length r0 r1 && cols.all colB) && ((inI rules.length s0 s1 && rules.all ruleB) && (inI exprs.length e0 e1 && exprs.all okX)))))))))) = v) :
    Calls Tryz.prog 92 #[.agg #[.string fs, .bool fon, .int .i64 l0, .int .i64 l1, .int .i64 n0, .int .i64 n1, .bool fflag, .bool ftyped, .int .i64 r0, .int .i64 r1, .int .i64 s0, .int .i64 s1, .int .i64 e0, .int .i64 e1], .agg #[.int .i64 kind, .string name, .string on, .slice a0 list.length c0, .int .i64 num, .bool flag, .int .i64 ty.kind, .int .i64 ty.len, .string ty.name, .slice a1 cols.length c1, .slice a2 rules.length c2, .slice a3 exprs.length c3]] w fun e w' => e = .returned (.bool v) ∧ Below w.heap.size w w' := by
  have HJ := Lib.hid (fun w' (hb : Below w.heap.size w w') => hJ.call hb)
  have HK := Lib.hid (fun w' (hb : Below w.heap.size w w') => (show Ss 0 w' a0 c0 list ∧ Sl 6 RCo 0 w' a1 c1 cols ∧ Sl 6 RRu 0 w' a2 c2 rules ∧ Ks 0 w' a3 c3 exprs from ⟨k0.kept (Kept.below hb), k1.kept goodCo (Kept.below hb), k2.kept goodRu (Kept.below hb), k3.kept (Kept.below hb)⟩))
  have ZC := Lib.hid zc
  have ZR := Lib.hid zr
  have ZX := Lib.hid zx
  have HN := Lib.hid (i64_wf hn)
  have HVV := Lib.hid hv
  have hq := fun w => eqlTy ty.kind ty.len ty.name 0 0 ⟨#[]⟩ w
  have hG := fun x y w => guardTy x y ty.kind ty.len ty.name 0 0 ⟨#[]⟩ w
  have HTY : Hid (tyEq ⟨ty.kind, ty.len, ty.name⟩ ⟨0, 0, ⟨#[]⟩⟩ = ty0 ty) := rfl
  rw [HTY.out] at hq
  have HB := Lib.hid (Box2.new w [.string fs, .bool fon, .int .i64 l0, .int .i64 l1, .int .i64 n0, .int .i64 n1, .bool fflag, .bool ftyped, .int .i64 r0, .int .i64 r1, .int .i64 s0, .int .i64 s1, .int .i64 e0, .int .i64 e1] [.int .i64 kind, .string name, .string on, .slice a0 list.length c0, .int .i64 num, .bool flag, .int .i64 ty.kind, .int .i64 ty.len, .string ty.name, .slice a1 cols.length c1, .slice a2 rules.length c2, .slice a3 exprs.length c3] 122 55)
  clear hJ k0 k1 k2 k3 zc zr zx hn hv
  go_enter Tryz.func92, Tryz.ntmps92
  simp only [List.append_eq, List.cons_append, List.nil_append]
  go_wp2_with fail
  generalize (w.alloc (.cells #[.string fs, .bool fon, .int .i64 l0, .int .i64 l1, .int .i64 n0, .int .i64 n1, .bool fflag, .bool ftyped, .int .i64 r0, .int .i64 r1, .int .i64 s0, .int .i64 s1, .int .i64 e0, .int .i64 e1] 122)).alloc (.cells #[.int .i64 kind, .string name, .string on, .slice a0 list.length c0, .int .i64 num, .bool flag, .int .i64 ty.kind, .int .i64 ty.len, .string ty.name, .slice a1 cols.length c1, .slice a2 rules.length c2, .slice a3 exprs.length c3] 55) = W0 at HB ⊢
  have f0 : W0.cell? ⟨w.heap.size, 0, none⟩ = some (.string fs) := (HB.out.1.2 0 (by simp)).1
  have f1 : W0.cell? ⟨w.heap.size, 1, none⟩ = some (.bool fon) := (HB.out.1.2 1 (by simp)).1
  have f2 : W0.cell? ⟨w.heap.size, 2, none⟩ = some (.int .i64 l0) := (HB.out.1.2 2 (by simp)).1
  have f3 : W0.cell? ⟨w.heap.size, 3, none⟩ = some (.int .i64 l1) := (HB.out.1.2 3 (by simp)).1
  have f4 : W0.cell? ⟨w.heap.size, 4, none⟩ = some (.int .i64 n0) := (HB.out.1.2 4 (by simp)).1
  have f5 : W0.cell? ⟨w.heap.size, 5, none⟩ = some (.int .i64 n1) := (HB.out.1.2 5 (by simp)).1
  have f6 : W0.cell? ⟨w.heap.size, 6, none⟩ = some (.bool fflag) := (HB.out.1.2 6 (by simp)).1
  have f7 : W0.cell? ⟨w.heap.size, 7, none⟩ = some (.bool ftyped) := (HB.out.1.2 7 (by simp)).1
  have f8 : W0.cell? ⟨w.heap.size, 8, none⟩ = some (.int .i64 r0) := (HB.out.1.2 8 (by simp)).1
  have f9 : W0.cell? ⟨w.heap.size, 9, none⟩ = some (.int .i64 r1) := (HB.out.1.2 9 (by simp)).1
  have f10 : W0.cell? ⟨w.heap.size, 10, none⟩ = some (.int .i64 s0) := (HB.out.1.2 10 (by simp)).1
  have f11 : W0.cell? ⟨w.heap.size, 11, none⟩ = some (.int .i64 s1) := (HB.out.1.2 11 (by simp)).1
  have f12 : W0.cell? ⟨w.heap.size, 12, none⟩ = some (.int .i64 e0) := (HB.out.1.2 12 (by simp)).1
  have f13 : W0.cell? ⟨w.heap.size, 13, none⟩ = some (.int .i64 e1) := (HB.out.1.2 13 (by simp)).1
  have g0 : W0.cell? ⟨w.heap.size + 1, 0, none⟩ = some (.int .i64 kind) := (HB.out.2.1.2 0 (by simp)).1
  have g1 : W0.cell? ⟨w.heap.size + 1, 1, none⟩ = some (.string name) := (HB.out.2.1.2 1 (by simp)).1
  have g2 : W0.cell? ⟨w.heap.size + 1, 2, none⟩ = some (.string on) := (HB.out.2.1.2 2 (by simp)).1
  have g3 : W0.cell? ⟨w.heap.size + 1, 3, none⟩ = some (.slice a0 list.length c0) := (HB.out.2.1.2 3 (by simp)).1
  have g4 : W0.cell? ⟨w.heap.size + 1, 4, none⟩ = some (.int .i64 num) := (HB.out.2.1.2 4 (by simp)).1
  have g5 : W0.cell? ⟨w.heap.size + 1, 5, none⟩ = some (.bool flag) := (HB.out.2.1.2 5 (by simp)).1
  have g6 : W0.cell? ⟨w.heap.size + 1, 6, none⟩ = some (.int .i64 ty.kind) := (HB.out.2.1.2 6 (by simp)).1
  have g7 : W0.cell? ⟨w.heap.size + 1, 7, none⟩ = some (.int .i64 ty.len) := (HB.out.2.1.2 7 (by simp)).1
  have g8 : W0.cell? ⟨w.heap.size + 1, 8, none⟩ = some (.string ty.name) := (HB.out.2.1.2 8 (by simp)).1
  have g9 : W0.cell? ⟨w.heap.size + 1, 9, none⟩ = some (.slice a1 cols.length c1) := (HB.out.2.1.2 9 (by simp)).1
  have g10 : W0.cell? ⟨w.heap.size + 1, 10, none⟩ = some (.slice a2 rules.length c2) := (HB.out.2.1.2 10 (by simp)).1
  have g11 : W0.cell? ⟨w.heap.size + 1, 11, none⟩ = some (.slice a3 exprs.length c3) := (HB.out.2.1.2 11 (by simp)).1
  refine (implNameOk name _ _ rfl).mono ?_
  rintro e w0 ⟨rfl, rfl⟩
  cases h0 : nameB name.data.toList with
  | false =>
    have HV : Hid (v = false) := by unfold Hid; rw [← HVV.out]; simp only [boolT, h0]
    go_wp2_with fail
    go_ret
    exact ⟨by rw [HV.out] <;> rfl, HB.out.2.2⟩
  | true =>
    go_wp2_with fail
    refine (implNameUse on fon _ (useB on fon) rfl).mono ?_
    rintro e w1 ⟨rfl, rfl⟩
    cases h1 : useB on fon with
    | false =>
      have HV : Hid (v = false) := by unfold Hid; rw [← HVV.out]; simp only [boolT, (And.intro h0 h1)]
      go_wp2_with fail
      go_ret
      exact ⟨by rw [HV.out] <;> rfl, HB.out.2.2⟩
    | true =>
      go_wp2_with fail
      refine (spanAllowsZ n0 n1 num _ _ rfl).mono ?_
      rintro e w2 ⟨rfl, b2⟩
      have B2 := Lib.hid (HB.out.call b2)
      clear b2 f0 f1 f2 f3 f4 f5 f6 f7 f8 f9 f10 f11 f12 f13 g0 g1 g2 g3 g4 g5 g6 g7 g8 g9 g10 g11
      have f0 : w2.cell? ⟨w.heap.size, 0, none⟩ = some (.string fs) := (B2.out.1.2 0 (by simp)).1
      have f1 : w2.cell? ⟨w.heap.size, 1, none⟩ = some (.bool fon) := (B2.out.1.2 1 (by simp)).1
      have f2 : w2.cell? ⟨w.heap.size, 2, none⟩ = some (.int .i64 l0) := (B2.out.1.2 2 (by simp)).1
      have f3 : w2.cell? ⟨w.heap.size, 3, none⟩ = some (.int .i64 l1) := (B2.out.1.2 3 (by simp)).1
      have f4 : w2.cell? ⟨w.heap.size, 4, none⟩ = some (.int .i64 n0) := (B2.out.1.2 4 (by simp)).1
      have f5 : w2.cell? ⟨w.heap.size, 5, none⟩ = some (.int .i64 n1) := (B2.out.1.2 5 (by simp)).1
      have f6 : w2.cell? ⟨w.heap.size, 6, none⟩ = some (.bool fflag) := (B2.out.1.2 6 (by simp)).1
      have f7 : w2.cell? ⟨w.heap.size, 7, none⟩ = some (.bool ftyped) := (B2.out.1.2 7 (by simp)).1
      have f8 : w2.cell? ⟨w.heap.size, 8, none⟩ = some (.int .i64 r0) := (B2.out.1.2 8 (by simp)).1
      have f9 : w2.cell? ⟨w.heap.size, 9, none⟩ = some (.int .i64 r1) := (B2.out.1.2 9 (by simp)).1
      have f10 : w2.cell? ⟨w.heap.size, 10, none⟩ = some (.int .i64 s0) := (B2.out.1.2 10 (by simp)).1
      have f11 : w2.cell? ⟨w.heap.size, 11, none⟩ = some (.int .i64 s1) := (B2.out.1.2 11 (by simp)).1
      have f12 : w2.cell? ⟨w.heap.size, 12, none⟩ = some (.int .i64 e0) := (B2.out.1.2 12 (by simp)).1
      have f13 : w2.cell? ⟨w.heap.size, 13, none⟩ = some (.int .i64 e1) := (B2.out.1.2 13 (by simp)).1
      have g0 : w2.cell? ⟨w.heap.size + 1, 0, none⟩ = some (.int .i64 kind) := (B2.out.2.1.2 0 (by simp)).1
      have g1 : w2.cell? ⟨w.heap.size + 1, 1, none⟩ = some (.string name) := (B2.out.2.1.2 1 (by simp)).1
      have g2 : w2.cell? ⟨w.heap.size + 1, 2, none⟩ = some (.string on) := (B2.out.2.1.2 2 (by simp)).1
      have g3 : w2.cell? ⟨w.heap.size + 1, 3, none⟩ = some (.slice a0 list.length c0) := (B2.out.2.1.2 3 (by simp)).1
      have g4 : w2.cell? ⟨w.heap.size + 1, 4, none⟩ = some (.int .i64 num) := (B2.out.2.1.2 4 (by simp)).1
      have g5 : w2.cell? ⟨w.heap.size + 1, 5, none⟩ = some (.bool flag) := (B2.out.2.1.2 5 (by simp)).1
      have g6 : w2.cell? ⟨w.heap.size + 1, 6, none⟩ = some (.int .i64 ty.kind) := (B2.out.2.1.2 6 (by simp)).1
      have g7 : w2.cell? ⟨w.heap.size + 1, 7, none⟩ = some (.int .i64 ty.len) := (B2.out.2.1.2 7 (by simp)).1
      have g8 : w2.cell? ⟨w.heap.size + 1, 8, none⟩ = some (.string ty.name) := (B2.out.2.1.2 8 (by simp)).1
      have g9 : w2.cell? ⟨w.heap.size + 1, 9, none⟩ = some (.slice a1 cols.length c1) := (B2.out.2.1.2 9 (by simp)).1
      have g10 : w2.cell? ⟨w.heap.size + 1, 10, none⟩ = some (.slice a2 rules.length c2) := (B2.out.2.1.2 10 (by simp)).1
      have g11 : w2.cell? ⟨w.heap.size + 1, 11, none⟩ = some (.slice a3 exprs.length c3) := (B2.out.2.1.2 11 (by simp)).1
      cases h2 : inI num n0 n1 with
      | false =>
        have HV : Hid (v = false) := by unfold Hid; rw [← HVV.out]; simp only [boolT, (And.intro h0 (And.intro h1 h2))]
        go_wp2_with fail
        go_ret
        exact ⟨by rw [HV.out] <;> rfl, B2.out.2.2⟩
      | true =>
        cases fflag with
        | true =>
          go_wp2_with fail
          refine (implTypeOk ty.kind ty.len ty.name _ HN.out _ rfl).mono ?_
          rintro e w4 ⟨rfl, b4⟩
          have B4 := Lib.hid (B2.out.call b4)
          clear b4 f0 f1 f2 f3 f4 f5 f6 f7 f8 f9 f10 f11 f12 f13 g0 g1 g2 g3 g4 g5 g6 g7 g8 g9 g10 g11
          have f0 : w4.cell? ⟨w.heap.size, 0, none⟩ = some (.string fs) := (B4.out.1.2 0 (by simp)).1
          have f1 : w4.cell? ⟨w.heap.size, 1, none⟩ = some (.bool fon) := (B4.out.1.2 1 (by simp)).1
          have f2 : w4.cell? ⟨w.heap.size, 2, none⟩ = some (.int .i64 l0) := (B4.out.1.2 2 (by simp)).1
          have f3 : w4.cell? ⟨w.heap.size, 3, none⟩ = some (.int .i64 l1) := (B4.out.1.2 3 (by simp)).1
          have f4 : w4.cell? ⟨w.heap.size, 4, none⟩ = some (.int .i64 n0) := (B4.out.1.2 4 (by simp)).1
          have f5 : w4.cell? ⟨w.heap.size, 5, none⟩ = some (.int .i64 n1) := (B4.out.1.2 5 (by simp)).1
          have f6 : w4.cell? ⟨w.heap.size, 6, none⟩ = some (.bool true) := (B4.out.1.2 6 (by simp)).1
          have f7 : w4.cell? ⟨w.heap.size, 7, none⟩ = some (.bool ftyped) := (B4.out.1.2 7 (by simp)).1
          have f8 : w4.cell? ⟨w.heap.size, 8, none⟩ = some (.int .i64 r0) := (B4.out.1.2 8 (by simp)).1
          have f9 : w4.cell? ⟨w.heap.size, 9, none⟩ = some (.int .i64 r1) := (B4.out.1.2 9 (by simp)).1
          have f10 : w4.cell? ⟨w.heap.size, 10, none⟩ = some (.int .i64 s0) := (B4.out.1.2 10 (by simp)).1
          have f11 : w4.cell? ⟨w.heap.size, 11, none⟩ = some (.int .i64 s1) := (B4.out.1.2 11 (by simp)).1
          have f12 : w4.cell? ⟨w.heap.size, 12, none⟩ = some (.int .i64 e0) := (B4.out.1.2 12 (by simp)).1
          have f13 : w4.cell? ⟨w.heap.size, 13, none⟩ = some (.int .i64 e1) := (B4.out.1.2 13 (by simp)).1
          have g0 : w4.cell? ⟨w.heap.size + 1, 0, none⟩ = some (.int .i64 kind) := (B4.out.2.1.2 0 (by simp)).1
          have g1 : w4.cell? ⟨w.heap.size + 1, 1, none⟩ = some (.string name) := (B4.out.2.1.2 1 (by simp)).1
          have g2 : w4.cell? ⟨w.heap.size + 1, 2, none⟩ = some (.string on) := (B4.out.2.1.2 2 (by simp)).1
          have g3 : w4.cell? ⟨w.heap.size + 1, 3, none⟩ = some (.slice a0 list.length c0) := (B4.out.2.1.2 3 (by simp)).1
          have g4 : w4.cell? ⟨w.heap.size + 1, 4, none⟩ = some (.int .i64 num) := (B4.out.2.1.2 4 (by simp)).1
          have g5 : w4.cell? ⟨w.heap.size + 1, 5, none⟩ = some (.bool flag) := (B4.out.2.1.2 5 (by simp)).1
          have g6 : w4.cell? ⟨w.heap.size + 1, 6, none⟩ = some (.int .i64 ty.kind) := (B4.out.2.1.2 6 (by simp)).1
          have g7 : w4.cell? ⟨w.heap.size + 1, 7, none⟩ = some (.int .i64 ty.len) := (B4.out.2.1.2 7 (by simp)).1
          have g8 : w4.cell? ⟨w.heap.size + 1, 8, none⟩ = some (.string ty.name) := (B4.out.2.1.2 8 (by simp)).1
          have g9 : w4.cell? ⟨w.heap.size + 1, 9, none⟩ = some (.slice a1 cols.length c1) := (B4.out.2.1.2 9 (by simp)).1
          have g10 : w4.cell? ⟨w.heap.size + 1, 10, none⟩ = some (.slice a2 rules.length c2) := (B4.out.2.1.2 10 (by simp)).1
          have g11 : w4.cell? ⟨w.heap.size + 1, 11, none⟩ = some (.slice a3 exprs.length c3) := (B4.out.2.1.2 11 (by simp)).1
          cases h4 : typeOkB ty.kind ty.len ty.name with
          | false =>
            have HV : Hid (v = false) := by unfold Hid; rw [← HVV.out]; simp only [boolT, (And.intro h0 (And.intro h1 (And.intro h2 h4)))]
            go_wp2_with fail
            go_ret
            exact ⟨by rw [HV.out] <;> rfl, B4.out.2.2⟩
          | true =>
            cases ftyped with
            | true =>
              go_wp2_with fail
              refine (fitsN a0 c0 list l0 l1 _ (HK.out _ B4.out.2.2).1.sl trivial (fun _ _ => trivial) _ rfl).mono ?_
              rintro e w6 ⟨rfl, b6⟩
              have B6 := Lib.hid (B4.out.call b6)
              clear b6 f0 f1 f2 f3 f4 f5 f6 f7 f8 f9 f10 f11 f12 f13 g0 g1 g2 g3 g4 g5 g6 g7 g8 g9 g10 g11
              have f0 : w6.cell? ⟨w.heap.size, 0, none⟩ = some (.string fs) := (B6.out.1.2 0 (by simp)).1
              have f1 : w6.cell? ⟨w.heap.size, 1, none⟩ = some (.bool fon) := (B6.out.1.2 1 (by simp)).1
              have f2 : w6.cell? ⟨w.heap.size, 2, none⟩ = some (.int .i64 l0) := (B6.out.1.2 2 (by simp)).1
              have f3 : w6.cell? ⟨w.heap.size, 3, none⟩ = some (.int .i64 l1) := (B6.out.1.2 3 (by simp)).1
              have f4 : w6.cell? ⟨w.heap.size, 4, none⟩ = some (.int .i64 n0) := (B6.out.1.2 4 (by simp)).1
              have f5 : w6.cell? ⟨w.heap.size, 5, none⟩ = some (.int .i64 n1) := (B6.out.1.2 5 (by simp)).1
              have f6 : w6.cell? ⟨w.heap.size, 6, none⟩ = some (.bool true) := (B6.out.1.2 6 (by simp)).1
              have f7 : w6.cell? ⟨w.heap.size, 7, none⟩ = some (.bool true) := (B6.out.1.2 7 (by simp)).1
              have f8 : w6.cell? ⟨w.heap.size, 8, none⟩ = some (.int .i64 r0) := (B6.out.1.2 8 (by simp)).1
              have f9 : w6.cell? ⟨w.heap.size, 9, none⟩ = some (.int .i64 r1) := (B6.out.1.2 9 (by simp)).1
              have f10 : w6.cell? ⟨w.heap.size, 10, none⟩ = some (.int .i64 s0) := (B6.out.1.2 10 (by simp)).1
              have f11 : w6.cell? ⟨w.heap.size, 11, none⟩ = some (.int .i64 s1) := (B6.out.1.2 11 (by simp)).1
              have f12 : w6.cell? ⟨w.heap.size, 12, none⟩ = some (.int .i64 e0) := (B6.out.1.2 12 (by simp)).1
              have f13 : w6.cell? ⟨w.heap.size, 13, none⟩ = some (.int .i64 e1) := (B6.out.1.2 13 (by simp)).1
              have g0 : w6.cell? ⟨w.heap.size + 1, 0, none⟩ = some (.int .i64 kind) := (B6.out.2.1.2 0 (by simp)).1
              have g1 : w6.cell? ⟨w.heap.size + 1, 1, none⟩ = some (.string name) := (B6.out.2.1.2 1 (by simp)).1
              have g2 : w6.cell? ⟨w.heap.size + 1, 2, none⟩ = some (.string on) := (B6.out.2.1.2 2 (by simp)).1
              have g3 : w6.cell? ⟨w.heap.size + 1, 3, none⟩ = some (.slice a0 list.length c0) := (B6.out.2.1.2 3 (by simp)).1
              have g4 : w6.cell? ⟨w.heap.size + 1, 4, none⟩ = some (.int .i64 num) := (B6.out.2.1.2 4 (by simp)).1
              have g5 : w6.cell? ⟨w.heap.size + 1, 5, none⟩ = some (.bool flag) := (B6.out.2.1.2 5 (by simp)).1
              have g6 : w6.cell? ⟨w.heap.size + 1, 6, none⟩ = some (.int .i64 ty.kind) := (B6.out.2.1.2 6 (by simp)).1
              have g7 : w6.cell? ⟨w.heap.size + 1, 7, none⟩ = some (.int .i64 ty.len) := (B6.out.2.1.2 7 (by simp)).1
              have g8 : w6.cell? ⟨w.heap.size + 1, 8, none⟩ = some (.string ty.name) := (B6.out.2.1.2 8 (by simp)).1
              have g9 : w6.cell? ⟨w.heap.size + 1, 9, none⟩ = some (.slice a1 cols.length c1) := (B6.out.2.1.2 9 (by simp)).1
              have g10 : w6.cell? ⟨w.heap.size + 1, 10, none⟩ = some (.slice a2 rules.length c2) := (B6.out.2.1.2 10 (by simp)).1
              have g11 : w6.cell? ⟨w.heap.size + 1, 11, none⟩ = some (.slice a3 exprs.length c3) := (B6.out.2.1.2 11 (by simp)).1
              cases h6 : (inI list.length l0 l1 && list.all nmB) with
              | false =>
                have HV : Hid (v = false) := by unfold Hid; rw [← HVV.out]; simp only [boolT, (And.intro h0 (And.intro h1 (And.intro h2 (And.intro h4 h6))))]
                go_wp2_with fail
                go_ret
                exact ⟨by rw [HV.out] <;> rfl, B6.out.2.2⟩
              | true =>
                go_wp2_with fail
                refine (fitsC a1 c1 cols r0 r1 _ (HK.out _ B6.out.2.2).2.1 (HJ.out _ B6.out.2.2).forms ZC.out _ rfl).mono ?_
                rintro e w7 ⟨rfl, b7⟩
                have B7 := Lib.hid (B6.out.call b7)
                clear b7 f0 f1 f2 f3 f4 f5 f6 f7 f8 f9 f10 f11 f12 f13 g0 g1 g2 g3 g4 g5 g6 g7 g8 g9 g10 g11
                have f0 : w7.cell? ⟨w.heap.size, 0, none⟩ = some (.string fs) := (B7.out.1.2 0 (by simp)).1
                have f1 : w7.cell? ⟨w.heap.size, 1, none⟩ = some (.bool fon) := (B7.out.1.2 1 (by simp)).1
                have f2 : w7.cell? ⟨w.heap.size, 2, none⟩ = some (.int .i64 l0) := (B7.out.1.2 2 (by simp)).1
                have f3 : w7.cell? ⟨w.heap.size, 3, none⟩ = some (.int .i64 l1) := (B7.out.1.2 3 (by simp)).1
                have f4 : w7.cell? ⟨w.heap.size, 4, none⟩ = some (.int .i64 n0) := (B7.out.1.2 4 (by simp)).1
                have f5 : w7.cell? ⟨w.heap.size, 5, none⟩ = some (.int .i64 n1) := (B7.out.1.2 5 (by simp)).1
                have f6 : w7.cell? ⟨w.heap.size, 6, none⟩ = some (.bool true) := (B7.out.1.2 6 (by simp)).1
                have f7 : w7.cell? ⟨w.heap.size, 7, none⟩ = some (.bool true) := (B7.out.1.2 7 (by simp)).1
                have f8 : w7.cell? ⟨w.heap.size, 8, none⟩ = some (.int .i64 r0) := (B7.out.1.2 8 (by simp)).1
                have f9 : w7.cell? ⟨w.heap.size, 9, none⟩ = some (.int .i64 r1) := (B7.out.1.2 9 (by simp)).1
                have f10 : w7.cell? ⟨w.heap.size, 10, none⟩ = some (.int .i64 s0) := (B7.out.1.2 10 (by simp)).1
                have f11 : w7.cell? ⟨w.heap.size, 11, none⟩ = some (.int .i64 s1) := (B7.out.1.2 11 (by simp)).1
                have f12 : w7.cell? ⟨w.heap.size, 12, none⟩ = some (.int .i64 e0) := (B7.out.1.2 12 (by simp)).1
                have f13 : w7.cell? ⟨w.heap.size, 13, none⟩ = some (.int .i64 e1) := (B7.out.1.2 13 (by simp)).1
                have g0 : w7.cell? ⟨w.heap.size + 1, 0, none⟩ = some (.int .i64 kind) := (B7.out.2.1.2 0 (by simp)).1
                have g1 : w7.cell? ⟨w.heap.size + 1, 1, none⟩ = some (.string name) := (B7.out.2.1.2 1 (by simp)).1
                have g2 : w7.cell? ⟨w.heap.size + 1, 2, none⟩ = some (.string on) := (B7.out.2.1.2 2 (by simp)).1
                have g3 : w7.cell? ⟨w.heap.size + 1, 3, none⟩ = some (.slice a0 list.length c0) := (B7.out.2.1.2 3 (by simp)).1
                have g4 : w7.cell? ⟨w.heap.size + 1, 4, none⟩ = some (.int .i64 num) := (B7.out.2.1.2 4 (by simp)).1
                have g5 : w7.cell? ⟨w.heap.size + 1, 5, none⟩ = some (.bool flag) := (B7.out.2.1.2 5 (by simp)).1
                have g6 : w7.cell? ⟨w.heap.size + 1, 6, none⟩ = some (.int .i64 ty.kind) := (B7.out.2.1.2 6 (by simp)).1
                have g7 : w7.cell? ⟨w.heap.size + 1, 7, none⟩ = some (.int .i64 ty.len) := (B7.out.2.1.2 7 (by simp)).1
                have g8 : w7.cell? ⟨w.heap.size + 1, 8, none⟩ = some (.string ty.name) := (B7.out.2.1.2 8 (by simp)).1
                have g9 : w7.cell? ⟨w.heap.size + 1, 9, none⟩ = some (.slice a1 cols.length c1) := (B7.out.2.1.2 9 (by simp)).1
                have g10 : w7.cell? ⟨w.heap.size + 1, 10, none⟩ = some (.slice a2 rules.length c2) := (B7.out.2.1.2 10 (by simp)).1
                have g11 : w7.cell? ⟨w.heap.size + 1, 11, none⟩ = some (.slice a3 exprs.length c3) := (B7.out.2.1.2 11 (by simp)).1
                cases h7 : (inI cols.length r0 r1 && cols.all colB) with
                | false =>
                  have HV : Hid (v = false) := by unfold Hid; rw [← HVV.out]; simp only [boolT, (And.intro h0 (And.intro h1 (And.intro h2 (And.intro h4 (And.intro h6 h7)))))]
                  go_wp2_with fail
                  go_ret
                  exact ⟨by rw [HV.out] <;> rfl, B7.out.2.2⟩
                | true =>
                  go_wp2_with fail
                  refine (fitsU a2 c2 rules s0 s1 _ (HK.out _ B7.out.2.2).2.2.1 (HJ.out _ B7.out.2.2) ZR.out _ rfl).mono ?_
                  rintro e w8 ⟨rfl, b8⟩
                  have B8 := Lib.hid (B7.out.call b8)
                  clear b8 f0 f1 f2 f3 f4 f5 f6 f7 f8 f9 f10 f11 f12 f13 g0 g1 g2 g3 g4 g5 g6 g7 g8 g9 g10 g11
                  have f0 : w8.cell? ⟨w.heap.size, 0, none⟩ = some (.string fs) := (B8.out.1.2 0 (by simp)).1
                  have f1 : w8.cell? ⟨w.heap.size, 1, none⟩ = some (.bool fon) := (B8.out.1.2 1 (by simp)).1
                  have f2 : w8.cell? ⟨w.heap.size, 2, none⟩ = some (.int .i64 l0) := (B8.out.1.2 2 (by simp)).1
                  have f3 : w8.cell? ⟨w.heap.size, 3, none⟩ = some (.int .i64 l1) := (B8.out.1.2 3 (by simp)).1
                  have f4 : w8.cell? ⟨w.heap.size, 4, none⟩ = some (.int .i64 n0) := (B8.out.1.2 4 (by simp)).1
                  have f5 : w8.cell? ⟨w.heap.size, 5, none⟩ = some (.int .i64 n1) := (B8.out.1.2 5 (by simp)).1
                  have f6 : w8.cell? ⟨w.heap.size, 6, none⟩ = some (.bool true) := (B8.out.1.2 6 (by simp)).1
                  have f7 : w8.cell? ⟨w.heap.size, 7, none⟩ = some (.bool true) := (B8.out.1.2 7 (by simp)).1
                  have f8 : w8.cell? ⟨w.heap.size, 8, none⟩ = some (.int .i64 r0) := (B8.out.1.2 8 (by simp)).1
                  have f9 : w8.cell? ⟨w.heap.size, 9, none⟩ = some (.int .i64 r1) := (B8.out.1.2 9 (by simp)).1
                  have f10 : w8.cell? ⟨w.heap.size, 10, none⟩ = some (.int .i64 s0) := (B8.out.1.2 10 (by simp)).1
                  have f11 : w8.cell? ⟨w.heap.size, 11, none⟩ = some (.int .i64 s1) := (B8.out.1.2 11 (by simp)).1
                  have f12 : w8.cell? ⟨w.heap.size, 12, none⟩ = some (.int .i64 e0) := (B8.out.1.2 12 (by simp)).1
                  have f13 : w8.cell? ⟨w.heap.size, 13, none⟩ = some (.int .i64 e1) := (B8.out.1.2 13 (by simp)).1
                  have g0 : w8.cell? ⟨w.heap.size + 1, 0, none⟩ = some (.int .i64 kind) := (B8.out.2.1.2 0 (by simp)).1
                  have g1 : w8.cell? ⟨w.heap.size + 1, 1, none⟩ = some (.string name) := (B8.out.2.1.2 1 (by simp)).1
                  have g2 : w8.cell? ⟨w.heap.size + 1, 2, none⟩ = some (.string on) := (B8.out.2.1.2 2 (by simp)).1
                  have g3 : w8.cell? ⟨w.heap.size + 1, 3, none⟩ = some (.slice a0 list.length c0) := (B8.out.2.1.2 3 (by simp)).1
                  have g4 : w8.cell? ⟨w.heap.size + 1, 4, none⟩ = some (.int .i64 num) := (B8.out.2.1.2 4 (by simp)).1
                  have g5 : w8.cell? ⟨w.heap.size + 1, 5, none⟩ = some (.bool flag) := (B8.out.2.1.2 5 (by simp)).1
                  have g6 : w8.cell? ⟨w.heap.size + 1, 6, none⟩ = some (.int .i64 ty.kind) := (B8.out.2.1.2 6 (by simp)).1
                  have g7 : w8.cell? ⟨w.heap.size + 1, 7, none⟩ = some (.int .i64 ty.len) := (B8.out.2.1.2 7 (by simp)).1
                  have g8 : w8.cell? ⟨w.heap.size + 1, 8, none⟩ = some (.string ty.name) := (B8.out.2.1.2 8 (by simp)).1
                  have g9 : w8.cell? ⟨w.heap.size + 1, 9, none⟩ = some (.slice a1 cols.length c1) := (B8.out.2.1.2 9 (by simp)).1
                  have g10 : w8.cell? ⟨w.heap.size + 1, 10, none⟩ = some (.slice a2 rules.length c2) := (B8.out.2.1.2 10 (by simp)).1
                  have g11 : w8.cell? ⟨w.heap.size + 1, 11, none⟩ = some (.slice a3 exprs.length c3) := (B8.out.2.1.2 11 (by simp)).1
                  cases h8 : (inI rules.length s0 s1 && rules.all ruleB) with
                  | false =>
                    have HV : Hid (v = false) := by unfold Hid; rw [← HVV.out]; simp only [boolT, (And.intro h0 (And.intro h1 (And.intro h2 (And.intro h4 (And.intro h6 (And.intro h7 h8))))))]
                    go_wp2_with fail
                    go_ret
                    exact ⟨by rw [HV.out] <;> rfl, B8.out.2.2⟩
                  | true =>
                    go_wp2_with fail
                    obtain ⟨dd, hsx⟩ := (HK.out _ B8.out.2.2).2.2.2.sl
                    refine (fitsX dd a3 c3 exprs e0 e1 _ hsx (HJ.out _ B8.out.2.2).forms ZX.out _ rfl).mono ?_
                    rintro e w9 ⟨rfl, b9⟩
                    have B9 := Lib.hid (B8.out.call b9)
                    clear b9 f0 f1 f2 f3 f4 f5 f6 f7 f8 f9 f10 f11 f12 f13 g0 g1 g2 g3 g4 g5 g6 g7 g8 g9 g10 g11 hsx
                    have f0 : w9.cell? ⟨w.heap.size, 0, none⟩ = some (.string fs) := (B9.out.1.2 0 (by simp)).1
                    have f1 : w9.cell? ⟨w.heap.size, 1, none⟩ = some (.bool fon) := (B9.out.1.2 1 (by simp)).1
                    have f2 : w9.cell? ⟨w.heap.size, 2, none⟩ = some (.int .i64 l0) := (B9.out.1.2 2 (by simp)).1
                    have f3 : w9.cell? ⟨w.heap.size, 3, none⟩ = some (.int .i64 l1) := (B9.out.1.2 3 (by simp)).1
                    have f4 : w9.cell? ⟨w.heap.size, 4, none⟩ = some (.int .i64 n0) := (B9.out.1.2 4 (by simp)).1
                    have f5 : w9.cell? ⟨w.heap.size, 5, none⟩ = some (.int .i64 n1) := (B9.out.1.2 5 (by simp)).1
                    have f6 : w9.cell? ⟨w.heap.size, 6, none⟩ = some (.bool true) := (B9.out.1.2 6 (by simp)).1
                    have f7 : w9.cell? ⟨w.heap.size, 7, none⟩ = some (.bool true) := (B9.out.1.2 7 (by simp)).1
                    have f8 : w9.cell? ⟨w.heap.size, 8, none⟩ = some (.int .i64 r0) := (B9.out.1.2 8 (by simp)).1
                    have f9 : w9.cell? ⟨w.heap.size, 9, none⟩ = some (.int .i64 r1) := (B9.out.1.2 9 (by simp)).1
                    have f10 : w9.cell? ⟨w.heap.size, 10, none⟩ = some (.int .i64 s0) := (B9.out.1.2 10 (by simp)).1
                    have f11 : w9.cell? ⟨w.heap.size, 11, none⟩ = some (.int .i64 s1) := (B9.out.1.2 11 (by simp)).1
                    have f12 : w9.cell? ⟨w.heap.size, 12, none⟩ = some (.int .i64 e0) := (B9.out.1.2 12 (by simp)).1
                    have f13 : w9.cell? ⟨w.heap.size, 13, none⟩ = some (.int .i64 e1) := (B9.out.1.2 13 (by simp)).1
                    have g0 : w9.cell? ⟨w.heap.size + 1, 0, none⟩ = some (.int .i64 kind) := (B9.out.2.1.2 0 (by simp)).1
                    have g1 : w9.cell? ⟨w.heap.size + 1, 1, none⟩ = some (.string name) := (B9.out.2.1.2 1 (by simp)).1
                    have g2 : w9.cell? ⟨w.heap.size + 1, 2, none⟩ = some (.string on) := (B9.out.2.1.2 2 (by simp)).1
                    have g3 : w9.cell? ⟨w.heap.size + 1, 3, none⟩ = some (.slice a0 list.length c0) := (B9.out.2.1.2 3 (by simp)).1
                    have g4 : w9.cell? ⟨w.heap.size + 1, 4, none⟩ = some (.int .i64 num) := (B9.out.2.1.2 4 (by simp)).1
                    have g5 : w9.cell? ⟨w.heap.size + 1, 5, none⟩ = some (.bool flag) := (B9.out.2.1.2 5 (by simp)).1
                    have g6 : w9.cell? ⟨w.heap.size + 1, 6, none⟩ = some (.int .i64 ty.kind) := (B9.out.2.1.2 6 (by simp)).1
                    have g7 : w9.cell? ⟨w.heap.size + 1, 7, none⟩ = some (.int .i64 ty.len) := (B9.out.2.1.2 7 (by simp)).1
                    have g8 : w9.cell? ⟨w.heap.size + 1, 8, none⟩ = some (.string ty.name) := (B9.out.2.1.2 8 (by simp)).1
                    have g9 : w9.cell? ⟨w.heap.size + 1, 9, none⟩ = some (.slice a1 cols.length c1) := (B9.out.2.1.2 9 (by simp)).1
                    have g10 : w9.cell? ⟨w.heap.size + 1, 10, none⟩ = some (.slice a2 rules.length c2) := (B9.out.2.1.2 10 (by simp)).1
                    have g11 : w9.cell? ⟨w.heap.size + 1, 11, none⟩ = some (.slice a3 exprs.length c3) := (B9.out.2.1.2 11 (by simp)).1
                    cases h9 : (inI exprs.length e0 e1 && exprs.all okX) with
                    | false =>
                      have HV : Hid (v = false) := by unfold Hid; rw [← HVV.out]; simp only [boolT, (And.intro h0 (And.intro h1 (And.intro h2 (And.intro h4 (And.intro h6 (And.intro h7 (And.intro h8 h9)))))))]
                      go_wp2_with fail
                      go_ret
                      exact ⟨by rw [HV.out] <;> rfl, B9.out.2.2⟩
                    | true =>
                      have HV : Hid (v = true) := by unfold Hid; rw [← HVV.out]; simp only [boolT, (And.intro h0 (And.intro h1 (And.intro h2 (And.intro h4 (And.intro h6 (And.intro h7 (And.intro h8 h9)))))))]
                      go_wp2_with fail
                      go_ret
                      exact ⟨by rw [HV.out] <;> rfl, B9.out.2.2⟩
            | false =>
              cases ht : ty0 ty with
              | false =>
                have HV : Hid (v = false) := by unfold Hid; rw [← HVV.out]; simp only [boolT, (And.intro h0 (And.intro h1 (And.intro h2 (And.intro h4 ht))))]
                go_wp2_with fail
                go_ret
                exact ⟨by rw [HV.out] <;> rfl, B4.out.2.2⟩
              | true =>
                go_wp2_with fail
                refine (fitsN a0 c0 list l0 l1 _ (HK.out _ B4.out.2.2).1.sl trivial (fun _ _ => trivial) _ rfl).mono ?_
                rintro e w6 ⟨rfl, b6⟩
                have B6 := Lib.hid (B4.out.call b6)
                clear b6 f0 f1 f2 f3 f4 f5 f6 f7 f8 f9 f10 f11 f12 f13 g0 g1 g2 g3 g4 g5 g6 g7 g8 g9 g10 g11
                have f0 : w6.cell? ⟨w.heap.size, 0, none⟩ = some (.string fs) := (B6.out.1.2 0 (by simp)).1
                have f1 : w6.cell? ⟨w.heap.size, 1, none⟩ = some (.bool fon) := (B6.out.1.2 1 (by simp)).1
                have f2 : w6.cell? ⟨w.heap.size, 2, none⟩ = some (.int .i64 l0) := (B6.out.1.2 2 (by simp)).1
                have f3 : w6.cell? ⟨w.heap.size, 3, none⟩ = some (.int .i64 l1) := (B6.out.1.2 3 (by simp)).1
                have f4 : w6.cell? ⟨w.heap.size, 4, none⟩ = some (.int .i64 n0) := (B6.out.1.2 4 (by simp)).1
                have f5 : w6.cell? ⟨w.heap.size, 5, none⟩ = some (.int .i64 n1) := (B6.out.1.2 5 (by simp)).1
                have f6 : w6.cell? ⟨w.heap.size, 6, none⟩ = some (.bool true) := (B6.out.1.2 6 (by simp)).1
                have f7 : w6.cell? ⟨w.heap.size, 7, none⟩ = some (.bool false) := (B6.out.1.2 7 (by simp)).1
                have f8 : w6.cell? ⟨w.heap.size, 8, none⟩ = some (.int .i64 r0) := (B6.out.1.2 8 (by simp)).1
                have f9 : w6.cell? ⟨w.heap.size, 9, none⟩ = some (.int .i64 r1) := (B6.out.1.2 9 (by simp)).1
                have f10 : w6.cell? ⟨w.heap.size, 10, none⟩ = some (.int .i64 s0) := (B6.out.1.2 10 (by simp)).1
                have f11 : w6.cell? ⟨w.heap.size, 11, none⟩ = some (.int .i64 s1) := (B6.out.1.2 11 (by simp)).1
                have f12 : w6.cell? ⟨w.heap.size, 12, none⟩ = some (.int .i64 e0) := (B6.out.1.2 12 (by simp)).1
                have f13 : w6.cell? ⟨w.heap.size, 13, none⟩ = some (.int .i64 e1) := (B6.out.1.2 13 (by simp)).1
                have g0 : w6.cell? ⟨w.heap.size + 1, 0, none⟩ = some (.int .i64 kind) := (B6.out.2.1.2 0 (by simp)).1
                have g1 : w6.cell? ⟨w.heap.size + 1, 1, none⟩ = some (.string name) := (B6.out.2.1.2 1 (by simp)).1
                have g2 : w6.cell? ⟨w.heap.size + 1, 2, none⟩ = some (.string on) := (B6.out.2.1.2 2 (by simp)).1
                have g3 : w6.cell? ⟨w.heap.size + 1, 3, none⟩ = some (.slice a0 list.length c0) := (B6.out.2.1.2 3 (by simp)).1
                have g4 : w6.cell? ⟨w.heap.size + 1, 4, none⟩ = some (.int .i64 num) := (B6.out.2.1.2 4 (by simp)).1
                have g5 : w6.cell? ⟨w.heap.size + 1, 5, none⟩ = some (.bool flag) := (B6.out.2.1.2 5 (by simp)).1
                have g6 : w6.cell? ⟨w.heap.size + 1, 6, none⟩ = some (.int .i64 ty.kind) := (B6.out.2.1.2 6 (by simp)).1
                have g7 : w6.cell? ⟨w.heap.size + 1, 7, none⟩ = some (.int .i64 ty.len) := (B6.out.2.1.2 7 (by simp)).1
                have g8 : w6.cell? ⟨w.heap.size + 1, 8, none⟩ = some (.string ty.name) := (B6.out.2.1.2 8 (by simp)).1
                have g9 : w6.cell? ⟨w.heap.size + 1, 9, none⟩ = some (.slice a1 cols.length c1) := (B6.out.2.1.2 9 (by simp)).1
                have g10 : w6.cell? ⟨w.heap.size + 1, 10, none⟩ = some (.slice a2 rules.length c2) := (B6.out.2.1.2 10 (by simp)).1
                have g11 : w6.cell? ⟨w.heap.size + 1, 11, none⟩ = some (.slice a3 exprs.length c3) := (B6.out.2.1.2 11 (by simp)).1
                cases h6 : (inI list.length l0 l1 && list.all nmB) with
                | false =>
                  have HV : Hid (v = false) := by unfold Hid; rw [← HVV.out]; simp only [boolT, (And.intro h0 (And.intro h1 (And.intro h2 (And.intro h4 (And.intro ht h6)))))]
                  go_wp2_with fail
                  go_ret
                  exact ⟨by rw [HV.out] <;> rfl, B6.out.2.2⟩
                | true =>
                  go_wp2_with fail
                  refine (fitsC a1 c1 cols r0 r1 _ (HK.out _ B6.out.2.2).2.1 (HJ.out _ B6.out.2.2).forms ZC.out _ rfl).mono ?_
                  rintro e w7 ⟨rfl, b7⟩
                  have B7 := Lib.hid (B6.out.call b7)
                  clear b7 f0 f1 f2 f3 f4 f5 f6 f7 f8 f9 f10 f11 f12 f13 g0 g1 g2 g3 g4 g5 g6 g7 g8 g9 g10 g11
                  have f0 : w7.cell? ⟨w.heap.size, 0, none⟩ = some (.string fs) := (B7.out.1.2 0 (by simp)).1
                  have f1 : w7.cell? ⟨w.heap.size, 1, none⟩ = some (.bool fon) := (B7.out.1.2 1 (by simp)).1
                  have f2 : w7.cell? ⟨w.heap.size, 2, none⟩ = some (.int .i64 l0) := (B7.out.1.2 2 (by simp)).1
                  have f3 : w7.cell? ⟨w.heap.size, 3, none⟩ = some (.int .i64 l1) := (B7.out.1.2 3 (by simp)).1
                  have f4 : w7.cell? ⟨w.heap.size, 4, none⟩ = some (.int .i64 n0) := (B7.out.1.2 4 (by simp)).1
                  have f5 : w7.cell? ⟨w.heap.size, 5, none⟩ = some (.int .i64 n1) := (B7.out.1.2 5 (by simp)).1
                  have f6 : w7.cell? ⟨w.heap.size, 6, none⟩ = some (.bool true) := (B7.out.1.2 6 (by simp)).1
                  have f7 : w7.cell? ⟨w.heap.size, 7, none⟩ = some (.bool false) := (B7.out.1.2 7 (by simp)).1
                  have f8 : w7.cell? ⟨w.heap.size, 8, none⟩ = some (.int .i64 r0) := (B7.out.1.2 8 (by simp)).1
                  have f9 : w7.cell? ⟨w.heap.size, 9, none⟩ = some (.int .i64 r1) := (B7.out.1.2 9 (by simp)).1
                  have f10 : w7.cell? ⟨w.heap.size, 10, none⟩ = some (.int .i64 s0) := (B7.out.1.2 10 (by simp)).1
                  have f11 : w7.cell? ⟨w.heap.size, 11, none⟩ = some (.int .i64 s1) := (B7.out.1.2 11 (by simp)).1
                  have f12 : w7.cell? ⟨w.heap.size, 12, none⟩ = some (.int .i64 e0) := (B7.out.1.2 12 (by simp)).1
                  have f13 : w7.cell? ⟨w.heap.size, 13, none⟩ = some (.int .i64 e1) := (B7.out.1.2 13 (by simp)).1
                  have g0 : w7.cell? ⟨w.heap.size + 1, 0, none⟩ = some (.int .i64 kind) := (B7.out.2.1.2 0 (by simp)).1
                  have g1 : w7.cell? ⟨w.heap.size + 1, 1, none⟩ = some (.string name) := (B7.out.2.1.2 1 (by simp)).1
                  have g2 : w7.cell? ⟨w.heap.size + 1, 2, none⟩ = some (.string on) := (B7.out.2.1.2 2 (by simp)).1
                  have g3 : w7.cell? ⟨w.heap.size + 1, 3, none⟩ = some (.slice a0 list.length c0) := (B7.out.2.1.2 3 (by simp)).1
                  have g4 : w7.cell? ⟨w.heap.size + 1, 4, none⟩ = some (.int .i64 num) := (B7.out.2.1.2 4 (by simp)).1
                  have g5 : w7.cell? ⟨w.heap.size + 1, 5, none⟩ = some (.bool flag) := (B7.out.2.1.2 5 (by simp)).1
                  have g6 : w7.cell? ⟨w.heap.size + 1, 6, none⟩ = some (.int .i64 ty.kind) := (B7.out.2.1.2 6 (by simp)).1
                  have g7 : w7.cell? ⟨w.heap.size + 1, 7, none⟩ = some (.int .i64 ty.len) := (B7.out.2.1.2 7 (by simp)).1
                  have g8 : w7.cell? ⟨w.heap.size + 1, 8, none⟩ = some (.string ty.name) := (B7.out.2.1.2 8 (by simp)).1
                  have g9 : w7.cell? ⟨w.heap.size + 1, 9, none⟩ = some (.slice a1 cols.length c1) := (B7.out.2.1.2 9 (by simp)).1
                  have g10 : w7.cell? ⟨w.heap.size + 1, 10, none⟩ = some (.slice a2 rules.length c2) := (B7.out.2.1.2 10 (by simp)).1
                  have g11 : w7.cell? ⟨w.heap.size + 1, 11, none⟩ = some (.slice a3 exprs.length c3) := (B7.out.2.1.2 11 (by simp)).1
                  cases h7 : (inI cols.length r0 r1 && cols.all colB) with
                  | false =>
                    have HV : Hid (v = false) := by unfold Hid; rw [← HVV.out]; simp only [boolT, (And.intro h0 (And.intro h1 (And.intro h2 (And.intro h4 (And.intro ht (And.intro h6 h7))))))]
                    go_wp2_with fail
                    go_ret
                    exact ⟨by rw [HV.out] <;> rfl, B7.out.2.2⟩
                  | true =>
                    go_wp2_with fail
                    refine (fitsU a2 c2 rules s0 s1 _ (HK.out _ B7.out.2.2).2.2.1 (HJ.out _ B7.out.2.2) ZR.out _ rfl).mono ?_
                    rintro e w8 ⟨rfl, b8⟩
                    have B8 := Lib.hid (B7.out.call b8)
                    clear b8 f0 f1 f2 f3 f4 f5 f6 f7 f8 f9 f10 f11 f12 f13 g0 g1 g2 g3 g4 g5 g6 g7 g8 g9 g10 g11
                    have f0 : w8.cell? ⟨w.heap.size, 0, none⟩ = some (.string fs) := (B8.out.1.2 0 (by simp)).1
                    have f1 : w8.cell? ⟨w.heap.size, 1, none⟩ = some (.bool fon) := (B8.out.1.2 1 (by simp)).1
                    have f2 : w8.cell? ⟨w.heap.size, 2, none⟩ = some (.int .i64 l0) := (B8.out.1.2 2 (by simp)).1
                    have f3 : w8.cell? ⟨w.heap.size, 3, none⟩ = some (.int .i64 l1) := (B8.out.1.2 3 (by simp)).1
                    have f4 : w8.cell? ⟨w.heap.size, 4, none⟩ = some (.int .i64 n0) := (B8.out.1.2 4 (by simp)).1
                    have f5 : w8.cell? ⟨w.heap.size, 5, none⟩ = some (.int .i64 n1) := (B8.out.1.2 5 (by simp)).1
                    have f6 : w8.cell? ⟨w.heap.size, 6, none⟩ = some (.bool true) := (B8.out.1.2 6 (by simp)).1
                    have f7 : w8.cell? ⟨w.heap.size, 7, none⟩ = some (.bool false) := (B8.out.1.2 7 (by simp)).1
                    have f8 : w8.cell? ⟨w.heap.size, 8, none⟩ = some (.int .i64 r0) := (B8.out.1.2 8 (by simp)).1
                    have f9 : w8.cell? ⟨w.heap.size, 9, none⟩ = some (.int .i64 r1) := (B8.out.1.2 9 (by simp)).1
                    have f10 : w8.cell? ⟨w.heap.size, 10, none⟩ = some (.int .i64 s0) := (B8.out.1.2 10 (by simp)).1
                    have f11 : w8.cell? ⟨w.heap.size, 11, none⟩ = some (.int .i64 s1) := (B8.out.1.2 11 (by simp)).1
                    have f12 : w8.cell? ⟨w.heap.size, 12, none⟩ = some (.int .i64 e0) := (B8.out.1.2 12 (by simp)).1
                    have f13 : w8.cell? ⟨w.heap.size, 13, none⟩ = some (.int .i64 e1) := (B8.out.1.2 13 (by simp)).1
                    have g0 : w8.cell? ⟨w.heap.size + 1, 0, none⟩ = some (.int .i64 kind) := (B8.out.2.1.2 0 (by simp)).1
                    have g1 : w8.cell? ⟨w.heap.size + 1, 1, none⟩ = some (.string name) := (B8.out.2.1.2 1 (by simp)).1
                    have g2 : w8.cell? ⟨w.heap.size + 1, 2, none⟩ = some (.string on) := (B8.out.2.1.2 2 (by simp)).1
                    have g3 : w8.cell? ⟨w.heap.size + 1, 3, none⟩ = some (.slice a0 list.length c0) := (B8.out.2.1.2 3 (by simp)).1
                    have g4 : w8.cell? ⟨w.heap.size + 1, 4, none⟩ = some (.int .i64 num) := (B8.out.2.1.2 4 (by simp)).1
                    have g5 : w8.cell? ⟨w.heap.size + 1, 5, none⟩ = some (.bool flag) := (B8.out.2.1.2 5 (by simp)).1
                    have g6 : w8.cell? ⟨w.heap.size + 1, 6, none⟩ = some (.int .i64 ty.kind) := (B8.out.2.1.2 6 (by simp)).1
                    have g7 : w8.cell? ⟨w.heap.size + 1, 7, none⟩ = some (.int .i64 ty.len) := (B8.out.2.1.2 7 (by simp)).1
                    have g8 : w8.cell? ⟨w.heap.size + 1, 8, none⟩ = some (.string ty.name) := (B8.out.2.1.2 8 (by simp)).1
                    have g9 : w8.cell? ⟨w.heap.size + 1, 9, none⟩ = some (.slice a1 cols.length c1) := (B8.out.2.1.2 9 (by simp)).1
                    have g10 : w8.cell? ⟨w.heap.size + 1, 10, none⟩ = some (.slice a2 rules.length c2) := (B8.out.2.1.2 10 (by simp)).1
                    have g11 : w8.cell? ⟨w.heap.size + 1, 11, none⟩ = some (.slice a3 exprs.length c3) := (B8.out.2.1.2 11 (by simp)).1
                    cases h8 : (inI rules.length s0 s1 && rules.all ruleB) with
                    | false =>
                      have HV : Hid (v = false) := by unfold Hid; rw [← HVV.out]; simp only [boolT, (And.intro h0 (And.intro h1 (And.intro h2 (And.intro h4 (And.intro ht (And.intro h6 (And.intro h7 h8)))))))]
                      go_wp2_with fail
                      go_ret
                      exact ⟨by rw [HV.out] <;> rfl, B8.out.2.2⟩
                    | true =>
                      go_wp2_with fail
                      obtain ⟨dd, hsx⟩ := (HK.out _ B8.out.2.2).2.2.2.sl
                      refine (fitsX dd a3 c3 exprs e0 e1 _ hsx (HJ.out _ B8.out.2.2).forms ZX.out _ rfl).mono ?_
                      rintro e w9 ⟨rfl, b9⟩
                      have B9 := Lib.hid (B8.out.call b9)
                      clear b9 f0 f1 f2 f3 f4 f5 f6 f7 f8 f9 f10 f11 f12 f13 g0 g1 g2 g3 g4 g5 g6 g7 g8 g9 g10 g11 hsx
                      have f0 : w9.cell? ⟨w.heap.size, 0, none⟩ = some (.string fs) := (B9.out.1.2 0 (by simp)).1
                      have f1 : w9.cell? ⟨w.heap.size, 1, none⟩ = some (.bool fon) := (B9.out.1.2 1 (by simp)).1
                      have f2 : w9.cell? ⟨w.heap.size, 2, none⟩ = some (.int .i64 l0) := (B9.out.1.2 2 (by simp)).1
                      have f3 : w9.cell? ⟨w.heap.size, 3, none⟩ = some (.int .i64 l1) := (B9.out.1.2 3 (by simp)).1
                      have f4 : w9.cell? ⟨w.heap.size, 4, none⟩ = some (.int .i64 n0) := (B9.out.1.2 4 (by simp)).1
                      have f5 : w9.cell? ⟨w.heap.size, 5, none⟩ = some (.int .i64 n1) := (B9.out.1.2 5 (by simp)).1
                      have f6 : w9.cell? ⟨w.heap.size, 6, none⟩ = some (.bool true) := (B9.out.1.2 6 (by simp)).1
                      have f7 : w9.cell? ⟨w.heap.size, 7, none⟩ = some (.bool false) := (B9.out.1.2 7 (by simp)).1
                      have f8 : w9.cell? ⟨w.heap.size, 8, none⟩ = some (.int .i64 r0) := (B9.out.1.2 8 (by simp)).1
                      have f9 : w9.cell? ⟨w.heap.size, 9, none⟩ = some (.int .i64 r1) := (B9.out.1.2 9 (by simp)).1
                      have f10 : w9.cell? ⟨w.heap.size, 10, none⟩ = some (.int .i64 s0) := (B9.out.1.2 10 (by simp)).1
                      have f11 : w9.cell? ⟨w.heap.size, 11, none⟩ = some (.int .i64 s1) := (B9.out.1.2 11 (by simp)).1
                      have f12 : w9.cell? ⟨w.heap.size, 12, none⟩ = some (.int .i64 e0) := (B9.out.1.2 12 (by simp)).1
                      have f13 : w9.cell? ⟨w.heap.size, 13, none⟩ = some (.int .i64 e1) := (B9.out.1.2 13 (by simp)).1
                      have g0 : w9.cell? ⟨w.heap.size + 1, 0, none⟩ = some (.int .i64 kind) := (B9.out.2.1.2 0 (by simp)).1
                      have g1 : w9.cell? ⟨w.heap.size + 1, 1, none⟩ = some (.string name) := (B9.out.2.1.2 1 (by simp)).1
                      have g2 : w9.cell? ⟨w.heap.size + 1, 2, none⟩ = some (.string on) := (B9.out.2.1.2 2 (by simp)).1
                      have g3 : w9.cell? ⟨w.heap.size + 1, 3, none⟩ = some (.slice a0 list.length c0) := (B9.out.2.1.2 3 (by simp)).1
                      have g4 : w9.cell? ⟨w.heap.size + 1, 4, none⟩ = some (.int .i64 num) := (B9.out.2.1.2 4 (by simp)).1
                      have g5 : w9.cell? ⟨w.heap.size + 1, 5, none⟩ = some (.bool flag) := (B9.out.2.1.2 5 (by simp)).1
                      have g6 : w9.cell? ⟨w.heap.size + 1, 6, none⟩ = some (.int .i64 ty.kind) := (B9.out.2.1.2 6 (by simp)).1
                      have g7 : w9.cell? ⟨w.heap.size + 1, 7, none⟩ = some (.int .i64 ty.len) := (B9.out.2.1.2 7 (by simp)).1
                      have g8 : w9.cell? ⟨w.heap.size + 1, 8, none⟩ = some (.string ty.name) := (B9.out.2.1.2 8 (by simp)).1
                      have g9 : w9.cell? ⟨w.heap.size + 1, 9, none⟩ = some (.slice a1 cols.length c1) := (B9.out.2.1.2 9 (by simp)).1
                      have g10 : w9.cell? ⟨w.heap.size + 1, 10, none⟩ = some (.slice a2 rules.length c2) := (B9.out.2.1.2 10 (by simp)).1
                      have g11 : w9.cell? ⟨w.heap.size + 1, 11, none⟩ = some (.slice a3 exprs.length c3) := (B9.out.2.1.2 11 (by simp)).1
                      cases h9 : (inI exprs.length e0 e1 && exprs.all okX) with
                      | false =>
                        have HV : Hid (v = false) := by unfold Hid; rw [← HVV.out]; simp only [boolT, (And.intro h0 (And.intro h1 (And.intro h2 (And.intro h4 (And.intro ht (And.intro h6 (And.intro h7 (And.intro h8 h9))))))))]
                        go_wp2_with fail
                        go_ret
                        exact ⟨by rw [HV.out] <;> rfl, B9.out.2.2⟩
                      | true =>
                        have HV : Hid (v = true) := by unfold Hid; rw [← HVV.out]; simp only [boolT, (And.intro h0 (And.intro h1 (And.intro h2 (And.intro h4 (And.intro ht (And.intro h6 (And.intro h7 (And.intro h8 h9))))))))]
                        go_wp2_with fail
                        go_ret
                        exact ⟨by rw [HV.out] <;> rfl, B9.out.2.2⟩
        | false =>
          cases flag with
          | true =>
            have HV : Hid (v = false) := by unfold Hid; rw [← HVV.out]; simp only [boolT, (And.intro h0 (And.intro h1 h2))]
            go_wp2_with fail
            go_ret
            exact ⟨by rw [HV.out] <;> rfl, B2.out.2.2⟩
          | false =>
            go_wp2_with fail
            refine (implTypeOk ty.kind ty.len ty.name _ HN.out _ rfl).mono ?_
            rintro e w4 ⟨rfl, b4⟩
            have B4 := Lib.hid (B2.out.call b4)
            clear b4 f0 f1 f2 f3 f4 f5 f6 f7 f8 f9 f10 f11 f12 f13 g0 g1 g2 g3 g4 g5 g6 g7 g8 g9 g10 g11
            have f0 : w4.cell? ⟨w.heap.size, 0, none⟩ = some (.string fs) := (B4.out.1.2 0 (by simp)).1
            have f1 : w4.cell? ⟨w.heap.size, 1, none⟩ = some (.bool fon) := (B4.out.1.2 1 (by simp)).1
            have f2 : w4.cell? ⟨w.heap.size, 2, none⟩ = some (.int .i64 l0) := (B4.out.1.2 2 (by simp)).1
            have f3 : w4.cell? ⟨w.heap.size, 3, none⟩ = some (.int .i64 l1) := (B4.out.1.2 3 (by simp)).1
            have f4 : w4.cell? ⟨w.heap.size, 4, none⟩ = some (.int .i64 n0) := (B4.out.1.2 4 (by simp)).1
            have f5 : w4.cell? ⟨w.heap.size, 5, none⟩ = some (.int .i64 n1) := (B4.out.1.2 5 (by simp)).1
            have f6 : w4.cell? ⟨w.heap.size, 6, none⟩ = some (.bool false) := (B4.out.1.2 6 (by simp)).1
            have f7 : w4.cell? ⟨w.heap.size, 7, none⟩ = some (.bool ftyped) := (B4.out.1.2 7 (by simp)).1
            have f8 : w4.cell? ⟨w.heap.size, 8, none⟩ = some (.int .i64 r0) := (B4.out.1.2 8 (by simp)).1
            have f9 : w4.cell? ⟨w.heap.size, 9, none⟩ = some (.int .i64 r1) := (B4.out.1.2 9 (by simp)).1
            have f10 : w4.cell? ⟨w.heap.size, 10, none⟩ = some (.int .i64 s0) := (B4.out.1.2 10 (by simp)).1
            have f11 : w4.cell? ⟨w.heap.size, 11, none⟩ = some (.int .i64 s1) := (B4.out.1.2 11 (by simp)).1
            have f12 : w4.cell? ⟨w.heap.size, 12, none⟩ = some (.int .i64 e0) := (B4.out.1.2 12 (by simp)).1
            have f13 : w4.cell? ⟨w.heap.size, 13, none⟩ = some (.int .i64 e1) := (B4.out.1.2 13 (by simp)).1
            have g0 : w4.cell? ⟨w.heap.size + 1, 0, none⟩ = some (.int .i64 kind) := (B4.out.2.1.2 0 (by simp)).1
            have g1 : w4.cell? ⟨w.heap.size + 1, 1, none⟩ = some (.string name) := (B4.out.2.1.2 1 (by simp)).1
            have g2 : w4.cell? ⟨w.heap.size + 1, 2, none⟩ = some (.string on) := (B4.out.2.1.2 2 (by simp)).1
            have g3 : w4.cell? ⟨w.heap.size + 1, 3, none⟩ = some (.slice a0 list.length c0) := (B4.out.2.1.2 3 (by simp)).1
            have g4 : w4.cell? ⟨w.heap.size + 1, 4, none⟩ = some (.int .i64 num) := (B4.out.2.1.2 4 (by simp)).1
            have g5 : w4.cell? ⟨w.heap.size + 1, 5, none⟩ = some (.bool false) := (B4.out.2.1.2 5 (by simp)).1
            have g6 : w4.cell? ⟨w.heap.size + 1, 6, none⟩ = some (.int .i64 ty.kind) := (B4.out.2.1.2 6 (by simp)).1
            have g7 : w4.cell? ⟨w.heap.size + 1, 7, none⟩ = some (.int .i64 ty.len) := (B4.out.2.1.2 7 (by simp)).1
            have g8 : w4.cell? ⟨w.heap.size + 1, 8, none⟩ = some (.string ty.name) := (B4.out.2.1.2 8 (by simp)).1
            have g9 : w4.cell? ⟨w.heap.size + 1, 9, none⟩ = some (.slice a1 cols.length c1) := (B4.out.2.1.2 9 (by simp)).1
            have g10 : w4.cell? ⟨w.heap.size + 1, 10, none⟩ = some (.slice a2 rules.length c2) := (B4.out.2.1.2 10 (by simp)).1
            have g11 : w4.cell? ⟨w.heap.size + 1, 11, none⟩ = some (.slice a3 exprs.length c3) := (B4.out.2.1.2 11 (by simp)).1
            cases h4 : typeOkB ty.kind ty.len ty.name with
            | false =>
              have HV : Hid (v = false) := by unfold Hid; rw [← HVV.out]; simp only [boolT, (And.intro h0 (And.intro h1 (And.intro h2 h4)))]
              go_wp2_with fail
              go_ret
              exact ⟨by rw [HV.out] <;> rfl, B4.out.2.2⟩
            | true =>
              cases ftyped with
              | true =>
                go_wp2_with fail
                refine (fitsN a0 c0 list l0 l1 _ (HK.out _ B4.out.2.2).1.sl trivial (fun _ _ => trivial) _ rfl).mono ?_
                rintro e w6 ⟨rfl, b6⟩
                have B6 := Lib.hid (B4.out.call b6)
                clear b6 f0 f1 f2 f3 f4 f5 f6 f7 f8 f9 f10 f11 f12 f13 g0 g1 g2 g3 g4 g5 g6 g7 g8 g9 g10 g11
                have f0 : w6.cell? ⟨w.heap.size, 0, none⟩ = some (.string fs) := (B6.out.1.2 0 (by simp)).1
                have f1 : w6.cell? ⟨w.heap.size, 1, none⟩ = some (.bool fon) := (B6.out.1.2 1 (by simp)).1
                have f2 : w6.cell? ⟨w.heap.size, 2, none⟩ = some (.int .i64 l0) := (B6.out.1.2 2 (by simp)).1
                have f3 : w6.cell? ⟨w.heap.size, 3, none⟩ = some (.int .i64 l1) := (B6.out.1.2 3 (by simp)).1
                have f4 : w6.cell? ⟨w.heap.size, 4, none⟩ = some (.int .i64 n0) := (B6.out.1.2 4 (by simp)).1
                have f5 : w6.cell? ⟨w.heap.size, 5, none⟩ = some (.int .i64 n1) := (B6.out.1.2 5 (by simp)).1
                have f6 : w6.cell? ⟨w.heap.size, 6, none⟩ = some (.bool false) := (B6.out.1.2 6 (by simp)).1
                have f7 : w6.cell? ⟨w.heap.size, 7, none⟩ = some (.bool true) := (B6.out.1.2 7 (by simp)).1
                have f8 : w6.cell? ⟨w.heap.size, 8, none⟩ = some (.int .i64 r0) := (B6.out.1.2 8 (by simp)).1
                have f9 : w6.cell? ⟨w.heap.size, 9, none⟩ = some (.int .i64 r1) := (B6.out.1.2 9 (by simp)).1
                have f10 : w6.cell? ⟨w.heap.size, 10, none⟩ = some (.int .i64 s0) := (B6.out.1.2 10 (by simp)).1
                have f11 : w6.cell? ⟨w.heap.size, 11, none⟩ = some (.int .i64 s1) := (B6.out.1.2 11 (by simp)).1
                have f12 : w6.cell? ⟨w.heap.size, 12, none⟩ = some (.int .i64 e0) := (B6.out.1.2 12 (by simp)).1
                have f13 : w6.cell? ⟨w.heap.size, 13, none⟩ = some (.int .i64 e1) := (B6.out.1.2 13 (by simp)).1
                have g0 : w6.cell? ⟨w.heap.size + 1, 0, none⟩ = some (.int .i64 kind) := (B6.out.2.1.2 0 (by simp)).1
                have g1 : w6.cell? ⟨w.heap.size + 1, 1, none⟩ = some (.string name) := (B6.out.2.1.2 1 (by simp)).1
                have g2 : w6.cell? ⟨w.heap.size + 1, 2, none⟩ = some (.string on) := (B6.out.2.1.2 2 (by simp)).1
                have g3 : w6.cell? ⟨w.heap.size + 1, 3, none⟩ = some (.slice a0 list.length c0) := (B6.out.2.1.2 3 (by simp)).1
                have g4 : w6.cell? ⟨w.heap.size + 1, 4, none⟩ = some (.int .i64 num) := (B6.out.2.1.2 4 (by simp)).1
                have g5 : w6.cell? ⟨w.heap.size + 1, 5, none⟩ = some (.bool false) := (B6.out.2.1.2 5 (by simp)).1
                have g6 : w6.cell? ⟨w.heap.size + 1, 6, none⟩ = some (.int .i64 ty.kind) := (B6.out.2.1.2 6 (by simp)).1
                have g7 : w6.cell? ⟨w.heap.size + 1, 7, none⟩ = some (.int .i64 ty.len) := (B6.out.2.1.2 7 (by simp)).1
                have g8 : w6.cell? ⟨w.heap.size + 1, 8, none⟩ = some (.string ty.name) := (B6.out.2.1.2 8 (by simp)).1
                have g9 : w6.cell? ⟨w.heap.size + 1, 9, none⟩ = some (.slice a1 cols.length c1) := (B6.out.2.1.2 9 (by simp)).1
                have g10 : w6.cell? ⟨w.heap.size + 1, 10, none⟩ = some (.slice a2 rules.length c2) := (B6.out.2.1.2 10 (by simp)).1
                have g11 : w6.cell? ⟨w.heap.size + 1, 11, none⟩ = some (.slice a3 exprs.length c3) := (B6.out.2.1.2 11 (by simp)).1
                cases h6 : (inI list.length l0 l1 && list.all nmB) with
                | false =>
                  have HV : Hid (v = false) := by unfold Hid; rw [← HVV.out]; simp only [boolT, (And.intro h0 (And.intro h1 (And.intro h2 (And.intro h4 h6))))]
                  go_wp2_with fail
                  go_ret
                  exact ⟨by rw [HV.out] <;> rfl, B6.out.2.2⟩
                | true =>
                  go_wp2_with fail
                  refine (fitsC a1 c1 cols r0 r1 _ (HK.out _ B6.out.2.2).2.1 (HJ.out _ B6.out.2.2).forms ZC.out _ rfl).mono ?_
                  rintro e w7 ⟨rfl, b7⟩
                  have B7 := Lib.hid (B6.out.call b7)
                  clear b7 f0 f1 f2 f3 f4 f5 f6 f7 f8 f9 f10 f11 f12 f13 g0 g1 g2 g3 g4 g5 g6 g7 g8 g9 g10 g11
                  have f0 : w7.cell? ⟨w.heap.size, 0, none⟩ = some (.string fs) := (B7.out.1.2 0 (by simp)).1
                  have f1 : w7.cell? ⟨w.heap.size, 1, none⟩ = some (.bool fon) := (B7.out.1.2 1 (by simp)).1
                  have f2 : w7.cell? ⟨w.heap.size, 2, none⟩ = some (.int .i64 l0) := (B7.out.1.2 2 (by simp)).1
                  have f3 : w7.cell? ⟨w.heap.size, 3, none⟩ = some (.int .i64 l1) := (B7.out.1.2 3 (by simp)).1
                  have f4 : w7.cell? ⟨w.heap.size, 4, none⟩ = some (.int .i64 n0) := (B7.out.1.2 4 (by simp)).1
                  have f5 : w7.cell? ⟨w.heap.size, 5, none⟩ = some (.int .i64 n1) := (B7.out.1.2 5 (by simp)).1
                  have f6 : w7.cell? ⟨w.heap.size, 6, none⟩ = some (.bool false) := (B7.out.1.2 6 (by simp)).1
                  have f7 : w7.cell? ⟨w.heap.size, 7, none⟩ = some (.bool true) := (B7.out.1.2 7 (by simp)).1
                  have f8 : w7.cell? ⟨w.heap.size, 8, none⟩ = some (.int .i64 r0) := (B7.out.1.2 8 (by simp)).1
                  have f9 : w7.cell? ⟨w.heap.size, 9, none⟩ = some (.int .i64 r1) := (B7.out.1.2 9 (by simp)).1
                  have f10 : w7.cell? ⟨w.heap.size, 10, none⟩ = some (.int .i64 s0) := (B7.out.1.2 10 (by simp)).1
                  have f11 : w7.cell? ⟨w.heap.size, 11, none⟩ = some (.int .i64 s1) := (B7.out.1.2 11 (by simp)).1
                  have f12 : w7.cell? ⟨w.heap.size, 12, none⟩ = some (.int .i64 e0) := (B7.out.1.2 12 (by simp)).1
                  have f13 : w7.cell? ⟨w.heap.size, 13, none⟩ = some (.int .i64 e1) := (B7.out.1.2 13 (by simp)).1
                  have g0 : w7.cell? ⟨w.heap.size + 1, 0, none⟩ = some (.int .i64 kind) := (B7.out.2.1.2 0 (by simp)).1
                  have g1 : w7.cell? ⟨w.heap.size + 1, 1, none⟩ = some (.string name) := (B7.out.2.1.2 1 (by simp)).1
                  have g2 : w7.cell? ⟨w.heap.size + 1, 2, none⟩ = some (.string on) := (B7.out.2.1.2 2 (by simp)).1
                  have g3 : w7.cell? ⟨w.heap.size + 1, 3, none⟩ = some (.slice a0 list.length c0) := (B7.out.2.1.2 3 (by simp)).1
                  have g4 : w7.cell? ⟨w.heap.size + 1, 4, none⟩ = some (.int .i64 num) := (B7.out.2.1.2 4 (by simp)).1
                  have g5 : w7.cell? ⟨w.heap.size + 1, 5, none⟩ = some (.bool false) := (B7.out.2.1.2 5 (by simp)).1
                  have g6 : w7.cell? ⟨w.heap.size + 1, 6, none⟩ = some (.int .i64 ty.kind) := (B7.out.2.1.2 6 (by simp)).1
                  have g7 : w7.cell? ⟨w.heap.size + 1, 7, none⟩ = some (.int .i64 ty.len) := (B7.out.2.1.2 7 (by simp)).1
                  have g8 : w7.cell? ⟨w.heap.size + 1, 8, none⟩ = some (.string ty.name) := (B7.out.2.1.2 8 (by simp)).1
                  have g9 : w7.cell? ⟨w.heap.size + 1, 9, none⟩ = some (.slice a1 cols.length c1) := (B7.out.2.1.2 9 (by simp)).1
                  have g10 : w7.cell? ⟨w.heap.size + 1, 10, none⟩ = some (.slice a2 rules.length c2) := (B7.out.2.1.2 10 (by simp)).1
                  have g11 : w7.cell? ⟨w.heap.size + 1, 11, none⟩ = some (.slice a3 exprs.length c3) := (B7.out.2.1.2 11 (by simp)).1
                  cases h7 : (inI cols.length r0 r1 && cols.all colB) with
                  | false =>
                    have HV : Hid (v = false) := by unfold Hid; rw [← HVV.out]; simp only [boolT, (And.intro h0 (And.intro h1 (And.intro h2 (And.intro h4 (And.intro h6 h7)))))]
                    go_wp2_with fail
                    go_ret
                    exact ⟨by rw [HV.out] <;> rfl, B7.out.2.2⟩
                  | true =>
                    go_wp2_with fail
                    refine (fitsU a2 c2 rules s0 s1 _ (HK.out _ B7.out.2.2).2.2.1 (HJ.out _ B7.out.2.2) ZR.out _ rfl).mono ?_
                    rintro e w8 ⟨rfl, b8⟩
                    have B8 := Lib.hid (B7.out.call b8)
                    clear b8 f0 f1 f2 f3 f4 f5 f6 f7 f8 f9 f10 f11 f12 f13 g0 g1 g2 g3 g4 g5 g6 g7 g8 g9 g10 g11
                    have f0 : w8.cell? ⟨w.heap.size, 0, none⟩ = some (.string fs) := (B8.out.1.2 0 (by simp)).1
                    have f1 : w8.cell? ⟨w.heap.size, 1, none⟩ = some (.bool fon) := (B8.out.1.2 1 (by simp)).1
                    have f2 : w8.cell? ⟨w.heap.size, 2, none⟩ = some (.int .i64 l0) := (B8.out.1.2 2 (by simp)).1
                    have f3 : w8.cell? ⟨w.heap.size, 3, none⟩ = some (.int .i64 l1) := (B8.out.1.2 3 (by simp)).1
                    have f4 : w8.cell? ⟨w.heap.size, 4, none⟩ = some (.int .i64 n0) := (B8.out.1.2 4 (by simp)).1
                    have f5 : w8.cell? ⟨w.heap.size, 5, none⟩ = some (.int .i64 n1) := (B8.out.1.2 5 (by simp)).1
                    have f6 : w8.cell? ⟨w.heap.size, 6, none⟩ = some (.bool false) := (B8.out.1.2 6 (by simp)).1
                    have f7 : w8.cell? ⟨w.heap.size, 7, none⟩ = some (.bool true) := (B8.out.1.2 7 (by simp)).1
                    have f8 : w8.cell? ⟨w.heap.size, 8, none⟩ = some (.int .i64 r0) := (B8.out.1.2 8 (by simp)).1
                    have f9 : w8.cell? ⟨w.heap.size, 9, none⟩ = some (.int .i64 r1) := (B8.out.1.2 9 (by simp)).1
                    have f10 : w8.cell? ⟨w.heap.size, 10, none⟩ = some (.int .i64 s0) := (B8.out.1.2 10 (by simp)).1
                    have f11 : w8.cell? ⟨w.heap.size, 11, none⟩ = some (.int .i64 s1) := (B8.out.1.2 11 (by simp)).1
                    have f12 : w8.cell? ⟨w.heap.size, 12, none⟩ = some (.int .i64 e0) := (B8.out.1.2 12 (by simp)).1
                    have f13 : w8.cell? ⟨w.heap.size, 13, none⟩ = some (.int .i64 e1) := (B8.out.1.2 13 (by simp)).1
                    have g0 : w8.cell? ⟨w.heap.size + 1, 0, none⟩ = some (.int .i64 kind) := (B8.out.2.1.2 0 (by simp)).1
                    have g1 : w8.cell? ⟨w.heap.size + 1, 1, none⟩ = some (.string name) := (B8.out.2.1.2 1 (by simp)).1
                    have g2 : w8.cell? ⟨w.heap.size + 1, 2, none⟩ = some (.string on) := (B8.out.2.1.2 2 (by simp)).1
                    have g3 : w8.cell? ⟨w.heap.size + 1, 3, none⟩ = some (.slice a0 list.length c0) := (B8.out.2.1.2 3 (by simp)).1
                    have g4 : w8.cell? ⟨w.heap.size + 1, 4, none⟩ = some (.int .i64 num) := (B8.out.2.1.2 4 (by simp)).1
                    have g5 : w8.cell? ⟨w.heap.size + 1, 5, none⟩ = some (.bool false) := (B8.out.2.1.2 5 (by simp)).1
                    have g6 : w8.cell? ⟨w.heap.size + 1, 6, none⟩ = some (.int .i64 ty.kind) := (B8.out.2.1.2 6 (by simp)).1
                    have g7 : w8.cell? ⟨w.heap.size + 1, 7, none⟩ = some (.int .i64 ty.len) := (B8.out.2.1.2 7 (by simp)).1
                    have g8 : w8.cell? ⟨w.heap.size + 1, 8, none⟩ = some (.string ty.name) := (B8.out.2.1.2 8 (by simp)).1
                    have g9 : w8.cell? ⟨w.heap.size + 1, 9, none⟩ = some (.slice a1 cols.length c1) := (B8.out.2.1.2 9 (by simp)).1
                    have g10 : w8.cell? ⟨w.heap.size + 1, 10, none⟩ = some (.slice a2 rules.length c2) := (B8.out.2.1.2 10 (by simp)).1
                    have g11 : w8.cell? ⟨w.heap.size + 1, 11, none⟩ = some (.slice a3 exprs.length c3) := (B8.out.2.1.2 11 (by simp)).1
                    cases h8 : (inI rules.length s0 s1 && rules.all ruleB) with
                    | false =>
                      have HV : Hid (v = false) := by unfold Hid; rw [← HVV.out]; simp only [boolT, (And.intro h0 (And.intro h1 (And.intro h2 (And.intro h4 (And.intro h6 (And.intro h7 h8))))))]
                      go_wp2_with fail
                      go_ret
                      exact ⟨by rw [HV.out] <;> rfl, B8.out.2.2⟩
                    | true =>
                      go_wp2_with fail
                      obtain ⟨dd, hsx⟩ := (HK.out _ B8.out.2.2).2.2.2.sl
                      refine (fitsX dd a3 c3 exprs e0 e1 _ hsx (HJ.out _ B8.out.2.2).forms ZX.out _ rfl).mono ?_
                      rintro e w9 ⟨rfl, b9⟩
                      have B9 := Lib.hid (B8.out.call b9)
                      clear b9 f0 f1 f2 f3 f4 f5 f6 f7 f8 f9 f10 f11 f12 f13 g0 g1 g2 g3 g4 g5 g6 g7 g8 g9 g10 g11 hsx
                      have f0 : w9.cell? ⟨w.heap.size, 0, none⟩ = some (.string fs) := (B9.out.1.2 0 (by simp)).1
                      have f1 : w9.cell? ⟨w.heap.size, 1, none⟩ = some (.bool fon) := (B9.out.1.2 1 (by simp)).1
                      have f2 : w9.cell? ⟨w.heap.size, 2, none⟩ = some (.int .i64 l0) := (B9.out.1.2 2 (by simp)).1
                      have f3 : w9.cell? ⟨w.heap.size, 3, none⟩ = some (.int .i64 l1) := (B9.out.1.2 3 (by simp)).1
                      have f4 : w9.cell? ⟨w.heap.size, 4, none⟩ = some (.int .i64 n0) := (B9.out.1.2 4 (by simp)).1
                      have f5 : w9.cell? ⟨w.heap.size, 5, none⟩ = some (.int .i64 n1) := (B9.out.1.2 5 (by simp)).1
                      have f6 : w9.cell? ⟨w.heap.size, 6, none⟩ = some (.bool false) := (B9.out.1.2 6 (by simp)).1
                      have f7 : w9.cell? ⟨w.heap.size, 7, none⟩ = some (.bool true) := (B9.out.1.2 7 (by simp)).1
                      have f8 : w9.cell? ⟨w.heap.size, 8, none⟩ = some (.int .i64 r0) := (B9.out.1.2 8 (by simp)).1
                      have f9 : w9.cell? ⟨w.heap.size, 9, none⟩ = some (.int .i64 r1) := (B9.out.1.2 9 (by simp)).1
                      have f10 : w9.cell? ⟨w.heap.size, 10, none⟩ = some (.int .i64 s0) := (B9.out.1.2 10 (by simp)).1
                      have f11 : w9.cell? ⟨w.heap.size, 11, none⟩ = some (.int .i64 s1) := (B9.out.1.2 11 (by simp)).1
                      have f12 : w9.cell? ⟨w.heap.size, 12, none⟩ = some (.int .i64 e0) := (B9.out.1.2 12 (by simp)).1
                      have f13 : w9.cell? ⟨w.heap.size, 13, none⟩ = some (.int .i64 e1) := (B9.out.1.2 13 (by simp)).1
                      have g0 : w9.cell? ⟨w.heap.size + 1, 0, none⟩ = some (.int .i64 kind) := (B9.out.2.1.2 0 (by simp)).1
                      have g1 : w9.cell? ⟨w.heap.size + 1, 1, none⟩ = some (.string name) := (B9.out.2.1.2 1 (by simp)).1
                      have g2 : w9.cell? ⟨w.heap.size + 1, 2, none⟩ = some (.string on) := (B9.out.2.1.2 2 (by simp)).1
                      have g3 : w9.cell? ⟨w.heap.size + 1, 3, none⟩ = some (.slice a0 list.length c0) := (B9.out.2.1.2 3 (by simp)).1
                      have g4 : w9.cell? ⟨w.heap.size + 1, 4, none⟩ = some (.int .i64 num) := (B9.out.2.1.2 4 (by simp)).1
                      have g5 : w9.cell? ⟨w.heap.size + 1, 5, none⟩ = some (.bool false) := (B9.out.2.1.2 5 (by simp)).1
                      have g6 : w9.cell? ⟨w.heap.size + 1, 6, none⟩ = some (.int .i64 ty.kind) := (B9.out.2.1.2 6 (by simp)).1
                      have g7 : w9.cell? ⟨w.heap.size + 1, 7, none⟩ = some (.int .i64 ty.len) := (B9.out.2.1.2 7 (by simp)).1
                      have g8 : w9.cell? ⟨w.heap.size + 1, 8, none⟩ = some (.string ty.name) := (B9.out.2.1.2 8 (by simp)).1
                      have g9 : w9.cell? ⟨w.heap.size + 1, 9, none⟩ = some (.slice a1 cols.length c1) := (B9.out.2.1.2 9 (by simp)).1
                      have g10 : w9.cell? ⟨w.heap.size + 1, 10, none⟩ = some (.slice a2 rules.length c2) := (B9.out.2.1.2 10 (by simp)).1
                      have g11 : w9.cell? ⟨w.heap.size + 1, 11, none⟩ = some (.slice a3 exprs.length c3) := (B9.out.2.1.2 11 (by simp)).1
                      cases h9 : (inI exprs.length e0 e1 && exprs.all okX) with
                      | false =>
                        have HV : Hid (v = false) := by unfold Hid; rw [← HVV.out]; simp only [boolT, (And.intro h0 (And.intro h1 (And.intro h2 (And.intro h4 (And.intro h6 (And.intro h7 (And.intro h8 h9)))))))]
                        go_wp2_with fail
                        go_ret
                        exact ⟨by rw [HV.out] <;> rfl, B9.out.2.2⟩
                      | true =>
                        have HV : Hid (v = true) := by unfold Hid; rw [← HVV.out]; simp only [boolT, (And.intro h0 (And.intro h1 (And.intro h2 (And.intro h4 (And.intro h6 (And.intro h7 (And.intro h8 h9)))))))]
                        go_wp2_with fail
                        go_ret
                        exact ⟨by rw [HV.out] <;> rfl, B9.out.2.2⟩
              | false =>
                cases ht : ty0 ty with
                | false =>
                  have HV : Hid (v = false) := by unfold Hid; rw [← HVV.out]; simp only [boolT, (And.intro h0 (And.intro h1 (And.intro h2 (And.intro h4 ht))))]
                  go_wp2_with fail
                  go_ret
                  exact ⟨by rw [HV.out] <;> rfl, B4.out.2.2⟩
                | true =>
                  go_wp2_with fail
                  refine (fitsN a0 c0 list l0 l1 _ (HK.out _ B4.out.2.2).1.sl trivial (fun _ _ => trivial) _ rfl).mono ?_
                  rintro e w6 ⟨rfl, b6⟩
                  have B6 := Lib.hid (B4.out.call b6)
                  clear b6 f0 f1 f2 f3 f4 f5 f6 f7 f8 f9 f10 f11 f12 f13 g0 g1 g2 g3 g4 g5 g6 g7 g8 g9 g10 g11
                  have f0 : w6.cell? ⟨w.heap.size, 0, none⟩ = some (.string fs) := (B6.out.1.2 0 (by simp)).1
                  have f1 : w6.cell? ⟨w.heap.size, 1, none⟩ = some (.bool fon) := (B6.out.1.2 1 (by simp)).1
                  have f2 : w6.cell? ⟨w.heap.size, 2, none⟩ = some (.int .i64 l0) := (B6.out.1.2 2 (by simp)).1
                  have f3 : w6.cell? ⟨w.heap.size, 3, none⟩ = some (.int .i64 l1) := (B6.out.1.2 3 (by simp)).1
                  have f4 : w6.cell? ⟨w.heap.size, 4, none⟩ = some (.int .i64 n0) := (B6.out.1.2 4 (by simp)).1
                  have f5 : w6.cell? ⟨w.heap.size, 5, none⟩ = some (.int .i64 n1) := (B6.out.1.2 5 (by simp)).1
                  have f6 : w6.cell? ⟨w.heap.size, 6, none⟩ = some (.bool false) := (B6.out.1.2 6 (by simp)).1
                  have f7 : w6.cell? ⟨w.heap.size, 7, none⟩ = some (.bool false) := (B6.out.1.2 7 (by simp)).1
                  have f8 : w6.cell? ⟨w.heap.size, 8, none⟩ = some (.int .i64 r0) := (B6.out.1.2 8 (by simp)).1
                  have f9 : w6.cell? ⟨w.heap.size, 9, none⟩ = some (.int .i64 r1) := (B6.out.1.2 9 (by simp)).1
                  have f10 : w6.cell? ⟨w.heap.size, 10, none⟩ = some (.int .i64 s0) := (B6.out.1.2 10 (by simp)).1
                  have f11 : w6.cell? ⟨w.heap.size, 11, none⟩ = some (.int .i64 s1) := (B6.out.1.2 11 (by simp)).1
                  have f12 : w6.cell? ⟨w.heap.size, 12, none⟩ = some (.int .i64 e0) := (B6.out.1.2 12 (by simp)).1
                  have f13 : w6.cell? ⟨w.heap.size, 13, none⟩ = some (.int .i64 e1) := (B6.out.1.2 13 (by simp)).1
                  have g0 : w6.cell? ⟨w.heap.size + 1, 0, none⟩ = some (.int .i64 kind) := (B6.out.2.1.2 0 (by simp)).1
                  have g1 : w6.cell? ⟨w.heap.size + 1, 1, none⟩ = some (.string name) := (B6.out.2.1.2 1 (by simp)).1
                  have g2 : w6.cell? ⟨w.heap.size + 1, 2, none⟩ = some (.string on) := (B6.out.2.1.2 2 (by simp)).1
                  have g3 : w6.cell? ⟨w.heap.size + 1, 3, none⟩ = some (.slice a0 list.length c0) := (B6.out.2.1.2 3 (by simp)).1
                  have g4 : w6.cell? ⟨w.heap.size + 1, 4, none⟩ = some (.int .i64 num) := (B6.out.2.1.2 4 (by simp)).1
                  have g5 : w6.cell? ⟨w.heap.size + 1, 5, none⟩ = some (.bool false) := (B6.out.2.1.2 5 (by simp)).1
                  have g6 : w6.cell? ⟨w.heap.size + 1, 6, none⟩ = some (.int .i64 ty.kind) := (B6.out.2.1.2 6 (by simp)).1
                  have g7 : w6.cell? ⟨w.heap.size + 1, 7, none⟩ = some (.int .i64 ty.len) := (B6.out.2.1.2 7 (by simp)).1
                  have g8 : w6.cell? ⟨w.heap.size + 1, 8, none⟩ = some (.string ty.name) := (B6.out.2.1.2 8 (by simp)).1
                  have g9 : w6.cell? ⟨w.heap.size + 1, 9, none⟩ = some (.slice a1 cols.length c1) := (B6.out.2.1.2 9 (by simp)).1
                  have g10 : w6.cell? ⟨w.heap.size + 1, 10, none⟩ = some (.slice a2 rules.length c2) := (B6.out.2.1.2 10 (by simp)).1
                  have g11 : w6.cell? ⟨w.heap.size + 1, 11, none⟩ = some (.slice a3 exprs.length c3) := (B6.out.2.1.2 11 (by simp)).1
                  cases h6 : (inI list.length l0 l1 && list.all nmB) with
                  | false =>
                    have HV : Hid (v = false) := by unfold Hid; rw [← HVV.out]; simp only [boolT, (And.intro h0 (And.intro h1 (And.intro h2 (And.intro h4 (And.intro ht h6)))))]
                    go_wp2_with fail
                    go_ret
                    exact ⟨by rw [HV.out] <;> rfl, B6.out.2.2⟩
                  | true =>
                    go_wp2_with fail
                    refine (fitsC a1 c1 cols r0 r1 _ (HK.out _ B6.out.2.2).2.1 (HJ.out _ B6.out.2.2).forms ZC.out _ rfl).mono ?_
                    rintro e w7 ⟨rfl, b7⟩
                    have B7 := Lib.hid (B6.out.call b7)
                    clear b7 f0 f1 f2 f3 f4 f5 f6 f7 f8 f9 f10 f11 f12 f13 g0 g1 g2 g3 g4 g5 g6 g7 g8 g9 g10 g11
                    have f0 : w7.cell? ⟨w.heap.size, 0, none⟩ = some (.string fs) := (B7.out.1.2 0 (by simp)).1
                    have f1 : w7.cell? ⟨w.heap.size, 1, none⟩ = some (.bool fon) := (B7.out.1.2 1 (by simp)).1
                    have f2 : w7.cell? ⟨w.heap.size, 2, none⟩ = some (.int .i64 l0) := (B7.out.1.2 2 (by simp)).1
                    have f3 : w7.cell? ⟨w.heap.size, 3, none⟩ = some (.int .i64 l1) := (B7.out.1.2 3 (by simp)).1
                    have f4 : w7.cell? ⟨w.heap.size, 4, none⟩ = some (.int .i64 n0) := (B7.out.1.2 4 (by simp)).1
                    have f5 : w7.cell? ⟨w.heap.size, 5, none⟩ = some (.int .i64 n1) := (B7.out.1.2 5 (by simp)).1
                    have f6 : w7.cell? ⟨w.heap.size, 6, none⟩ = some (.bool false) := (B7.out.1.2 6 (by simp)).1
                    have f7 : w7.cell? ⟨w.heap.size, 7, none⟩ = some (.bool false) := (B7.out.1.2 7 (by simp)).1
                    have f8 : w7.cell? ⟨w.heap.size, 8, none⟩ = some (.int .i64 r0) := (B7.out.1.2 8 (by simp)).1
                    have f9 : w7.cell? ⟨w.heap.size, 9, none⟩ = some (.int .i64 r1) := (B7.out.1.2 9 (by simp)).1
                    have f10 : w7.cell? ⟨w.heap.size, 10, none⟩ = some (.int .i64 s0) := (B7.out.1.2 10 (by simp)).1
                    have f11 : w7.cell? ⟨w.heap.size, 11, none⟩ = some (.int .i64 s1) := (B7.out.1.2 11 (by simp)).1
                    have f12 : w7.cell? ⟨w.heap.size, 12, none⟩ = some (.int .i64 e0) := (B7.out.1.2 12 (by simp)).1
                    have f13 : w7.cell? ⟨w.heap.size, 13, none⟩ = some (.int .i64 e1) := (B7.out.1.2 13 (by simp)).1
                    have g0 : w7.cell? ⟨w.heap.size + 1, 0, none⟩ = some (.int .i64 kind) := (B7.out.2.1.2 0 (by simp)).1
                    have g1 : w7.cell? ⟨w.heap.size + 1, 1, none⟩ = some (.string name) := (B7.out.2.1.2 1 (by simp)).1
                    have g2 : w7.cell? ⟨w.heap.size + 1, 2, none⟩ = some (.string on) := (B7.out.2.1.2 2 (by simp)).1
                    have g3 : w7.cell? ⟨w.heap.size + 1, 3, none⟩ = some (.slice a0 list.length c0) := (B7.out.2.1.2 3 (by simp)).1
                    have g4 : w7.cell? ⟨w.heap.size + 1, 4, none⟩ = some (.int .i64 num) := (B7.out.2.1.2 4 (by simp)).1
                    have g5 : w7.cell? ⟨w.heap.size + 1, 5, none⟩ = some (.bool false) := (B7.out.2.1.2 5 (by simp)).1
                    have g6 : w7.cell? ⟨w.heap.size + 1, 6, none⟩ = some (.int .i64 ty.kind) := (B7.out.2.1.2 6 (by simp)).1
                    have g7 : w7.cell? ⟨w.heap.size + 1, 7, none⟩ = some (.int .i64 ty.len) := (B7.out.2.1.2 7 (by simp)).1
                    have g8 : w7.cell? ⟨w.heap.size + 1, 8, none⟩ = some (.string ty.name) := (B7.out.2.1.2 8 (by simp)).1
                    have g9 : w7.cell? ⟨w.heap.size + 1, 9, none⟩ = some (.slice a1 cols.length c1) := (B7.out.2.1.2 9 (by simp)).1
                    have g10 : w7.cell? ⟨w.heap.size + 1, 10, none⟩ = some (.slice a2 rules.length c2) := (B7.out.2.1.2 10 (by simp)).1
                    have g11 : w7.cell? ⟨w.heap.size + 1, 11, none⟩ = some (.slice a3 exprs.length c3) := (B7.out.2.1.2 11 (by simp)).1
                    cases h7 : (inI cols.length r0 r1 && cols.all colB) with
                    | false =>
                      have HV : Hid (v = false) := by unfold Hid; rw [← HVV.out]; simp only [boolT, (And.intro h0 (And.intro h1 (And.intro h2 (And.intro h4 (And.intro ht (And.intro h6 h7))))))]
                      go_wp2_with fail
                      go_ret
                      exact ⟨by rw [HV.out] <;> rfl, B7.out.2.2⟩
                    | true =>
                      go_wp2_with fail
                      refine (fitsU a2 c2 rules s0 s1 _ (HK.out _ B7.out.2.2).2.2.1 (HJ.out _ B7.out.2.2) ZR.out _ rfl).mono ?_
                      rintro e w8 ⟨rfl, b8⟩
                      have B8 := Lib.hid (B7.out.call b8)
                      clear b8 f0 f1 f2 f3 f4 f5 f6 f7 f8 f9 f10 f11 f12 f13 g0 g1 g2 g3 g4 g5 g6 g7 g8 g9 g10 g11
                      have f0 : w8.cell? ⟨w.heap.size, 0, none⟩ = some (.string fs) := (B8.out.1.2 0 (by simp)).1
                      have f1 : w8.cell? ⟨w.heap.size, 1, none⟩ = some (.bool fon) := (B8.out.1.2 1 (by simp)).1
                      have f2 : w8.cell? ⟨w.heap.size, 2, none⟩ = some (.int .i64 l0) := (B8.out.1.2 2 (by simp)).1
                      have f3 : w8.cell? ⟨w.heap.size, 3, none⟩ = some (.int .i64 l1) := (B8.out.1.2 3 (by simp)).1
                      have f4 : w8.cell? ⟨w.heap.size, 4, none⟩ = some (.int .i64 n0) := (B8.out.1.2 4 (by simp)).1
                      have f5 : w8.cell? ⟨w.heap.size, 5, none⟩ = some (.int .i64 n1) := (B8.out.1.2 5 (by simp)).1
                      have f6 : w8.cell? ⟨w.heap.size, 6, none⟩ = some (.bool false) := (B8.out.1.2 6 (by simp)).1
                      have f7 : w8.cell? ⟨w.heap.size, 7, none⟩ = some (.bool false) := (B8.out.1.2 7 (by simp)).1
                      have f8 : w8.cell? ⟨w.heap.size, 8, none⟩ = some (.int .i64 r0) := (B8.out.1.2 8 (by simp)).1
                      have f9 : w8.cell? ⟨w.heap.size, 9, none⟩ = some (.int .i64 r1) := (B8.out.1.2 9 (by simp)).1
                      have f10 : w8.cell? ⟨w.heap.size, 10, none⟩ = some (.int .i64 s0) := (B8.out.1.2 10 (by simp)).1
                      have f11 : w8.cell? ⟨w.heap.size, 11, none⟩ = some (.int .i64 s1) := (B8.out.1.2 11 (by simp)).1
                      have f12 : w8.cell? ⟨w.heap.size, 12, none⟩ = some (.int .i64 e0) := (B8.out.1.2 12 (by simp)).1
                      have f13 : w8.cell? ⟨w.heap.size, 13, none⟩ = some (.int .i64 e1) := (B8.out.1.2 13 (by simp)).1
                      have g0 : w8.cell? ⟨w.heap.size + 1, 0, none⟩ = some (.int .i64 kind) := (B8.out.2.1.2 0 (by simp)).1
                      have g1 : w8.cell? ⟨w.heap.size + 1, 1, none⟩ = some (.string name) := (B8.out.2.1.2 1 (by simp)).1
                      have g2 : w8.cell? ⟨w.heap.size + 1, 2, none⟩ = some (.string on) := (B8.out.2.1.2 2 (by simp)).1
                      have g3 : w8.cell? ⟨w.heap.size + 1, 3, none⟩ = some (.slice a0 list.length c0) := (B8.out.2.1.2 3 (by simp)).1
                      have g4 : w8.cell? ⟨w.heap.size + 1, 4, none⟩ = some (.int .i64 num) := (B8.out.2.1.2 4 (by simp)).1
                      have g5 : w8.cell? ⟨w.heap.size + 1, 5, none⟩ = some (.bool false) := (B8.out.2.1.2 5 (by simp)).1
                      have g6 : w8.cell? ⟨w.heap.size + 1, 6, none⟩ = some (.int .i64 ty.kind) := (B8.out.2.1.2 6 (by simp)).1
                      have g7 : w8.cell? ⟨w.heap.size + 1, 7, none⟩ = some (.int .i64 ty.len) := (B8.out.2.1.2 7 (by simp)).1
                      have g8 : w8.cell? ⟨w.heap.size + 1, 8, none⟩ = some (.string ty.name) := (B8.out.2.1.2 8 (by simp)).1
                      have g9 : w8.cell? ⟨w.heap.size + 1, 9, none⟩ = some (.slice a1 cols.length c1) := (B8.out.2.1.2 9 (by simp)).1
                      have g10 : w8.cell? ⟨w.heap.size + 1, 10, none⟩ = some (.slice a2 rules.length c2) := (B8.out.2.1.2 10 (by simp)).1
                      have g11 : w8.cell? ⟨w.heap.size + 1, 11, none⟩ = some (.slice a3 exprs.length c3) := (B8.out.2.1.2 11 (by simp)).1
                      cases h8 : (inI rules.length s0 s1 && rules.all ruleB) with
                      | false =>
                        have HV : Hid (v = false) := by unfold Hid; rw [← HVV.out]; simp only [boolT, (And.intro h0 (And.intro h1 (And.intro h2 (And.intro h4 (And.intro ht (And.intro h6 (And.intro h7 h8)))))))]
                        go_wp2_with fail
                        go_ret
                        exact ⟨by rw [HV.out] <;> rfl, B8.out.2.2⟩
                      | true =>
                        go_wp2_with fail
                        obtain ⟨dd, hsx⟩ := (HK.out _ B8.out.2.2).2.2.2.sl
                        refine (fitsX dd a3 c3 exprs e0 e1 _ hsx (HJ.out _ B8.out.2.2).forms ZX.out _ rfl).mono ?_
                        rintro e w9 ⟨rfl, b9⟩
                        have B9 := Lib.hid (B8.out.call b9)
                        clear b9 f0 f1 f2 f3 f4 f5 f6 f7 f8 f9 f10 f11 f12 f13 g0 g1 g2 g3 g4 g5 g6 g7 g8 g9 g10 g11 hsx
                        have f0 : w9.cell? ⟨w.heap.size, 0, none⟩ = some (.string fs) := (B9.out.1.2 0 (by simp)).1
                        have f1 : w9.cell? ⟨w.heap.size, 1, none⟩ = some (.bool fon) := (B9.out.1.2 1 (by simp)).1
                        have f2 : w9.cell? ⟨w.heap.size, 2, none⟩ = some (.int .i64 l0) := (B9.out.1.2 2 (by simp)).1
                        have f3 : w9.cell? ⟨w.heap.size, 3, none⟩ = some (.int .i64 l1) := (B9.out.1.2 3 (by simp)).1
                        have f4 : w9.cell? ⟨w.heap.size, 4, none⟩ = some (.int .i64 n0) := (B9.out.1.2 4 (by simp)).1
                        have f5 : w9.cell? ⟨w.heap.size, 5, none⟩ = some (.int .i64 n1) := (B9.out.1.2 5 (by simp)).1
                        have f6 : w9.cell? ⟨w.heap.size, 6, none⟩ = some (.bool false) := (B9.out.1.2 6 (by simp)).1
                        have f7 : w9.cell? ⟨w.heap.size, 7, none⟩ = some (.bool false) := (B9.out.1.2 7 (by simp)).1
                        have f8 : w9.cell? ⟨w.heap.size, 8, none⟩ = some (.int .i64 r0) := (B9.out.1.2 8 (by simp)).1
                        have f9 : w9.cell? ⟨w.heap.size, 9, none⟩ = some (.int .i64 r1) := (B9.out.1.2 9 (by simp)).1
                        have f10 : w9.cell? ⟨w.heap.size, 10, none⟩ = some (.int .i64 s0) := (B9.out.1.2 10 (by simp)).1
                        have f11 : w9.cell? ⟨w.heap.size, 11, none⟩ = some (.int .i64 s1) := (B9.out.1.2 11 (by simp)).1
                        have f12 : w9.cell? ⟨w.heap.size, 12, none⟩ = some (.int .i64 e0) := (B9.out.1.2 12 (by simp)).1
                        have f13 : w9.cell? ⟨w.heap.size, 13, none⟩ = some (.int .i64 e1) := (B9.out.1.2 13 (by simp)).1
                        have g0 : w9.cell? ⟨w.heap.size + 1, 0, none⟩ = some (.int .i64 kind) := (B9.out.2.1.2 0 (by simp)).1
                        have g1 : w9.cell? ⟨w.heap.size + 1, 1, none⟩ = some (.string name) := (B9.out.2.1.2 1 (by simp)).1
                        have g2 : w9.cell? ⟨w.heap.size + 1, 2, none⟩ = some (.string on) := (B9.out.2.1.2 2 (by simp)).1
                        have g3 : w9.cell? ⟨w.heap.size + 1, 3, none⟩ = some (.slice a0 list.length c0) := (B9.out.2.1.2 3 (by simp)).1
                        have g4 : w9.cell? ⟨w.heap.size + 1, 4, none⟩ = some (.int .i64 num) := (B9.out.2.1.2 4 (by simp)).1
                        have g5 : w9.cell? ⟨w.heap.size + 1, 5, none⟩ = some (.bool false) := (B9.out.2.1.2 5 (by simp)).1
                        have g6 : w9.cell? ⟨w.heap.size + 1, 6, none⟩ = some (.int .i64 ty.kind) := (B9.out.2.1.2 6 (by simp)).1
                        have g7 : w9.cell? ⟨w.heap.size + 1, 7, none⟩ = some (.int .i64 ty.len) := (B9.out.2.1.2 7 (by simp)).1
                        have g8 : w9.cell? ⟨w.heap.size + 1, 8, none⟩ = some (.string ty.name) := (B9.out.2.1.2 8 (by simp)).1
                        have g9 : w9.cell? ⟨w.heap.size + 1, 9, none⟩ = some (.slice a1 cols.length c1) := (B9.out.2.1.2 9 (by simp)).1
                        have g10 : w9.cell? ⟨w.heap.size + 1, 10, none⟩ = some (.slice a2 rules.length c2) := (B9.out.2.1.2 10 (by simp)).1
                        have g11 : w9.cell? ⟨w.heap.size + 1, 11, none⟩ = some (.slice a3 exprs.length c3) := (B9.out.2.1.2 11 (by simp)).1
                        cases h9 : (inI exprs.length e0 e1 && exprs.all okX) with
                        | false =>
                          have HV : Hid (v = false) := by unfold Hid; rw [← HVV.out]; simp only [boolT, (And.intro h0 (And.intro h1 (And.intro h2 (And.intro h4 (And.intro ht (And.intro h6 (And.intro h7 (And.intro h8 h9))))))))]
                          go_wp2_with fail
                          go_ret
                          exact ⟨by rw [HV.out] <;> rfl, B9.out.2.2⟩
                        | true =>
                          have HV : Hid (v = true) := by unfold Hid; rw [← HVV.out]; simp only [boolT, (And.intro h0 (And.intro h1 (And.intro h2 (And.intro h4 (And.intro ht (And.intro h6 (And.intro h7 (And.intro h8 h9))))))))]
                          go_wp2_with fail
                          go_ret
                          exact ⟨by rw [HV.out] <;> rfl, B9.out.2.2⟩

set_option maxRecDepth 100000 in
set_option maxHeartbeats 8000000 in
theorem implStmtOk (vs : List Value) (x : St) (w : World) (hJ : FormR w) (hR : RSt 0 w vs x) (hwt : x.wt ≤ 1048576) (v : Bool) (hv : stB x = v) :
    Calls Tryz.prog 54 #[.agg vs.toArray] w fun e w' => e = .returned (.bool v) ∧ Below w.heap.size w w' := by
  obtain ⟨kind, name, on, list, num, flag, ty, cols, rules, exprs⟩ := x
  obtain ⟨a0, c0, a1, c1, a2, c2, a3, c3, rfl, hfit, k0, k1, k2, k3⟩ := hR
  simp only at k0 k1 k2 k3
  have HK := Lib.hid (fun w' (hb : Below w.heap.size w w') => (show Ss 0 w' a0 c0 list ∧ Sl 6 RCo 0 w' a1 c1 cols ∧ Sl 6 RRu 0 w' a2 c2 rules ∧ Ks 0 w' a3 c3 exprs from ⟨k0.kept (Kept.below hb), k1.kept goodCo (Kept.below hb), k2.kept goodRu (Kept.below hb), k3.kept (Kept.below hb)⟩))
  have hW : (St.mk kind name on list num flag ty cols rules exprs).wt = name.size + on.size + (list.length + lets list) + ty.name.size + (cols.length + wtS Co.wt cols) + (rules.length + wtS Ru.wt rules) + (exprs.length + wtL exprs) := rfl
  have Zn := Lib.hid (show name.size ≤ 1048576 by omega)
  have Zo := Lib.hid (show on.size ≤ 1048576 by omega)
  have Zt := Lib.hid (show ty.name.size ≤ 1048576 by omega)
  have Zl := Lib.hid (show lets list ≤ 1048576 by omega)
  have Ze := Lib.hid (show wtL exprs ≤ 1048576 by omega)
  have Zc := Lib.hid (fun (x : Co) (hm : x ∈ cols) => (show x.wt ≤ 1048576 by have := wtS_mem Co.wt hm; omega))
  have Zr := Lib.hid (fun (x : Ru) (hm : x ∈ rules) => (show x.wt ≤ 1048576 by have := wtS_mem Ru.wt hm; omega))
  have Zx := Lib.hid (fun (x : Ex) (hm : x ∈ exprs) => (show x.wt ≤ 1048576 by have := wtL_mem hm; omega))
  have HJ := Lib.hid (fun w' (hb : Below w.heap.size w w') => hJ.call hb)
  have HB := Lib.hid (fun T => boxV_new w [.int .i64 kind, .string name, .string on, .slice a0 list.length c0, .int .i64 num, .bool flag, .int .i64 ty.kind, .int .i64 ty.len, .string ty.name, .slice a1 cols.length c1, .slice a2 rules.length c2, .slice a3 exprs.length c3] T)
  have HN := Lib.hid (show i64E ty.kind from hfit.2.2.2.2.2.1)
  simp only
  clear k0 k1 k2 k3 hW hJ
  by_cases hin : 0 ≤ kind ∧ kind ≤ 16
  · have hidx := fun W => formAt kind hin W
    have HV : Hid (fitsS (sf kind) ⟨kind, name, on, list, num, flag, ty, cols, rules, exprs⟩ = v) := by unfold Hid; rw [← hv]; unfold stB; simp only [decide_eq_true hin.1, decide_eq_true hin.2, Bool.true_and]
    obtain ⟨f, hf⟩ : ∃ f, sf kind = f := ⟨_, rfl⟩
    rw [hf] at hidx HV
    have d1 : decide (0 ≤ kind) = true := decide_eq_true hin.1
    have d2 : decide (kind < 17) = true := by simp; omega
    have hk16 : kind ≤ 16 := hin.2
    have hk0 : 0 ≤ kind := hin.1
    clear hv hf hin
    have X1 := Lib.hid ((HB.out 55).call (below_drewE (Below.refl _ _)))
    have X0 := Lib.hid (HB.out 55)
    have hst : Hid (∀ p q : World, ((p.cell? ⟨w.heap.size, 0, none⟩ = some (.int .i64 kind) ∧ p.cell? ⟨w.heap.size, 1, none⟩ = some (.string name) ∧ p.cell? ⟨w.heap.size, 2, none⟩ = some (.string on) ∧ p.cell? ⟨w.heap.size, 3, none⟩ = some (.slice a0 list.length c0) ∧ p.cell? ⟨w.heap.size, 4, none⟩ = some (.int .i64 num) ∧ p.cell? ⟨w.heap.size, 5, none⟩ = some (.bool flag) ∧ p.cell? ⟨w.heap.size, 6, none⟩ = some (.int .i64 ty.kind) ∧ p.cell? ⟨w.heap.size, 7, none⟩ = some (.int .i64 ty.len) ∧ p.cell? ⟨w.heap.size, 8, none⟩ = some (.string ty.name) ∧ p.cell? ⟨w.heap.size, 9, none⟩ = some (.slice a1 cols.length c1) ∧ p.cell? ⟨w.heap.size, 10, none⟩ = some (.slice a2 rules.length c2) ∧ p.cell? ⟨w.heap.size, 11, none⟩ = some (.slice a3 exprs.length c3)) ∧ Hid (BoxV w [.int .i64 kind, .string name, .string on, .slice a0 list.length c0, .int .i64 num, .bool flag, .int .i64 ty.kind, .int .i64 ty.len, .string ty.name, .slice a1 cols.length c1, .slice a2 rules.length c2, .slice a3 exprs.length c3] p)) → Below p.heap.size p q → ((q.cell? ⟨w.heap.size, 0, none⟩ = some (.int .i64 kind) ∧ q.cell? ⟨w.heap.size, 1, none⟩ = some (.string name) ∧ q.cell? ⟨w.heap.size, 2, none⟩ = some (.string on) ∧ q.cell? ⟨w.heap.size, 3, none⟩ = some (.slice a0 list.length c0) ∧ q.cell? ⟨w.heap.size, 4, none⟩ = some (.int .i64 num) ∧ q.cell? ⟨w.heap.size, 5, none⟩ = some (.bool flag) ∧ q.cell? ⟨w.heap.size, 6, none⟩ = some (.int .i64 ty.kind) ∧ q.cell? ⟨w.heap.size, 7, none⟩ = some (.int .i64 ty.len) ∧ q.cell? ⟨w.heap.size, 8, none⟩ = some (.string ty.name) ∧ q.cell? ⟨w.heap.size, 9, none⟩ = some (.slice a1 cols.length c1) ∧ q.cell? ⟨w.heap.size, 10, none⟩ = some (.slice a2 rules.length c2) ∧ q.cell? ⟨w.heap.size, 11, none⟩ = some (.slice a3 exprs.length c3)) ∧ Hid (BoxV w [.int .i64 kind, .string name, .string on, .slice a0 list.length c0, .int .i64 num, .bool flag, .int .i64 ty.kind, .int .i64 ty.len, .string ty.name, .slice a1 cols.length c1, .slice a2 rules.length c2, .slice a3 exprs.length c3] q))) := fun p q h hb => by
      have T := h.2.out.call hb
      exact ⟨⟨(T.1.2 0 (by simp)).1, (T.1.2 1 (by simp)).1, (T.1.2 2 (by simp)).1, (T.1.2 3 (by simp)).1, (T.1.2 4 (by simp)).1, (T.1.2 5 (by simp)).1, (T.1.2 6 (by simp)).1, (T.1.2 7 (by simp)).1, (T.1.2 8 (by simp)).1, (T.1.2 9 (by simp)).1, (T.1.2 10 (by simp)).1, (T.1.2 11 (by simp)).1⟩, T⟩
    go_enter Tryz.func54, Tryz.ntmps54
    go_wp2_with fail
    go_region_held3 (fun w' => (w'.cell? ⟨w.heap.size, 0, none⟩ = some (.int .i64 kind) ∧ w'.cell? ⟨w.heap.size, 1, none⟩ = some (.string name) ∧ w'.cell? ⟨w.heap.size, 2, none⟩ = some (.string on) ∧ w'.cell? ⟨w.heap.size, 3, none⟩ = some (.slice a0 list.length c0) ∧ w'.cell? ⟨w.heap.size, 4, none⟩ = some (.int .i64 num) ∧ w'.cell? ⟨w.heap.size, 5, none⟩ = some (.bool flag) ∧ w'.cell? ⟨w.heap.size, 6, none⟩ = some (.int .i64 ty.kind) ∧ w'.cell? ⟨w.heap.size, 7, none⟩ = some (.int .i64 ty.len) ∧ w'.cell? ⟨w.heap.size, 8, none⟩ = some (.string ty.name) ∧ w'.cell? ⟨w.heap.size, 9, none⟩ = some (.slice a1 cols.length c1) ∧ w'.cell? ⟨w.heap.size, 10, none⟩ = some (.slice a2 rules.length c2) ∧ w'.cell? ⟨w.heap.size, 11, none⟩ = some (.slice a3 exprs.length c3)) ∧ Hid (BoxV w [.int .i64 kind, .string name, .string on, .slice a0 list.length c0, .int .i64 num, .bool flag, .int .i64 ty.kind, .int .i64 ty.len, .string ty.name, .slice a1 cols.length c1, .slice a2 rules.length c2, .slice a3 exprs.length c3] w')) (first | assumption | exact ⟨⟨(X1.out.1.2 0 (by simp)).1, (X1.out.1.2 1 (by simp)).1, (X1.out.1.2 2 (by simp)).1, (X1.out.1.2 3 (by simp)).1, (X1.out.1.2 4 (by simp)).1, (X1.out.1.2 5 (by simp)).1, (X1.out.1.2 6 (by simp)).1, (X1.out.1.2 7 (by simp)).1, (X1.out.1.2 8 (by simp)).1, (X1.out.1.2 9 (by simp)).1, (X1.out.1.2 10 (by simp)).1, (X1.out.1.2 11 (by simp)).1⟩, X1.out⟩ | exact ⟨⟨(X0.out.1.2 0 (by simp)).1, (X0.out.1.2 1 (by simp)).1, (X0.out.1.2 2 (by simp)).1, (X0.out.1.2 3 (by simp)).1, (X0.out.1.2 4 (by simp)).1, (X0.out.1.2 5 (by simp)).1, (X0.out.1.2 6 (by simp)).1, (X0.out.1.2 7 (by simp)).1, (X0.out.1.2 8 (by simp)).1, (X0.out.1.2 9 (by simp)).1, (X0.out.1.2 10 (by simp)).1, (X0.out.1.2 11 (by simp)).1⟩, X0.out⟩)
      (first
        | (go_at_call 91; refine (implStmtForms _).mono ?_; rintro e wq ⟨rfl, bq⟩; have hqq := hst.out _ _ (by assumption) bq)
        | (go_at_call 92; have hbb := (And.right (by assumption : _ ∧ Hid (BoxV w [.int .i64 kind, .string name, .string on, .slice a0 list.length c0, .int .i64 num, .bool flag, .int .i64 ty.kind, .int .i64 ty.len, .string ty.name, .slice a1 cols.length c1, .slice a2 rules.length c2, .slice a3 exprs.length c3] _))).out.2; refine (stmtFits (txt f.start) f.on f.flag f.typed f.l0 f.l1 f.n0 f.n1 f.c0 f.c1 f.r0 f.r1 f.e0 f.e1 kind name on list num flag ty cols rules exprs a0 a1 a2 a3 c0 c1 c2 c3 _ (HJ.out _ hbb) (HK.out _ hbb).1 (HK.out _ hbb).2.1 (HK.out _ hbb).2.2.1 (HK.out _ hbb).2.2.2 Zc.out Zr.out Zx.out HN.out v HV.out).mono ?_; rintro e wz ⟨rfl, bz⟩; have hzz := hst.out _ _ (by assumption) bz))
    go_wp2_with fail
    go_ret
    exact ⟨rfl, hzz.2.out.2⟩
  · have HV : Hid (v = false) := by unfold Hid; rw [← hv, stB_out _ hin]
    clear hv
    by_cases hneg : kind < 0
    · have d1 : decide (0 ≤ kind) = false := by simp; omega
      clear hin hneg
      go_enter Tryz.func54, Tryz.ntmps54
      go_wp2_with fail
      go_quiet (fail)
      go_wp2_with fail
      go_ret
      exact ⟨by rw [HV.out] <;> rfl, ((HB.out _).call (below_drewN (Below.refl _ _) _)).2⟩
    · have d1 : decide (0 ≤ kind) = true := by simp; omega
      have d2 : decide (kind < 17) = false := by simp; omega
      clear hin hneg
      go_enter Tryz.func54, Tryz.ntmps54
      go_wp2_with fail
      go_quiet (fail)
      go_wp2_with fail
      go_ret
      exact ⟨by rw [HV.out] <;> rfl, ((HB.out _).call (below_drewN (Below.refl _ _) _)).2⟩

end Go.Proofs.YtpdcmmhhgnackaaGreatDoor
