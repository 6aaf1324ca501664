/- impl's closures over rules, tables, indexes and views. Written by tools/gen_useT.py. -/
/- impl.namesWhere over rules. Written by tools/gen_use.py. -/
/- slices.Equal, spec.l06Same, impl.isKey, spec.l01In. Written by tools/gen_useK.py. -/
/- The closures of impl.KeyUse. Written by tools/gen_useK2.py. -/
/- impl.placeOf over a list of Table. Written by tools/gen_plan.py. -/
/- impl.TableAt and spec.TableAt. Written by tools/gen_plan.py. -/
/- impl.RuleAt and spec.RuleAt. Written by tools/gen_plan.py. -/
import Derived.Test.YtjjdcdnaonfnmaaGreatMClone
import Derived.Test.YtjjdcdnaonfnmaaGreatMPut
import Derived.Test.YtjjdcdnaonfnmaaGreatMPlFind
import Derived.Test.YtjjdcdnaonfnmaaGreatMTyp2
import Derived.Test.YtjjdcdnaonfnmaaGreatMMem
namespace Go.Proofs.YtjjdcdnaonfnmaaGreat
open Go.RowKit

/-- A reference to a table. -/
def isRefB (n : ByteArray) (x : Ru) : Bool := x.kind == 3 && x.table.toList == n.toList

set_option maxRecDepth 100000 in
set_option maxHeartbeats 2000000 in
theorem implIsRef (vs : List Value) (x : Ru) (n : ByteArray) (w : World) (hR : RRu 0 w vs x) :
    Calls Tryz.prog 48 #[.agg vs.toArray, .string n] w fun e w' => e = .returned (.bool (isRefB n x)) ∧ Below w.heap.size w w' := by
  have HB : Hid (∀ o : Obj, Below w.heap.size w (w.alloc o)) := fun o => (Below.refl _ _).alloc (Nat.le_refl _) _
  obtain ⟨a0, c0, a1, c1, a2, c2, rfl, _⟩ := hR
  cases h1 : (x.kind == 3) with
  | false =>
    have HV : Hid (isRefB n x = false) := by unfold Hid isRefB; rw [h1]; rfl
    rw [HV.out]
    go_enter Tryz.func48, Tryz.ntmps48
    go_wp2_with fail
    go_ret
    exact ⟨rfl, HB.out _⟩
  | true =>
    obtain ⟨v, hv⟩ : ∃ v, (x.table.toList == n.toList) = v := ⟨_, rfl⟩
    have HV : Hid (isRefB n x = v) := by unfold Hid isRefB; rw [h1, hv]; rfl
    rw [HV.out]
    go_enter Tryz.func48, Tryz.ntmps48
    go_wp2_with fail
    go_ret
    exact ⟨rfl, HB.out _⟩

set_option maxRecDepth 100000 in
set_option maxHeartbeats 2000000 in
theorem refC (vs : List Value) (x : Ru) (nb : Nat) (n : ByteArray) (w : World) (hR : RRu 0 w vs x) (hnb : w.cell? ⟨nb, 0, none⟩ = some (.string n)) (hlt : nb < w.heap.size) :
    Calls Tryz.prog 47 #[.agg vs.toArray, .pointer (some ⟨nb, 0, none⟩)] w fun e w' => e = .returned (.bool (isRefB n x)) ∧ Below w.heap.size w w' := by
  have HR := Lib.hid hR
  obtain ⟨a0, c0, a1, c1, a2, c2, rfl, _⟩ := hR
  have hba : Below w.heap.size w (w.alloc (.cells [.string x.name, .int .i64 x.kind, .slice a0 x.cols.length c0, .slice a1 x.expr.length c1, .string x.table, .slice a2 x.to.length c2].toArray 85)) := (Below.refl _ _).alloc (Nat.le_refl _) _
  have hnb' := (hba.cell (p := ⟨nb, 0, none⟩) hlt).trans hnb
  have HRW := Lib.hid (goodRu.kept HR.out (Kept.below hba))
  have HB := Lib.hid hba
  clear hba
  go_enter Tryz.func47, Tryz.ntmps47
  go_wp2_with fail
  refine (implIsRef _ x n _ HRW.out).mono ?_
  rintro e w2 ⟨rfl, b2⟩
  have HB2 := Lib.hid (HB.out.trans (b2.mono HB.out.size))
  clear b2
  go_wp2_with fail
  go_ret
  exact ⟨rfl, HB2.out⟩

theorem any_take {X : Type} (p : X → Bool) (xs : List X) (h : ∀ m (hm : m < xs.length), p xs[m] = false) : xs.any p = false := by
  rw [List.any_eq_false]
  intro x hx
  obtain ⟨i, hi, rfl⟩ := List.mem_iff_getElem.1 hx
  rw [h i hi]
  decide

set_option maxRecDepth 100000 in
set_option maxHeartbeats 4000000 in
theorem refIndex (a : Option Addr) (c : Nat) (xs : List Ru) (n : ByteArray) (nb : Nat) (w : World) (hx : Sl 6 RRu 0 w a c xs) (hnb : w.cell? ⟨nb, 0, none⟩ = some (.string n)) (hlt0 : nb < w.heap.size) :
    Calls Tryz.prog 88 #[.slice a xs.length c, .func (.func 47) #[] #[.pointer (some ⟨nb, 0, none⟩)]] w fun e w' =>
      ∃ z : Int, e = .returned (.int .i64 z) ∧ decide (0 ≤ z) = xs.any (isRefB n) ∧ Below w.heap.size w w' := by
  have hl := hx.len
  have HX := Lib.hid (fun w' (hb : Below w.heap.size w w') => hx.kept goodRu (Kept.below hb))
  have HN := Lib.hid (fun w' (hb : Below w.heap.size w w') => (And.intro ((hb.cell (p := ⟨nb, 0, none⟩) hlt0).trans hnb) (Nat.lt_of_lt_of_le hlt0 hb.size)))
  clear hx
  go_enter Tryz.func88, Tryz.ntmps88
  go_wp2
  go_loopw [8] (fun i wr => ∃ k : Nat, k ≤ xs.length ∧ i = .int .i64 k ∧ Hid (∀ m (hm : m < xs.length), m < k → isRefB n xs[m] = false) ∧ Below w.heap.size w wr) (fun i _ => xs.length - (intOf i).toNat)
  case atStart => exact ⟨0, Nat.zero_le _, rfl, fun m h hm => absurd hm (by omega), Below.refl _ _⟩
  case round =>
    obtain ⟨k, hk, rfl, hall, hb⟩ := hrel
    by_cases hlt : k < xs.length
    · obtain ⟨b, off, vs, rfl, hbl, hcs, hR⟩ := (HX.out _ hb).spot hlt
      obtain ⟨hn1, hn2⟩ := HN.out _ hb
      have HK := Lib.hid hR
      obtain ⟨p0, q0, p1, q1, p2, q2, rfl, _⟩ := hR
      have hc0 : wr.cell? ⟨b, off + k * 6, none⟩ = some (.string xs[k].name) := hcs 0 (by simp)
      have hc1 : wr.cell? ⟨b, off + k * 6 + 1, none⟩ = some (.int .i64 xs[k].kind) := hcs 1 (by simp)
      have hc2 : wr.cell? ⟨b, off + k * 6 + 2, none⟩ = some (.slice p0 xs[k].cols.length q0) := hcs 2 (by simp)
      have hc3 : wr.cell? ⟨b, off + k * 6 + 3, none⟩ = some (.slice p1 xs[k].expr.length q1) := hcs 3 (by simp)
      have hc4 : wr.cell? ⟨b, off + k * 6 + 4, none⟩ = some (.string xs[k].table) := hcs 4 (by simp)
      have hc5 : wr.cell? ⟨b, off + k * 6 + 5, none⟩ = some (.slice p2 xs[k].to.length q2) := hcs 5 (by simp)
      have hk0 : (0 : Int) ≤ (k : Int) := by omega
      obtain ⟨v, hv⟩ : ∃ v, isRefB n xs[k] = v := ⟨_, rfl⟩
      have HC := Lib.hid (refC _ xs[k] nb n wr HK.out hn1 hn2)
      rw [hv] at HC
      have HV := Lib.hid hv
      clear hv hcs hn1
      go_wp2_with fail
      refine HC.out.mono ?_
      rintro e w2 ⟨rfl, b2⟩
      have HB2 := Lib.hid (hb.trans (b2.mono hb.size))
      clear b2
      cases v with
      | false =>
        go_wp2_with fail
        go_roundw
        case rel =>
          refine ⟨k + 1, by omega, by go_num, fun m hm hmk => ?_, HB2.out⟩
          rcases Nat.lt_or_ge m k with h | h
          · exact hall.out m hm h
          · obtain rfl : m = k := by omega
            exact HV.out
        case measure => simp [intOf]; omega
      | true =>
        have hany : xs.any (isRefB n) = true := List.any_eq_true.2 ⟨xs[k], List.getElem_mem hlt, HV.out⟩
        have HA := Lib.hid hany
        clear hany
        go_wp2_with fail
        go_ret
        exact ⟨(k : Int), rfl, by rw [HA.out]; exact decide_eq_true hk0, HB2.out⟩
    · obtain rfl : k = xs.length := by omega
      have HA := Lib.hid (any_take (isRefB n) xs (fun m hm => hall.out m hm hm))
      go_wp2_with fail
      go_ret
      exact ⟨-1, rfl, by rw [HA.out]; decide, hb⟩

set_option maxRecDepth 100000 in
set_option maxHeartbeats 2000000 in
theorem refAny (a : Option Addr) (c : Nat) (xs : List Ru) (n : ByteArray) (nb : Nat) (w : World) (hx : Sl 6 RRu 0 w a c xs) (hnb : w.cell? ⟨nb, 0, none⟩ = some (.string n)) (hlt0 : nb < w.heap.size) :
    Calls Tryz.prog 51 #[.slice a xs.length c, .func (.func 47) #[] #[.pointer (some ⟨nb, 0, none⟩)]] w fun e w' => e = .returned (.bool (xs.any (isRefB n))) ∧ Below w.heap.size w w' := by
  have HI := Lib.hid (refIndex a c xs n nb w hx hnb hlt0)
  clear hx hnb
  go_enter Tryz.func51, Tryz.ntmps51
  go_wp2_with fail
  refine HI.out.mono ?_
  rintro e w2 ⟨z, rfl, hz, b2⟩
  go_wp2_with fail
  go_ret
  exact ⟨by rw [← hz]; rfl, b2⟩

/-- A table that refers to another one. -/
def tabB (n : ByteArray) (t : Tb) : Bool := !(t.name.toList == n.toList) && t.rules.any (isRefB n)

set_option maxRecDepth 100000 in
set_option maxHeartbeats 4000000 in
theorem tabC (vs : List Value) (x : Tb) (nb rf : Nat) (n : ByteArray) (w : World) (hR : RTb 0 w vs x) (hnb : w.cell? ⟨nb, 0, none⟩ = some (.string n)) (hlt : nb < w.heap.size) (hrf : w.cell? ⟨rf, 0, none⟩ = some (.func (.func 47) #[] #[.pointer (some ⟨nb, 0, none⟩)])) (hlt2 : rf < w.heap.size) :
    Calls Tryz.prog 50 #[.agg vs.toArray, .pointer (some ⟨nb, 0, none⟩), .pointer (some ⟨rf, 0, none⟩)] w fun e w' => e = .returned (.bool (tabB n x)) ∧ Below w.heap.size w w' := by
  obtain ⟨a0, c0, a1, c1, rfl, _, _, k1⟩ := hR
  have hba : Below w.heap.size w (w.alloc (.cells [.string x.name, .slice a0 x.cols.length c0, .slice a1 x.rules.length c1, .int .i64 x.token].toArray 55)) := (Below.refl _ _).alloc (Nat.le_refl _) _
  have hnb' := (hba.cell (p := ⟨nb, 0, none⟩) hlt).trans hnb
  have hrf' := (hba.cell (p := ⟨rf, 0, none⟩) hlt2).trans hrf
  have K1 := Lib.hid (k1.kept goodRu (Kept.below hba))
  have hlt3 := Nat.lt_of_lt_of_le hlt hba.size
  have HA := Lib.hid (refAny a1 c1 x.rules n nb _ K1.out hnb' hlt3)
  have HB := Lib.hid hba
  clear k1 hba
  cases h1 : (x.name.toList == n.toList) with
  | true =>
    have HV : Hid (tabB n x = false) := by unfold Hid tabB; rw [h1]; rfl
    rw [HV.out]
    have h2 : (!(x.name.toList == n.toList)) = false := by rw [h1]; rfl
    go_enter Tryz.func50, Tryz.ntmps50
    go_wp2_with fail
    go_ret
    exact ⟨rfl, HB.out⟩
  | false =>
    have HV : Hid (tabB n x = x.rules.any (isRefB n)) := by unfold Hid tabB; rw [h1]; simp
    rw [HV.out]
    have h2 : (!(x.name.toList == n.toList)) = true := by rw [h1]; rfl
    go_enter Tryz.func50, Tryz.ntmps50
    go_wp2_with fail
    refine HA.out.mono ?_
    rintro e w2 ⟨rfl, b2⟩
    have HB2 := Lib.hid (HB.out.trans (b2.mono HB.out.size))
    clear b2
    go_wp2_with fail
    go_ret
    exact ⟨rfl, HB2.out⟩

/-- On this table. -/
def onIx (n : ByteArray) (x : Ix) : Bool := x.table.toList == n.toList

set_option maxRecDepth 100000 in
set_option maxHeartbeats 2000000 in
theorem onIxC (vs : List Value) (x : Ix) (nb : Nat) (n : ByteArray) (w : World) (hR : RIx 0 w vs x) (hnb : w.cell? ⟨nb, 0, none⟩ = some (.string n)) (hlt : nb < w.heap.size) :
    Calls Tryz.prog 53 #[.agg vs.toArray, .pointer (some ⟨nb, 0, none⟩)] w fun e w' => e = .returned (.bool (onIx n x)) ∧ Below w.heap.size w w' := by
  obtain ⟨a0, c0, rfl, _⟩ := hR
  have hba : Below w.heap.size w (w.alloc (.cells [.string x.name, .string x.table, .slice a0 x.cols.length c0, .bool x.uniq].toArray 87)) := (Below.refl _ _).alloc (Nat.le_refl _) _
  have hnb' := (hba.cell (p := ⟨nb, 0, none⟩) hlt).trans hnb
  obtain ⟨v, hv⟩ : ∃ v, (x.table.toList == n.toList) = v := ⟨_, rfl⟩
  have HV : Hid (onIx n x = v) := hv
  rw [HV.out]
  have HB := Lib.hid hba
  clear hba
  go_enter Tryz.func53, Tryz.ntmps53
  go_wp2_with fail
  go_ret
  exact ⟨rfl, HB.out⟩

/-- On this table. -/
def onVw (n : ByteArray) (x : Vw) : Bool := x.table.toList == n.toList

set_option maxRecDepth 100000 in
set_option maxHeartbeats 2000000 in
theorem onVwC (vs : List Value) (x : Vw) (nb : Nat) (n : ByteArray) (w : World) (hR : RVw 0 w vs x) (hnb : w.cell? ⟨nb, 0, none⟩ = some (.string n)) (hlt : nb < w.heap.size) :
    Calls Tryz.prog 55 #[.agg vs.toArray, .pointer (some ⟨nb, 0, none⟩)] w fun e w' => e = .returned (.bool (onVw n x)) ∧ Below w.heap.size w w' := by
  obtain ⟨a0, c0, a1, c1, rfl, _⟩ := hR
  have hba : Below w.heap.size w (w.alloc (.cells [.string x.name, .string x.table, .slice a0 x.cols.length c0, .slice a1 x.whr.length c1].toArray 89)) := (Below.refl _ _).alloc (Nat.le_refl _) _
  have hnb' := (hba.cell (p := ⟨nb, 0, none⟩) hlt).trans hnb
  obtain ⟨v, hv⟩ : ∃ v, (x.table.toList == n.toList) = v := ⟨_, rfl⟩
  have HV : Hid (onVw n x = v) := hv
  rw [HV.out]
  have HB := Lib.hid hba
  clear hba
  go_enter Tryz.func55, Tryz.ntmps55
  go_wp2_with fail
  go_ret
  exact ⟨rfl, HB.out⟩

end Go.Proofs.YtjjdcdnaonfnmaaGreat

namespace Go.Proofs.YtjjdcdnaonfnmaaGreat
open Go.RowKit

set_option maxRecDepth 100000 in
set_option maxHeartbeats 4000000 in
theorem nwKey (a : Option Addr) (c : Nat) (xs : List Ru) (w : World) (fr0 : Value) (fr1 : Value) (pred : Ru → Bool) (hx : Sl 6 RRu 0 w a c xs) (hn : xs.length ≤ 1048576)
    (HW : Hid (∀ (W : World) (vs : List Value) (x : Ru), Below w.heap.size w W → RRu 0 W vs x → Calls Tryz.prog 63 #[.agg vs.toArray, fr0, fr1] W fun e w' => e = .returned (.bool (pred x)) ∧ Below W.heap.size W w')) :
    Calls Tryz.prog 62 #[.slice a xs.length c, .func (.func 63) #[] #[fr0, fr1]] w (NewStrs w ((xs.filter pred).map Ru.name)) := by
  obtain ⟨i0, hi0, hz0, hz1, hz2⟩ := info_parts Tryz.infoString
  have hl := hx.len
  have HX := Lib.hid (fun w' (hb : Below w.heap.size w w') => hx.kept goodRu (Kept.below hb))
  have hm : ∀ (v : Value) (w : World), (method 323 85 v "loop.example/g00751/impl.ownName").run Tryz.prog w = .ok (160, v) w := fun _ _ => by kernel_rfl
  clear hx
  go_enter Tryz.func62, Tryz.ntmps62
  go_wp2_with fail
  go_loopw [5, 10] (fun o i wr => ∃ (k : Nat) (ys : List ByteArray) (a' : Option Addr) (c' : Nat), k ≤ xs.length ∧ i = .int .i64 k ∧ o = .slice a' ys.length c' ∧ ys.length ≤ k ∧ Hid (ys = ((xs.take k).filter pred).map Ru.name ∧ Own wr w.heap.size a' c' ys ∧ Below w.heap.size w wr)) (fun _ i _ => xs.length - (intOf i).toNat)
  case atStart => exact ⟨0, [], none, 0, Nat.zero_le _, rfl, rfl, Nat.le_refl _, rfl, Own.nil _ _, Below.refl _ _⟩
  case round =>
    obtain ⟨k, ys, a1, c1, hk, rfl, rfl, hyl, hS⟩ := hrel
    by_cases hlt : k < xs.length
    · obtain ⟨b, off, vs, rfl, hbl, hcs, hR⟩ := (HX.out _ hS.out.2.2).spot hlt
      have HR := hR
      obtain ⟨p0, q0, p1, q1, p2, q2, rfl, hfit, _⟩ := hR
      have hsm : xs[k].name.size ≤ maxLen := hfit.1
      have HK := Lib.hid HR
      obtain ⟨v, hv⟩ : ∃ v, pred xs[k] = v := ⟨_, rfl⟩
      have HWk := Lib.hid (fun (W : World) (vs : List Value) (hB : Below w.heap.size w W) (hRW : RRu 0 W vs (xs[k]'hlt)) => HW.out W vs (xs[k]'hlt) hB hRW)
      rw [hv] at HWk
      have HV := Lib.hid hv
      have hc0 : wr.cell? ⟨b, off + k * 6, none⟩ = some (.string xs[k].name) := hcs 0 (by simp)
      have hc1 : wr.cell? ⟨b, off + k * 6 + 1, none⟩ = some (.int .i64 xs[k].kind) := hcs 1 (by simp)
      have hc2 : wr.cell? ⟨b, off + k * 6 + 2, none⟩ = some (.slice p0 xs[k].cols.length q0) := hcs 2 (by simp)
      have hc3 : wr.cell? ⟨b, off + k * 6 + 3, none⟩ = some (.slice p1 xs[k].expr.length q1) := hcs 3 (by simp)
      have hc4 : wr.cell? ⟨b, off + k * 6 + 4, none⟩ = some (.string xs[k].table) := hcs 4 (by simp)
      have hc5 : wr.cell? ⟨b, off + k * 6 + 5, none⟩ = some (.slice p2 xs[k].to.length q2) := hcs 5 (by simp)
      clear HR hcs hv
      go_wp2_with fail
      have hba : Below wr.heap.size wr (wr.alloc (.cells #[.string xs[k].name, .int .i64 xs[k].kind, .slice p0 xs[k].cols.length q0, .slice p1 xs[k].expr.length q1, .string xs[k].table, .slice p2 xs[k].to.length q2] 85)) := (Below.refl _ _).alloc (Nat.le_refl _) _
      refine (HWk.out _ _ (hS.out.2.2.trans (hba.mono hS.out.2.2.size)) (goodRu.kept HK.out (Kept.below hba))).mono ?_
      rintro e w2 ⟨rfl, b2⟩
      have A2 := Lib.hid (show Blk w2 wr.heap.size [.string xs[k].name, .int .i64 xs[k].kind, .slice p0 xs[k].cols.length q0, .slice p1 xs[k].expr.length q1, .string xs[k].table, .slice p2 xs[k].to.length q2] from Blk.call b2 (blk_new wr _ [.string xs[k].name, .int .i64 xs[k].kind, .slice p0 xs[k].cols.length q0, .slice p1 xs[k].expr.length q1, .string xs[k].table, .slice p2 xs[k].to.length q2]))
      have HB2 := Lib.hid (hba.trans (b2.mono hba.size))
      clear b2 hba
      have g0 : w2.cell? ⟨wr.heap.size, 0, none⟩ = some (.string xs[k].name) := (A2.out.2 0 (by simp)).1
      have g1 : w2.cell? ⟨wr.heap.size, 1, none⟩ = some (.int .i64 xs[k].kind) := (A2.out.2 1 (by simp)).1
      have g2 : w2.cell? ⟨wr.heap.size, 2, none⟩ = some (.slice p0 xs[k].cols.length q0) := (A2.out.2 2 (by simp)).1
      have g3 : w2.cell? ⟨wr.heap.size, 3, none⟩ = some (.slice p1 xs[k].expr.length q1) := (A2.out.2 3 (by simp)).1
      have g4 : w2.cell? ⟨wr.heap.size, 4, none⟩ = some (.string xs[k].table) := (A2.out.2 4 (by simp)).1
      have g5 : w2.cell? ⟨wr.heap.size, 5, none⟩ = some (.slice p2 xs[k].to.length q2) := (A2.out.2 5 (by simp)).1
      have HTK := Lib.hid (take_filter pred xs k hlt)
      cases v with
      | false =>
        have HE : Hid (((xs.take (k + 1)).filter pred).map Ru.name = ((xs.take k).filter pred).map Ru.name) := by unfold Hid; rw [HTK.out, if_neg (by rw [HV.out]; decide), List.append_nil]
        go_wp2_with fail
        go_roundw
        case rel => exact ⟨k + 1, ys, a1, c1, by omega, by go_num, rfl, by omega, by rw [HE.out]; exact hS.out.1, hS.out.2.1.below HB2.out, hS.out.2.2.trans (HB2.out.mono hS.out.2.2.size)⟩
        case measure => simp [intOf]; omega
      | true =>
        have HE : Hid (((xs.take (k + 1)).filter pred).map Ru.name = ((xs.take k).filter pred).map Ru.name ++ [xs[k].name]) := by unfold Hid; rw [HTK.out, if_pos HV.out, List.map_append]; rfl
        have HO := Lib.hid (fun W => ownRu _ xs[k] W ⟨0, _, HK.out⟩)
        go_wp2_with fail
        refine (HO.out w2).mono ?_
        rintro e w3 ⟨rfl, b3⟩
        have HB3 := Lib.hid (HB2.out.trans (b3.mono HB2.out.size))
        have HOW := Lib.hid (hS.out.2.1.below HB3.out)
        clear b3 g0 g1 g2 g3 g4 g5
        have hw3 : w.heap.size ≤ w3.heap.size := Nat.le_trans hS.out.2.2.size HB3.out.size
        go_wp2_with (at_builtin; refine wpAppendStrs rfl _ _ rfl i0 hi0 hz0 hz1 hz2 w.heap.size a1 c1 ys (some ⟨_, 0, none⟩) 1 [xs[k].name] rfl (HOW.out.alloc _) rfl (strsOne _ _ hsm) (by simp only [List.length_cons, List.length_nil]; omega) (by simp; omega) ?_; intro a9 c9 w9 hown9 hg9)
        have HN9 := Lib.hid (And.intro hown9 (appended (hS.out.2.2.trans (HB3.out.mono hS.out.2.2.size)) (Nat.le_refl _) HOW.out hg9))
        clear hown9 hg9
        go_wp2_with fail
        go_roundw
        case rel => exact ⟨k + 1, ys ++ [xs[k].name], a9, c9, by omega, by go_num, by simp, by simp; omega, by rw [HE.out, hS.out.1], HN9.out.1, HN9.out.2⟩
        case measure => simp [intOf]; omega
    · obtain rfl : k = xs.length := by omega
      go_wp2_with fail
      go_ret
      have h1 := hS.out.1
      rw [List.take_length] at h1
      subst h1
      exact ⟨a1, c1, rfl, hS.out.2.1, hS.out.2.2⟩

end Go.Proofs.YtjjdcdnaonfnmaaGreat

namespace Go.Proofs.YtjjdcdnaonfnmaaGreat
open Go.RowKit

theorem eqB_len {xs ys : List ByteArray} (h : xs.length ≠ ys.length) : eqB xs ys = false := by
  unfold eqB
  cases hb : (xs.map ByteArray.toList == ys.map ByteArray.toList) with
  | false => rfl
  | true =>
    have := congrArg List.length (LawfulBEq.eq_of_beq hb)
    rw [List.length_map, List.length_map] at this
    exact absurd this h
theorem eqB_miss {xs ys : List ByteArray} (k : Nat) (hx : k < xs.length) (hy : k < ys.length) (h : (xs[k].toList == ys[k].toList) = false) : eqB xs ys = false := by
  unfold eqB
  cases hb : (xs.map ByteArray.toList == ys.map ByteArray.toList) with
  | false => rfl
  | true =>
    have h1 := LawfulBEq.eq_of_beq hb
    have h2 : (xs.map ByteArray.toList)[k]? = (ys.map ByteArray.toList)[k]? := by rw [h1]
    rw [List.getElem?_map, List.getElem?_map, List.getElem?_eq_getElem hx, List.getElem?_eq_getElem hy] at h2
    have h3 : xs[k].toList = ys[k].toList := by simpa using h2
    rw [h3, beq_self_eq_true] at h
    cases h
theorem eqB_all {xs ys : List ByteArray} (hl : xs.length = ys.length) (h : ∀ m (hx : m < xs.length) (hy : m < ys.length), (xs[m].toList == ys[m].toList) = true) : eqB xs ys = true := by
  unfold eqB
  rw [beq_iff_eq]
  refine List.ext_getElem (by rw [List.length_map, List.length_map, hl]) fun m h1 h2 => ?_
  rw [List.getElem_map, List.getElem_map]
  exact LawfulBEq.eq_of_beq (h m (by simpa using h1) (by simpa using h2))

set_option maxHeartbeats 1000000 in
theorem goEqual (a a' : Option Addr) (c c' : Nat) (xs ys : List ByteArray) (w : World) (hx : Strs w a c xs) (hy : Strs w a' c' ys) :
    Calls Tryz.prog 64 #[.slice a xs.length c, .slice a' ys.length c'] w (Quiet w (.bool (eqB xs ys))) := by
  have hl := hx.len
  have hl' := hy.len
  by_cases hne : xs.length = ys.length
  · have hne' : (((xs.length : Int)) != (ys.length : Int)) = false := by rw [hne]; simp
    go_enter Tryz.func64, Tryz.ntmps64
    go_wp2
    go_loopw [13] (fun i wr => ∃ k n : Nat, k ≤ xs.length ∧ i = .int .i64 k ∧ Hid (∀ m (hx : m < xs.length) (hy : m < ys.length), m < k → (xs[m].toList == ys[m].toList) = true) ∧ wr = w.drewN n) (fun i _ => xs.length - (intOf i).toNat)
    case atStart => exact ⟨0, 0, Nat.zero_le _, rfl, fun m _ _ h => absurd h (by omega), rfl⟩
    case round =>
      obtain ⟨k, n, hk, rfl, hall, rfl⟩ := hrel
      by_cases hlt : k < xs.length
      · have hlt' : k < ys.length := by omega
        obtain ⟨b, off, rfl, hb, hc⟩ := hx.spot hlt
        obtain ⟨b', off', rfl, hb', hc'⟩ := hy.spot hlt'
        have hk0 : (0 : Int) ≤ (k : Int) := by omega
        cases hs : (xs[k].toList == ys[k].toList) with
        | true =>
          have HS := Lib.hid hs
          go_wp2
          go_quiet (fail)
          go_wp2
          go_roundw
          case rel =>
            refine ⟨k + 1, n + nq, by omega, by go_num, fun m h1 h2 h3 => ?_, rfl⟩
            by_cases hm : m < k
            · exact hall.out m h1 h2 hm
            · obtain rfl : m = k := by omega
              exact HS.out
          case measure => simp [intOf]; omega
        | false =>
          have HE := Lib.hid (eqB_miss k hlt hlt' hs)
          go_wp2
          go_quiet (fail)
          go_wp2
          go_ret
          exact ⟨by rw [HE.out]; rfl, n + nq, World.drewN_drewN ..⟩
      · have HE := Lib.hid (eqB_all hne fun m h1 h2 => hall.out m h1 h2 (by omega))
        go_wp2
        go_ret
        exact ⟨by rw [HE.out]; rfl, n, rfl⟩
  · have hne' : (((xs.length : Int)) != (ys.length : Int)) = true := by simp; omega
    rw [eqB_len hne]
    go_enter Tryz.func64, Tryz.ntmps64
    go_wp2
    go_ret
    exact ⟨rfl, 0, rfl⟩

set_option maxHeartbeats 1000000 in
theorem specSame (a a' : Option Addr) (c c' : Nat) (xs ys : List ByteArray) (w : World) (hx : Strs w a c xs) (hy : Strs w a' c' ys) :
    Calls Tryz.prog 59 #[.slice a xs.length c, .slice a' ys.length c'] w (Quiet w (.bool (eqB xs ys))) := by
  have hl := hx.len
  have hl' := hy.len
  by_cases hne : xs.length = ys.length
  · have hne' : (((xs.length : Int)) != (ys.length : Int)) = false := by rw [hne]; simp
    go_enter Tryz.func59, Tryz.ntmps59
    go_wp2
    go_loopw [5] (fun i wr => ∃ k n : Nat, k ≤ xs.length ∧ i = .int .i64 k ∧ Hid (∀ m (hx : m < xs.length) (hy : m < ys.length), m < k → (xs[m].toList == ys[m].toList) = true) ∧ wr = w.drewN n) (fun i _ => xs.length - (intOf i).toNat)
    case atStart => exact ⟨0, 0, Nat.zero_le _, rfl, fun m _ _ h => absurd h (by omega), rfl⟩
    case round =>
      obtain ⟨k, n, hk, rfl, hall, rfl⟩ := hrel
      by_cases hlt : k < xs.length
      · have hlt' : k < ys.length := by omega
        obtain ⟨b, off, rfl, hb, hc⟩ := hx.spot hlt
        obtain ⟨b', off', rfl, hb', hc'⟩ := hy.spot hlt'
        have hk0 : (0 : Int) ≤ (k : Int) := by omega
        cases hs : (xs[k].toList == ys[k].toList) with
        | true =>
          have HS := Lib.hid hs
          go_wp2
          go_quiet (fail)
          go_wp2
          go_roundw
          case rel =>
            refine ⟨k + 1, n + nq, by omega, by go_num, fun m h1 h2 h3 => ?_, rfl⟩
            by_cases hm : m < k
            · exact hall.out m h1 h2 hm
            · obtain rfl : m = k := by omega
              exact HS.out
          case measure => simp [intOf]; omega
        | false =>
          have HE := Lib.hid (eqB_miss k hlt hlt' hs)
          go_wp2
          go_quiet (fail)
          go_wp2
          go_ret
          exact ⟨by rw [HE.out]; rfl, n + nq, World.drewN_drewN ..⟩
      · have HE := Lib.hid (eqB_all hne fun m h1 h2 => hall.out m h1 h2 (by omega))
        go_wp2
        go_ret
        exact ⟨by rw [HE.out]; rfl, n, rfl⟩
  · have hne' : (((xs.length : Int)) != (ys.length : Int)) = true := by simp; omega
    rw [eqB_len hne]
    go_enter Tryz.func59, Tryz.ntmps59
    go_wp2
    go_ret
    exact ⟨rfl, 0, rfl⟩

/-- A key: a primary one or one of the others. -/
def keyB (r : Ru) : Bool := r.kind == 0 || r.kind == 1

set_option maxRecDepth 100000 in
set_option maxHeartbeats 2000000 in
theorem implIsKey (vs : List Value) (x : Ru) (w : World) (hR : RRu 0 w vs x) :
    Calls Tryz.prog 91 #[.agg vs.toArray] w fun e w' => e = .returned (.bool (keyB x)) ∧ Below w.heap.size w w' := by
  have HB : Hid (∀ o : Obj, Below w.heap.size w (w.alloc o)) := fun o => (Below.refl _ _).alloc (Nat.le_refl _) _
  obtain ⟨a0, c0, a1, c1, a2, c2, rfl, _⟩ := hR
  cases h1 : (x.kind == 0) with
  | true =>
    have HV : Hid (keyB x = true) := by unfold Hid keyB; rw [h1]; rfl
    rw [HV.out]
    go_enter Tryz.func91, Tryz.ntmps91
    go_wp2_with fail
    go_ret
    exact ⟨rfl, HB.out _⟩
  | false =>
    obtain ⟨v, hv⟩ : ∃ v, (x.kind == 1) = v := ⟨_, rfl⟩
    have HV : Hid (keyB x = v) := by unfold Hid keyB; rw [h1, hv]; rfl
    rw [HV.out]
    go_enter Tryz.func91, Tryz.ntmps91
    go_wp2_with fail
    go_ret
    exact ⟨rfl, HB.out _⟩

set_option maxHeartbeats 1000000 in
theorem specKeyIn (r : Ru) (w : World) :
    Calls Tryz.prog 58 #[.int .i64 r.kind, .int .i64 0, .int .i64 1] w (Quiet w (.bool (keyB r))) := by
  have hz : keyB r = (decide (0 ≤ r.kind) && decide (r.kind ≤ 1)) := by
    unfold keyB
    by_cases h0 : r.kind = 0
    · simp [h0]
    · by_cases h1 : r.kind = 1
      · simp [h1]
      · have e1 : (r.kind == 0) = false := by simpa using h0
        have e2 : (r.kind == 1) = false := by simpa using h1
        rw [e1, e2]
        by_cases h2 : 0 ≤ r.kind
        · rw [decide_eq_false (show ¬ (r.kind ≤ 1) by omega)]; simp
        · rw [decide_eq_false h2]; simp
  rw [hz]
  by_cases h1 : 0 ≤ r.kind
  · by_cases h2 : r.kind ≤ 1
    · rw [decide_eq_true h1, decide_eq_true h2]
      go_enter Tryz.func58, Tryz.ntmps58
      go_wp2
      go_ret
      exact ⟨rfl, 0, rfl⟩
    · rw [decide_eq_true h1, decide_eq_false h2]
      go_enter Tryz.func58, Tryz.ntmps58
      go_wp2
      go_ret
      exact ⟨rfl, 0, rfl⟩
  · rw [decide_eq_false h1]
    go_enter Tryz.func58, Tryz.ntmps58
    go_wp2
    go_ret
    exact ⟨rfl, 0, rfl⟩

end Go.Proofs.YtjjdcdnaonfnmaaGreat

namespace Go.Proofs.YtjjdcdnaonfnmaaGreat
open Go.RowKit

/-- A reference to a key. -/
def isToB (n : ByteArray) (cols : List ByteArray) (r : Ru) : Bool := isRefB n r && eqB r.to cols
def keyF (n : ByteArray) (cols : List ByteArray) (_ : Nat) (t : Tb) : List ByteArray := (t.rules.filter (isToB n cols)).map Ru.name

/-- What the closures have captured: a text and a list of texts. -/
structure KE (nb : Nat) (n : ByteArray) (cb : Nat) (ca : Option Addr) (cc : Nat) (cols : List ByteArray) (W : World) : Prop where
  nbc : W.cell? ⟨nb, 0, none⟩ = some (.string n)
  nbl : nb < W.heap.size
  cbc : W.cell? ⟨cb, 0, none⟩ = some (.slice ca cols.length cc)
  cbl : cb < W.heap.size
  st : Strs W ca cc cols

theorem KE.below {nb : Nat} {n : ByteArray} {cb : Nat} {ca : Option Addr} {cc : Nat} {cols : List ByteArray} {W W' : World} (h : KE nb n cb ca cc cols W) (hb : Below W.heap.size W W') : KE nb n cb ca cc cols W' :=
  ⟨(hb.cell (p := ⟨nb, 0, none⟩) h.nbl).trans h.nbc, Nat.lt_of_lt_of_le h.nbl hb.size, (hb.cell (p := ⟨cb, 0, none⟩) h.cbl).trans h.cbc, Nat.lt_of_lt_of_le h.cbl hb.size, h.st.below hb⟩

set_option maxRecDepth 100000 in
set_option maxHeartbeats 2000000 in
theorem keyC (vs : List Value) (x : Ru) (nb : Nat) (n : ByteArray) (cb : Nat) (ca : Option Addr) (cc : Nat) (cols : List ByteArray) (w : World) (hR : RRu 0 w vs x) (hK : KE nb n cb ca cc cols w) :
    Calls Tryz.prog 63 #[.agg vs.toArray, .pointer (some ⟨nb, 0, none⟩), .pointer (some ⟨cb, 0, none⟩)] w fun e w' => e = .returned (.bool (isToB n cols x)) ∧ Below w.heap.size w w' := by
  have HR := Lib.hid hR
  obtain ⟨a0, c0, a1, c1, a2, c2, rfl, _, _, _, k2⟩ := hR
  have hba : Below w.heap.size w (w.alloc (.cells [.string x.name, .int .i64 x.kind, .slice a0 x.cols.length c0, .slice a1 x.expr.length c1, .string x.table, .slice a2 x.to.length c2].toArray 85)) := (Below.refl _ _).alloc (Nat.le_refl _) _
  have HK := Lib.hid (hK.below hba)
  have hnb := HK.out.nbc
  have HRW := Lib.hid (goodRu.kept HR.out (Kept.below hba))
  have HT := Lib.hid (k2.1.below hba)
  have HX := Lib.hid (fun T => blk_new w T [.string x.name, .int .i64 x.kind, .slice a0 x.cols.length c0, .slice a1 x.expr.length c1, .string x.table, .slice a2 x.to.length c2])
  have HB := Lib.hid hba
  have hV : isToB n cols x = (isRefB n x && eqB x.to cols) := rfl
  have HV := Lib.hid hV
  clear hba hK k2 hV
  cases hv : isRefB n x with
  | false =>
    rw [HV.out, hv, Bool.false_and]
    go_enter Tryz.func63, Tryz.ntmps63
    go_wp2_with fail
    refine (implIsRef _ x n _ HRW.out).mono ?_
    rintro e w2 ⟨rfl, b2⟩
    rw [hv]
    have HB2 := Lib.hid (HB.out.trans (b2.mono HB.out.size))
    clear b2
    go_wp2_with fail
    go_ret
    exact ⟨rfl, HB2.out⟩
  | true =>
    rw [HV.out, hv, Bool.true_and]
    go_enter Tryz.func63, Tryz.ntmps63
    go_wp2_with fail
    refine (implIsRef _ x n _ HRW.out).mono ?_
    rintro e w2 ⟨rfl, b2⟩
    rw [hv]
    have HB2 := Lib.hid (HB.out.trans (b2.mono HB.out.size))
    have HT2 := Lib.hid (HT.out.below b2)
    have HK2 := Lib.hid (HK.out.below b2)
    have hcb := HK2.out.cbc
    have h5 : w2.cell? ⟨w.heap.size, 5, none⟩ = some (.slice a2 x.to.length c2) := (((HX.out _).below b2).2 5 (by simp)).1
    clear b2
    go_wp2_with fail
    refine (goEqual a2 ca c2 cc x.to cols _ HT2.out HK2.out.st).mono ?_
    rintro e w3 ⟨rfl, n3, rfl⟩
    go_wp2_with fail
    go_ret
    exact ⟨rfl, below_drewN HB2.out n3⟩

set_option maxRecDepth 100000 in
set_option maxHeartbeats 2000000 in
theorem keyT (us : List Value) (t : Tb) (i : Nat) (nb : Nat) (n : ByteArray) (cb : Nat) (ca : Option Addr) (cc : Nat) (cols : List ByteArray) (w : World) (hR : RTb 0 w us t) (hK : KE nb n cb ca cc cols w) (hn : t.rules.length ≤ 1048576) :
    Calls Tryz.prog 61 #[.int .i64 (i : Int), .agg us.toArray, .pointer (some ⟨nb, 0, none⟩), .pointer (some ⟨cb, 0, none⟩)] w (NewStrs w (keyF n cols i t)) := by
  obtain ⟨a0, c0, a1, c1, rfl, _, _, k0⟩ := hR
  have hba : Below w.heap.size w (w.alloc (.cells [.string t.name, .slice a0 t.cols.length c0, .slice a1 t.rules.length c1, .int .i64 t.token].toArray 55)) := (Below.refl _ _).alloc (Nat.le_refl _) _
  have K0 := Lib.hid (k0.kept goodRu (Kept.below hba))
  have HB := Lib.hid hba
  have HK := Lib.hid (hK.below hba)
  clear k0 hba hK
  go_enter Tryz.func61, Tryz.ntmps61
  go_wp2_with fail
  refine (nwKey a1 c1 t.rules _ (.pointer (some ⟨nb, 0, none⟩)) (.pointer (some ⟨cb, 0, none⟩)) (isToB n cols) K0.out hn ?_).mono ?_
  · intro W vs x hb hx
    exact keyC vs x nb n cb ca cc cols W hx (HK.out.below hb)
  rintro e w2 ⟨a2, c2, rfl, own2, b2⟩
  have HO := Lib.hid (own2.lower (B' := w.heap.size) HB.out.size)
  have HB2 := Lib.hid (HB.out.trans (b2.mono HB.out.size))
  clear own2 b2
  go_wp2_with fail
  go_ret
  exact ⟨a2, c2, by simp [keyF], HO.out, HB2.out⟩

theorem ru_name {t : Tb} {x : Ru} (h : x ∈ t.rules) : t.name.size + 1 + x.name.size ≤ t.wt := by
  obtain ⟨i, hi, rfl⟩ := List.mem_iff_getElem.1 h
  have h1 := wtS_get Ru.wt hi
  have h2 : t.wt = t.name.size + (t.cols.length + wtS Co.wt t.cols) + (t.rules.length + wtS Ru.wt t.rules) := rfl
  have h3 : t.rules[i].name.size ≤ t.rules[i].wt := by
    have : t.rules[i].wt = t.rules[i].name.size + (t.rules[i].cols.length + lets t.rules[i].cols) + (t.rules[i].expr.length + wtL t.rules[i].expr) + t.rules[i].table.size + (t.rules[i].to.length + lets t.rules[i].to) := rfl
    omega
  have h4 : 0 < t.rules.length := by omega
  omega

theorem key_light (n : ByteArray) (cols : List ByteArray) : Light (keyF n cols) := by
  intro i t
  have h2 : t.wt = t.name.size + (t.cols.length + wtS Co.wt t.cols) + (t.rules.length + wtS Ru.wt t.rules) := rfl
  unfold keyF
  refine ⟨?_, fun s hs => ?_⟩
  · rw [List.length_map]
    have := List.length_filter_le (isToB n cols) t.rules
    omega
  · obtain ⟨x, hx, rfl⟩ := List.mem_map.1 hs
    exact ru_name (List.mem_filter.1 hx).1

end Go.Proofs.YtjjdcdnaonfnmaaGreat

namespace Go.Proofs.YtjjdcdnaonfnmaaGreat
open Go.RowKit

set_option maxHeartbeats 1000000 in
theorem ownTb (vs : List Value) (x : Tb) (w : World) (hR : ∃ lo w', RTb lo w' vs x) :
    Calls Tryz.prog 158 #[.agg vs.toArray] w fun e w' => e = .returned (.string x.name) ∧ Below w.heap.size w w' := by
  obtain ⟨_, _, hR⟩ := hR
  obtain ⟨a0, c0, a1, c1, rfl, _⟩ := hR
  go_enter Tryz.func158, Tryz.ntmps158
  go_wp2_with fail
  go_ret
  exact ⟨rfl, (Below.refl _ _).alloc (Nat.le_refl _) _⟩

set_option maxRecDepth 100000 in
set_option maxHeartbeats 1000000 in
theorem isTb (vs : List Value) (x : Tb) (nb : Nat) (n : ByteArray) (w : World) (hR : RTb 0 w vs x) (hnb : w.cell? ⟨nb, 0, none⟩ = some (.string n)) (hlt : nb < w.heap.size) :
    Calls Tryz.prog 140 #[.agg vs.toArray, .pointer (some ⟨nb, 0, none⟩)] w fun e w' => e = .returned (.bool (x.name.toList == n.toList)) ∧ Below w.heap.size w w' := by
  have HO := Lib.hid (fun w2 => ownTb vs x w2 ⟨_, _, hR⟩)
  obtain ⟨a0, c0, a1, c1, rfl, _⟩ := hR
  have hdr := below_drewE (Below.refl (w.alloc (.cells [.string x.name, .slice a0 x.cols.length c0, .slice a1 x.rules.length c1, .int .i64 x.token].toArray 55)).heap.size (w.alloc (.cells [.string x.name, .slice a0 x.cols.length c0, .slice a1 x.rules.length c1, .int .i64 x.token].toArray 55)))
  have Q := Lib.hid ((blk_new w 55 [.string x.name, .slice a0 x.cols.length c0, .slice a1 x.rules.length c1, .int .i64 x.token]).below hdr)
  have QN := Lib.hid ((hdr.cell (p := ⟨nb, 0, none⟩) (by simp; omega)).trans ((World.cell?_alloc_lt w (.cells [.string x.name, .slice a0 x.cols.length c0, .slice a1 x.rules.length c1, .int .i64 x.token].toArray 55) ⟨nb, 0, none⟩ hlt).trans hnb))
  have hnl : nb < (w.alloc (.cells [.string x.name, .slice a0 x.cols.length c0, .slice a1 x.rules.length c1, .int .i64 x.token].toArray 55)).heap.size := by simp; omega
  have hwl : w.heap.size < (w.alloc (.cells [.string x.name, .slice a0 x.cols.length c0, .slice a1 x.rules.length c1, .int .i64 x.token].toArray 55)).heap.size := by simp
  clear hdr
  have hne : nb ≠ w.heap.size := by omega
  have hm : ∀ (v : Value) (w : World), (method 323 55 v "loop.example/g00751/impl.ownName").run Tryz.prog w = .ok (158, v) w := fun _ _ => by kernel_rfl
  go_enter Tryz.func140, Tryz.ntmps140
  go_wp2_with fail
  go_region_held3 (fun w' => w'.cell? ⟨nb, 0, none⟩ = some (.string n) ∧ w'.cell? ⟨w.heap.size, 0, none⟩ = some (.string x.name) ∧ w'.cell? ⟨w.heap.size, 1, none⟩ = some (.slice a0 x.cols.length c0) ∧ w'.cell? ⟨w.heap.size, 2, none⟩ = some (.slice a1 x.rules.length c1) ∧ w'.cell? ⟨w.heap.size, 3, none⟩ = some (.int .i64 x.token)) (first | assumption | exact ⟨QN.out, (Q.out.2 0 (by simp)).1, (Q.out.2 1 (by simp)).1, (Q.out.2 2 (by simp)).1, (Q.out.2 3 (by simp)).1⟩ | exact ⟨(hcw _ _ hnl).trans QN.out, (hcw _ _ hwl).trans (Q.out.2 0 (by simp)).1, (hcw _ _ hwl).trans (Q.out.2 1 (by simp)).1, (hcw _ _ hwl).trans (Q.out.2 2 (by simp)).1, (hcw _ _ hwl).trans (Q.out.2 3 (by simp)).1⟩ | exact (hcw _ _ hnl).trans QN.out | exact (hcw _ _ hwl).trans (Q.out.2 0 (by simp)).1 | exact (hcw _ _ hwl).trans (Q.out.2 1 (by simp)).1 | exact (hcw _ _ hwl).trans (Q.out.2 2 (by simp)).1 | exact (hcw _ _ hwl).trans (Q.out.2 3 (by simp)).1)
    ((go_at_call 158; refine (HO.out _).mono ?_; rintro e w2 ⟨rfl, b2⟩; obtain ⟨hcw, _⟩ := bcellE b2))
  go_wp2_with fail
  go_ret
  exact ⟨rfl, Below.call b2 (below_drewE (by ((repeat (first | refine Below.alloc ?_ (by first | omega | (simp; done) | (simp; omega)) _ | refine Below.setCell ?_ (by first | omega | (simp; done) | (simp; omega)) _)); first | exact Below.refl _ _ | exact Below.refl _ _)))⟩

set_option maxRecDepth 100000 in
set_option maxHeartbeats 2000000 in
theorem indexTb (a : Option Addr) (c : Nat) (xs : List Tb) (n : ByteArray) (nb : Nat) (w : World) (hx : Sl 4 RTb 0 w a c xs) (hnb : w.cell? ⟨nb, 0, none⟩ = some (.string n)) (hlt0 : nb < w.heap.size) :
    Calls Tryz.prog 139 #[.slice a xs.length c, .func (.func 140) #[] #[.pointer (some ⟨nb, 0, none⟩)]] w fun e w' =>
      e = .returned (.int .i64 (findAt Tb.name xs n)) ∧ Below w.heap.size w w' := by
  have hl := hx.len
  have HX := Lib.hid (fun w' (hb : Below w.heap.size w w') => hx.kept goodTb (Kept.below hb))
  have HN := Lib.hid (fun w' (hb : Below w.heap.size w w') => (And.intro ((hb.cell (p := ⟨nb, 0, none⟩) hlt0).trans hnb) (Nat.lt_of_lt_of_le hlt0 hb.size)))
  clear hx
  go_enter Tryz.func139, Tryz.ntmps139
  go_wp2
  go_loopw [8] (fun i wr => ∃ k : Nat, k ≤ xs.length ∧ i = .int .i64 k ∧ Hid (∀ m (hm : m < xs.length), m < k → (xs[m].name.toList == n.toList) = false) ∧ Below w.heap.size w wr) (fun i _ => xs.length - (intOf i).toNat)
  case atStart => exact ⟨0, Nat.zero_le _, rfl, fun m h hm => absurd hm (by omega), Below.refl _ _⟩
  case round =>
    obtain ⟨k, hk, rfl, hall, hb⟩ := hrel
    by_cases hlt : k < xs.length
    · obtain ⟨b, off, vs, rfl, hbl, hcs, hR⟩ := (HX.out _ hb).spot hlt
      obtain ⟨hn1, hn2⟩ := HN.out _ hb
      have HR := hR
      obtain ⟨a0, c0, a1, c1, rfl, _⟩ := hR
      have hc0 : wr.cell? ⟨b, off + k * 4, none⟩ = some (.string xs[k].name) := hcs 0 (by simp)
      have hc1 : wr.cell? ⟨b, off + k * 4 + 1, none⟩ = some (.slice a0 xs[k].cols.length c0) := hcs 1 (by simp)
      have hc2 : wr.cell? ⟨b, off + k * 4 + 2, none⟩ = some (.slice a1 xs[k].rules.length c1) := hcs 2 (by simp)
      have hc3 : wr.cell? ⟨b, off + k * 4 + 3, none⟩ = some (.int .i64 xs[k].token) := hcs 3 (by simp)
      have HK := Lib.hid HR
      clear HR hcs
      go_wp2_with fail
      refine (isTb _ xs[k] nb n _ HK.out hn1 hn2).mono ?_
      rintro e w2 ⟨rfl, hb2⟩
      have HB2 := Lib.hid (hb.trans (hb2.mono hb.size))
      clear hb2
      cases he : (xs[k].name.toList == n.toList) with
      | true =>
        have HE := Lib.hid (findAt_hit Tb.name xs n k hlt hall.out he)
        clear he
        go_wp2_with fail
        go_ret
        exact ⟨by rw [HE.out]; rfl, HB2.out⟩
      | false =>
        have HE := Lib.hid he
        clear he
        go_wp2_with fail
        go_roundw
        case rel => exact ⟨k + 1, by omega, by go_num, fun m hm h1 => by
          rcases Nat.lt_or_ge m k with h2 | h2
          · exact hall.out m hm h2
          · obtain rfl : m = k := by omega
            exact HE.out, HB2.out⟩
        case measure => simp [intOf]; omega
    · have HE := Lib.hid (findAt_miss Tb.name xs n fun m hm => hall.out m hm (by omega))
      go_wp2_with fail
      go_ret
      exact ⟨by rw [HE.out]; rfl, hb⟩

set_option maxHeartbeats 1000000 in
theorem placeTb (a : Option Addr) (c : Nat) (xs : List Tb) (n : ByteArray) (w : World) (hx : Sl 4 RTb 0 w a c xs) :
    Calls Tryz.prog 128 #[.slice a xs.length c, .string n] w fun e w' => e = .returned (.int .i64 (findAt Tb.name xs n)) ∧ Below w.heap.size w w' := by
  have hmf : ∀ (fn : Fn) (first cap : Array Value) (w : World), (Instr.makeFunc fn first cap).run Tryz.prog w = .ok (.func fn first cap) w := fun _ _ _ _ => rfl
  have HX := Lib.hid (fun w' (hb : Below w.heap.size w w') => hx.kept goodTb (Kept.below hb))
  clear hx
  go_enter Tryz.func128, Tryz.ntmps128
  go_wp2_with fail
  refine (indexTb a c xs n w.heap.size _ (HX.out _ (by ((repeat (first | refine Below.alloc ?_ (by first | omega | (simp; done) | (simp; omega)) _ | refine Below.setCell ?_ (by first | omega | (simp; done) | (simp; omega)) _)); first | exact Below.refl _ _ | exact Below.refl _ _))) (by simp [go_sem]) (by simp)).mono ?_
  rintro e w2 ⟨rfl, b2⟩
  have B2 := Lib.hid (show Below w.heap.size w w2 from Below.call b2 (by ((repeat (first | refine Below.alloc ?_ (by first | omega | (simp; done) | (simp; omega)) _ | refine Below.setCell ?_ (by first | omega | (simp; done) | (simp; omega)) _)); first | exact Below.refl _ _ | exact Below.refl _ _)))
  clear b2
  go_wp2_with fail
  go_ret
  exact ⟨rfl, B2.out⟩

end Go.Proofs.YtjjdcdnaonfnmaaGreat

namespace Go.Proofs.YtjjdcdnaonfnmaaGreat
open Go.RowKit

set_option maxHeartbeats 1000000 in
theorem implTableAt (vs : List Value) (x : Pl) (n : ByteArray) (w : World) (hR : RPl 0 w vs x) :
    Calls Tryz.prog 106 #[.agg vs.toArray, .string n] w fun e w' => e = .returned (.int .i64 (findAt Tb.name x.tables n)) ∧ Below w.heap.size w w' := by
  obtain ⟨a0, c0, a1, c1, a2, c2, a3, c3, a4, c4, rfl, _, k0, k1, k2, k3, k4⟩ := hR
  have HK := Lib.hid (fun w' (hb : Below w.heap.size w w') => k2.kept goodTb (Kept.below hb))
  clear k0 k1 k2 k3 k4
  go_enter Tryz.func106, Tryz.ntmps106
  go_wp2_with fail
  refine (placeTb a2 c2 x.tables n _ (HK.out _ (by ((repeat (first | refine Below.alloc ?_ (by first | omega | (simp; done) | (simp; omega)) _ | refine Below.setCell ?_ (by first | omega | (simp; done) | (simp; omega)) _)); first | exact Below.refl _ _ | exact Below.refl _ _)))).mono ?_
  rintro e w2 ⟨rfl, b2⟩
  have B2 := Lib.hid (show Below w.heap.size w w2 from Below.call b2 (by ((repeat (first | refine Below.alloc ?_ (by first | omega | (simp; done) | (simp; omega)) _ | refine Below.setCell ?_ (by first | omega | (simp; done) | (simp; omega)) _)); first | exact Below.refl _ _ | exact Below.refl _ _)))
  clear b2
  go_wp2_with fail
  go_ret
  exact ⟨rfl, B2.out⟩

set_option maxHeartbeats 1000000 in
theorem specTableAt (vs : List Value) (x : Pl) (n : ByteArray) (w : World) (hR : RPl 0 w vs x) :
    Calls Tryz.prog 56 #[.agg vs.toArray, .string n] w fun e w' => e = .returned (.int .i64 (findAt Tb.name x.tables n)) ∧ Below w.heap.size w w' := by
  obtain ⟨a0, c0, a1, c1, a2, c2, a3, c3, a4, c4, rfl, _, k0, k1, k2, k3, k4⟩ := hR
  have hl := k2.len
  have HK := Lib.hid (fun w' (hb : Below w.heap.size w w') => k2.kept goodTb (Kept.below hb))
  have HB0 := Lib.hid (fun T => blk_new w T [.slice a0 x.enums.length c0, .slice a1 x.seqs.length c1, .slice a2 x.tables.length c2, .slice a3 x.indexes.length c3, .slice a4 x.views.length c4, .int .i64 x.next])
  clear k0 k1 k2 k3 k4
  go_enter Tryz.func56, Tryz.ntmps56
  go_wp2_with fail
  go_loopw [5] (fun i wr => ∃ k : Nat, k ≤ x.tables.length ∧ i = .int .i64 k ∧ Hid (∀ m (hm : m < x.tables.length), m < k → (x.tables[m].name.toList == n.toList) = false) ∧ Blk wr w.heap.size [.slice a0 x.enums.length c0, .slice a1 x.seqs.length c1, .slice a2 x.tables.length c2, .slice a3 x.indexes.length c3, .slice a4 x.views.length c4, .int .i64 x.next] ∧ Below w.heap.size w wr) (fun i _ => x.tables.length - (intOf i).toNat)
  case atStart => exact ⟨0, Nat.zero_le _, rfl, fun m h hm => absurd hm (by omega), HB0.out _, (Below.refl _ _).alloc (Nat.le_refl _) _⟩
  case round =>
    obtain ⟨k, hk, rfl, hall, hblk, hb⟩ := hrel
    have g2 : wr.cell? ⟨w.heap.size, 2, none⟩ = some (.slice a2 x.tables.length c2) := (hblk.2 2 (by simp)).1
    by_cases hlt : k < x.tables.length
    · obtain ⟨b, off, us, rfl, hbl, hcs, hR⟩ := (HK.out _ hb).spot hlt
      obtain ⟨p0, q0, p1, q1, rfl, _⟩ := hR
      have hc0 : wr.cell? ⟨b, off + k * 4, none⟩ = some (.string x.tables[k].name) := hcs 0 (by simp)
      clear hcs
      cases he : (x.tables[k].name.toList == n.toList) with
      | true =>
        have HE := Lib.hid (findAt_hit Tb.name x.tables n k hlt hall.out he)
        go_wp2_with fail
        go_ret
        exact ⟨by rw [HE.out]; rfl, hb⟩
      | false =>
        have HE := Lib.hid he
        go_wp2_with fail
        go_roundw
        case rel => exact ⟨k + 1, by omega, by go_num, fun m hm h1 => by
          rcases Nat.lt_or_ge m k with h2 | h2
          · exact hall.out m hm h2
          · obtain rfl : m = k := by omega
            exact HE.out, hblk, hb⟩
        case measure => simp [intOf]; omega
    · have HE := Lib.hid (findAt_miss Tb.name x.tables n fun m hm => hall.out m hm (by omega))
      go_wp2_with fail
      go_ret
      exact ⟨by rw [HE.out]; rfl, hb⟩

end Go.Proofs.YtjjdcdnaonfnmaaGreat

namespace Go.Proofs.YtjjdcdnaonfnmaaGreat
open Go.RowKit

set_option maxHeartbeats 1000000 in
theorem implRuleAt (vs : List Value) (x : Tb) (n : ByteArray) (w : World) (hR : RTb 0 w vs x) :
    Calls Tryz.prog 90 #[.agg vs.toArray, .string n] w fun e w' => e = .returned (.int .i64 (findAt Ru.name x.rules n)) ∧ Below w.heap.size w w' := by
  obtain ⟨a0, c0, a1, c1, rfl, _, k0, k1⟩ := hR
  have HK := Lib.hid (fun w' (hb : Below w.heap.size w w') => k1.kept goodRu (Kept.below hb))
  clear k0 k1
  go_enter Tryz.func90, Tryz.ntmps90
  go_wp2_with fail
  refine (placeRu a1 c1 x.rules n _ (HK.out _ (by ((repeat (first | refine Below.alloc ?_ (by first | omega | (simp; done) | (simp; omega)) _ | refine Below.setCell ?_ (by first | omega | (simp; done) | (simp; omega)) _)); first | exact Below.refl _ _ | exact Below.refl _ _)))).mono ?_
  rintro e w2 ⟨rfl, b2⟩
  have B2 := Lib.hid (show Below w.heap.size w w2 from Below.call b2 (by ((repeat (first | refine Below.alloc ?_ (by first | omega | (simp; done) | (simp; omega)) _ | refine Below.setCell ?_ (by first | omega | (simp; done) | (simp; omega)) _)); first | exact Below.refl _ _ | exact Below.refl _ _)))
  clear b2
  go_wp2_with fail
  go_ret
  exact ⟨rfl, B2.out⟩

set_option maxHeartbeats 1000000 in
theorem specRuleAt (vs : List Value) (x : Tb) (n : ByteArray) (w : World) (hR : RTb 0 w vs x) :
    Calls Tryz.prog 57 #[.agg vs.toArray, .string n] w fun e w' => e = .returned (.int .i64 (findAt Ru.name x.rules n)) ∧ Below w.heap.size w w' := by
  obtain ⟨a0, c0, a1, c1, rfl, _, k0, k1⟩ := hR
  have hl := k1.len
  have HK := Lib.hid (fun w' (hb : Below w.heap.size w w') => k1.kept goodRu (Kept.below hb))
  have HB0 := Lib.hid (fun T => blk_new w T [.string x.name, .slice a0 x.cols.length c0, .slice a1 x.rules.length c1, .int .i64 x.token])
  clear k0 k1
  go_enter Tryz.func57, Tryz.ntmps57
  go_wp2_with fail
  go_loopw [5] (fun i wr => ∃ k : Nat, k ≤ x.rules.length ∧ i = .int .i64 k ∧ Hid (∀ m (hm : m < x.rules.length), m < k → (x.rules[m].name.toList == n.toList) = false) ∧ Blk wr w.heap.size [.string x.name, .slice a0 x.cols.length c0, .slice a1 x.rules.length c1, .int .i64 x.token] ∧ Below w.heap.size w wr) (fun i _ => x.rules.length - (intOf i).toNat)
  case atStart => exact ⟨0, Nat.zero_le _, rfl, fun m h hm => absurd hm (by omega), HB0.out _, (Below.refl _ _).alloc (Nat.le_refl _) _⟩
  case round =>
    obtain ⟨k, hk, rfl, hall, hblk, hb⟩ := hrel
    have g2 : wr.cell? ⟨w.heap.size, 2, none⟩ = some (.slice a1 x.rules.length c1) := (hblk.2 2 (by simp)).1
    by_cases hlt : k < x.rules.length
    · obtain ⟨b, off, us, rfl, hbl, hcs, hR⟩ := (HK.out _ hb).spot hlt
      obtain ⟨p0, q0, p1, q1, p2, q2, rfl, _⟩ := hR
      have hc0 : wr.cell? ⟨b, off + k * 6, none⟩ = some (.string x.rules[k].name) := hcs 0 (by simp)
      clear hcs
      cases he : (x.rules[k].name.toList == n.toList) with
      | true =>
        have HE := Lib.hid (findAt_hit Ru.name x.rules n k hlt hall.out he)
        go_wp2_with fail
        go_ret
        exact ⟨by rw [HE.out]; rfl, hb⟩
      | false =>
        have HE := Lib.hid he
        go_wp2_with fail
        go_roundw
        case rel => exact ⟨k + 1, by omega, by go_num, fun m hm h1 => by
          rcases Nat.lt_or_ge m k with h2 | h2
          · exact hall.out m hm h2
          · obtain rfl : m = k := by omega
            exact HE.out, hblk, hb⟩
        case measure => simp [intOf]; omega
    · have HE := Lib.hid (findAt_miss Ru.name x.rules n fun m hm => hall.out m hm (by omega))
      go_wp2_with fail
      go_ret
      exact ⟨by rw [HE.out]; rfl, hb⟩

end Go.Proofs.YtjjdcdnaonfnmaaGreat
