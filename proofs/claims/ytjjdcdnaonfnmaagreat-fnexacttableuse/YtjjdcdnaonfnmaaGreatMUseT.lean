/- impl's closures over rules, tables, indexes and views. Written by tools/gen_useT.py. -/
/- impl.placeOf over a list of Table. Written by tools/gen_plan.py. -/
/- impl.placeOf over a list of Index. Written by tools/gen_plan.py. -/
/- impl.placeOf over a list of View. Written by tools/gen_plan.py. -/
/- impl.namesWhere over tables, indexes, views. Written by tools/gen_use.py. -/
/- impl.TableUse. Written by tools/gen_useTI.py. -/
import Derived.Test.YtjjdcdnaonfnmaaGreatMClone
import Derived.Test.YtjjdcdnaonfnmaaGreatMPlFind
import Derived.Test.YtjjdcdnaonfnmaaGreatMPut
import Derived.Test.YtjjdcdnaonfnmaaGreatMTyp2
import Derived.Deep.RegionHeld
namespace Go.Proofs.YtjjdcdnaonfnmaaGreat
open Go.RowKit

/-- A reference to a table. -/
def isRefB (n : ByteArray) (x : Ru) : Bool := x.kind == 3 && x.table.toList == n.toList

set_option maxRecDepth 100000 in
set_option maxHeartbeats 2000000 in
theorem implIsRef (vs : List Value) (x : Ru) (n : ByteArray) (w : World) (hR : RRu 0 w vs x) :
    Calls Tryz.prog 48 #[.agg vs.toArray, .string n] w fun e w' => e = .returned (.bool (isRefB n x)) ∧ Below w.heap.size w w' := by
  have HB : Hid (∀ o : Obj, Below w.heap.size w (w.alloc o)) := fun o => (Below.refl _ _).alloc (Nat.le_refl _) _
  obtain ⟨a0, c0, a1, c1, a2, c2, rfl, _⟩ := hR
  cases h1 : (x.kind == 3) with
  | false =>
    have HV : Hid (isRefB n x = false) := by unfold Hid isRefB; rw [h1]; rfl
    rw [HV.out]
    go_enter Tryz.func48, Tryz.ntmps48
    go_wp2_with fail
    go_ret
    exact ⟨rfl, HB.out _⟩
  | true =>
    obtain ⟨v, hv⟩ : ∃ v, (x.table.toList == n.toList) = v := ⟨_, rfl⟩
    have HV : Hid (isRefB n x = v) := by unfold Hid isRefB; rw [h1, hv]; rfl
    rw [HV.out]
    go_enter Tryz.func48, Tryz.ntmps48
    go_wp2_with fail
    go_ret
    exact ⟨rfl, HB.out _⟩

set_option maxRecDepth 100000 in
set_option maxHeartbeats 2000000 in
theorem refC (vs : List Value) (x : Ru) (nb : Nat) (n : ByteArray) (w : World) (hR : RRu 0 w vs x) (hnb : w.cell? ⟨nb, 0, none⟩ = some (.string n)) (hlt : nb < w.heap.size) :
    Calls Tryz.prog 47 #[.agg vs.toArray, .pointer (some ⟨nb, 0, none⟩)] w fun e w' => e = .returned (.bool (isRefB n x)) ∧ Below w.heap.size w w' := by
  have HR := Lib.hid hR
  obtain ⟨a0, c0, a1, c1, a2, c2, rfl, _⟩ := hR
  have hba : Below w.heap.size w (w.alloc (.cells [.string x.name, .int .i64 x.kind, .slice a0 x.cols.length c0, .slice a1 x.expr.length c1, .string x.table, .slice a2 x.to.length c2].toArray 85)) := (Below.refl _ _).alloc (Nat.le_refl _) _
  have hnb' := (hba.cell (p := ⟨nb, 0, none⟩) hlt).trans hnb
  have HRW := Lib.hid (goodRu.kept HR.out (Kept.below hba))
  have HB := Lib.hid hba
  clear hba
  go_enter Tryz.func47, Tryz.ntmps47
  go_wp2_with fail
  refine (implIsRef _ x n _ HRW.out).mono ?_
  rintro e w2 ⟨rfl, b2⟩
  have HB2 := Lib.hid (HB.out.trans (b2.mono HB.out.size))
  clear b2
  go_wp2_with fail
  go_ret
  exact ⟨rfl, HB2.out⟩

theorem any_take {X : Type} (p : X → Bool) (xs : List X) (h : ∀ m (hm : m < xs.length), p xs[m] = false) : xs.any p = false := by
  rw [List.any_eq_false]
  intro x hx
  obtain ⟨i, hi, rfl⟩ := List.mem_iff_getElem.1 hx
  rw [h i hi]
  decide

set_option maxRecDepth 100000 in
set_option maxHeartbeats 4000000 in
theorem refIndex (a : Option Addr) (c : Nat) (xs : List Ru) (n : ByteArray) (nb : Nat) (w : World) (hx : Sl 6 RRu 0 w a c xs) (hnb : w.cell? ⟨nb, 0, none⟩ = some (.string n)) (hlt0 : nb < w.heap.size) :
    Calls Tryz.prog 88 #[.slice a xs.length c, .func (.func 47) #[] #[.pointer (some ⟨nb, 0, none⟩)]] w fun e w' =>
      ∃ z : Int, e = .returned (.int .i64 z) ∧ decide (0 ≤ z) = xs.any (isRefB n) ∧ Below w.heap.size w w' := by
  have hl := hx.len
  have HX := Lib.hid (fun w' (hb : Below w.heap.size w w') => hx.kept goodRu (Kept.below hb))
  have HN := Lib.hid (fun w' (hb : Below w.heap.size w w') => (And.intro ((hb.cell (p := ⟨nb, 0, none⟩) hlt0).trans hnb) (Nat.lt_of_lt_of_le hlt0 hb.size)))
  clear hx
  go_enter Tryz.func88, Tryz.ntmps88
  go_wp2
  go_loopw [8] (fun i wr => ∃ k : Nat, k ≤ xs.length ∧ i = .int .i64 k ∧ Hid (∀ m (hm : m < xs.length), m < k → isRefB n xs[m] = false) ∧ Below w.heap.size w wr) (fun i _ => xs.length - (intOf i).toNat)
  case atStart => exact ⟨0, Nat.zero_le _, rfl, fun m h hm => absurd hm (by omega), Below.refl _ _⟩
  case round =>
    obtain ⟨k, hk, rfl, hall, hb⟩ := hrel
    by_cases hlt : k < xs.length
    · obtain ⟨b, off, vs, rfl, hbl, hcs, hR⟩ := (HX.out _ hb).spot hlt
      obtain ⟨hn1, hn2⟩ := HN.out _ hb
      have HK := Lib.hid hR
      obtain ⟨p0, q0, p1, q1, p2, q2, rfl, _⟩ := hR
      have hc0 : wr.cell? ⟨b, off + k * 6, none⟩ = some (.string xs[k].name) := hcs 0 (by simp)
      have hc1 : wr.cell? ⟨b, off + k * 6 + 1, none⟩ = some (.int .i64 xs[k].kind) := hcs 1 (by simp)
      have hc2 : wr.cell? ⟨b, off + k * 6 + 2, none⟩ = some (.slice p0 xs[k].cols.length q0) := hcs 2 (by simp)
      have hc3 : wr.cell? ⟨b, off + k * 6 + 3, none⟩ = some (.slice p1 xs[k].expr.length q1) := hcs 3 (by simp)
      have hc4 : wr.cell? ⟨b, off + k * 6 + 4, none⟩ = some (.string xs[k].table) := hcs 4 (by simp)
      have hc5 : wr.cell? ⟨b, off + k * 6 + 5, none⟩ = some (.slice p2 xs[k].to.length q2) := hcs 5 (by simp)
      have hk0 : (0 : Int) ≤ (k : Int) := by omega
      obtain ⟨v, hv⟩ : ∃ v, isRefB n xs[k] = v := ⟨_, rfl⟩
      have HC := Lib.hid (refC _ xs[k] nb n wr HK.out hn1 hn2)
      rw [hv] at HC
      have HV := Lib.hid hv
      clear hv hcs hn1
      go_wp2_with fail
      refine HC.out.mono ?_
      rintro e w2 ⟨rfl, b2⟩
      have HB2 := Lib.hid (hb.trans (b2.mono hb.size))
      clear b2
      cases v with
      | false =>
        go_wp2_with fail
        go_roundw
        case rel =>
          refine ⟨k + 1, by omega, by go_num, fun m hm hmk => ?_, HB2.out⟩
          rcases Nat.lt_or_ge m k with h | h
          · exact hall.out m hm h
          · obtain rfl : m = k := by omega
            exact HV.out
        case measure => simp [intOf]; omega
      | true =>
        have hany : xs.any (isRefB n) = true := List.any_eq_true.2 ⟨xs[k], List.getElem_mem hlt, HV.out⟩
        have HA := Lib.hid hany
        clear hany
        go_wp2_with fail
        go_ret
        exact ⟨(k : Int), rfl, by rw [HA.out]; exact decide_eq_true hk0, HB2.out⟩
    · obtain rfl : k = xs.length := by omega
      have HA := Lib.hid (any_take (isRefB n) xs (fun m hm => hall.out m hm hm))
      go_wp2_with fail
      go_ret
      exact ⟨-1, rfl, by rw [HA.out]; decide, hb⟩

set_option maxRecDepth 100000 in
set_option maxHeartbeats 2000000 in
theorem refAny (a : Option Addr) (c : Nat) (xs : List Ru) (n : ByteArray) (nb : Nat) (w : World) (hx : Sl 6 RRu 0 w a c xs) (hnb : w.cell? ⟨nb, 0, none⟩ = some (.string n)) (hlt0 : nb < w.heap.size) :
    Calls Tryz.prog 51 #[.slice a xs.length c, .func (.func 47) #[] #[.pointer (some ⟨nb, 0, none⟩)]] w fun e w' => e = .returned (.bool (xs.any (isRefB n))) ∧ Below w.heap.size w w' := by
  have HI := Lib.hid (refIndex a c xs n nb w hx hnb hlt0)
  clear hx hnb
  go_enter Tryz.func51, Tryz.ntmps51
  go_wp2_with fail
  refine HI.out.mono ?_
  rintro e w2 ⟨z, rfl, hz, b2⟩
  go_wp2_with fail
  go_ret
  exact ⟨by rw [← hz]; rfl, b2⟩

/-- A table that refers to another one. -/
def tabB (n : ByteArray) (t : Tb) : Bool := !(t.name.toList == n.toList) && t.rules.any (isRefB n)

set_option maxRecDepth 100000 in
set_option maxHeartbeats 4000000 in
theorem tabC (vs : List Value) (x : Tb) (nb rf : Nat) (n : ByteArray) (w : World) (hR : RTb 0 w vs x) (hnb : w.cell? ⟨nb, 0, none⟩ = some (.string n)) (hlt : nb < w.heap.size) (hrf : w.cell? ⟨rf, 0, none⟩ = some (.func (.func 47) #[] #[.pointer (some ⟨nb, 0, none⟩)])) (hlt2 : rf < w.heap.size) :
    Calls Tryz.prog 50 #[.agg vs.toArray, .pointer (some ⟨nb, 0, none⟩), .pointer (some ⟨rf, 0, none⟩)] w fun e w' => e = .returned (.bool (tabB n x)) ∧ Below w.heap.size w w' := by
  obtain ⟨a0, c0, a1, c1, rfl, _, _, k1⟩ := hR
  have hba : Below w.heap.size w (w.alloc (.cells [.string x.name, .slice a0 x.cols.length c0, .slice a1 x.rules.length c1, .int .i64 x.token].toArray 55)) := (Below.refl _ _).alloc (Nat.le_refl _) _
  have hnb' := (hba.cell (p := ⟨nb, 0, none⟩) hlt).trans hnb
  have hrf' := (hba.cell (p := ⟨rf, 0, none⟩) hlt2).trans hrf
  have K1 := Lib.hid (k1.kept goodRu (Kept.below hba))
  have hlt3 := Nat.lt_of_lt_of_le hlt hba.size
  have HA := Lib.hid (refAny a1 c1 x.rules n nb _ K1.out hnb' hlt3)
  have HB := Lib.hid hba
  clear k1 hba
  cases h1 : (x.name.toList == n.toList) with
  | true =>
    have HV : Hid (tabB n x = false) := by unfold Hid tabB; rw [h1]; rfl
    rw [HV.out]
    have h2 : (!(x.name.toList == n.toList)) = false := by rw [h1]; rfl
    go_enter Tryz.func50, Tryz.ntmps50
    go_wp2_with fail
    go_ret
    exact ⟨rfl, HB.out⟩
  | false =>
    have HV : Hid (tabB n x = x.rules.any (isRefB n)) := by unfold Hid tabB; rw [h1]; simp
    rw [HV.out]
    have h2 : (!(x.name.toList == n.toList)) = true := by rw [h1]; rfl
    go_enter Tryz.func50, Tryz.ntmps50
    go_wp2_with fail
    refine HA.out.mono ?_
    rintro e w2 ⟨rfl, b2⟩
    have HB2 := Lib.hid (HB.out.trans (b2.mono HB.out.size))
    clear b2
    go_wp2_with fail
    go_ret
    exact ⟨rfl, HB2.out⟩

/-- On this table. -/
def onIx (n : ByteArray) (x : Ix) : Bool := x.table.toList == n.toList

set_option maxRecDepth 100000 in
set_option maxHeartbeats 2000000 in
theorem onIxC (vs : List Value) (x : Ix) (nb : Nat) (n : ByteArray) (w : World) (hR : RIx 0 w vs x) (hnb : w.cell? ⟨nb, 0, none⟩ = some (.string n)) (hlt : nb < w.heap.size) :
    Calls Tryz.prog 53 #[.agg vs.toArray, .pointer (some ⟨nb, 0, none⟩)] w fun e w' => e = .returned (.bool (onIx n x)) ∧ Below w.heap.size w w' := by
  obtain ⟨a0, c0, rfl, _⟩ := hR
  have hba : Below w.heap.size w (w.alloc (.cells [.string x.name, .string x.table, .slice a0 x.cols.length c0, .bool x.uniq].toArray 87)) := (Below.refl _ _).alloc (Nat.le_refl _) _
  have hnb' := (hba.cell (p := ⟨nb, 0, none⟩) hlt).trans hnb
  obtain ⟨v, hv⟩ : ∃ v, (x.table.toList == n.toList) = v := ⟨_, rfl⟩
  have HV : Hid (onIx n x = v) := hv
  rw [HV.out]
  have HB := Lib.hid hba
  clear hba
  go_enter Tryz.func53, Tryz.ntmps53
  go_wp2_with fail
  go_ret
  exact ⟨rfl, HB.out⟩

/-- On this table. -/
def onVw (n : ByteArray) (x : Vw) : Bool := x.table.toList == n.toList

set_option maxRecDepth 100000 in
set_option maxHeartbeats 2000000 in
theorem onVwC (vs : List Value) (x : Vw) (nb : Nat) (n : ByteArray) (w : World) (hR : RVw 0 w vs x) (hnb : w.cell? ⟨nb, 0, none⟩ = some (.string n)) (hlt : nb < w.heap.size) :
    Calls Tryz.prog 55 #[.agg vs.toArray, .pointer (some ⟨nb, 0, none⟩)] w fun e w' => e = .returned (.bool (onVw n x)) ∧ Below w.heap.size w w' := by
  obtain ⟨a0, c0, a1, c1, rfl, _⟩ := hR
  have hba : Below w.heap.size w (w.alloc (.cells [.string x.name, .string x.table, .slice a0 x.cols.length c0, .slice a1 x.whr.length c1].toArray 89)) := (Below.refl _ _).alloc (Nat.le_refl _) _
  have hnb' := (hba.cell (p := ⟨nb, 0, none⟩) hlt).trans hnb
  obtain ⟨v, hv⟩ : ∃ v, (x.table.toList == n.toList) = v := ⟨_, rfl⟩
  have HV : Hid (onVw n x = v) := hv
  rw [HV.out]
  have HB := Lib.hid hba
  clear hba
  go_enter Tryz.func55, Tryz.ntmps55
  go_wp2_with fail
  go_ret
  exact ⟨rfl, HB.out⟩

end Go.Proofs.YtjjdcdnaonfnmaaGreat

namespace Go.Proofs.YtjjdcdnaonfnmaaGreat
open Go.RowKit

set_option maxHeartbeats 1000000 in
theorem ownTb (vs : List Value) (x : Tb) (w : World) (hR : ∃ lo w', RTb lo w' vs x) :
    Calls Tryz.prog 158 #[.agg vs.toArray] w fun e w' => e = .returned (.string x.name) ∧ Below w.heap.size w w' := by
  obtain ⟨_, _, hR⟩ := hR
  obtain ⟨a0, c0, a1, c1, rfl, _⟩ := hR
  go_enter Tryz.func158, Tryz.ntmps158
  go_wp2_with fail
  go_ret
  exact ⟨rfl, (Below.refl _ _).alloc (Nat.le_refl _) _⟩

set_option maxRecDepth 100000 in
set_option maxHeartbeats 1000000 in
theorem isTb (vs : List Value) (x : Tb) (nb : Nat) (n : ByteArray) (w : World) (hR : RTb 0 w vs x) (hnb : w.cell? ⟨nb, 0, none⟩ = some (.string n)) (hlt : nb < w.heap.size) :
    Calls Tryz.prog 140 #[.agg vs.toArray, .pointer (some ⟨nb, 0, none⟩)] w fun e w' => e = .returned (.bool (x.name.toList == n.toList)) ∧ Below w.heap.size w w' := by
  have HO := Lib.hid (fun w2 => ownTb vs x w2 ⟨_, _, hR⟩)
  obtain ⟨a0, c0, a1, c1, rfl, _⟩ := hR
  have hdr := below_drewE (Below.refl (w.alloc (.cells [.string x.name, .slice a0 x.cols.length c0, .slice a1 x.rules.length c1, .int .i64 x.token].toArray 55)).heap.size (w.alloc (.cells [.string x.name, .slice a0 x.cols.length c0, .slice a1 x.rules.length c1, .int .i64 x.token].toArray 55)))
  have Q := Lib.hid ((blk_new w 55 [.string x.name, .slice a0 x.cols.length c0, .slice a1 x.rules.length c1, .int .i64 x.token]).below hdr)
  have QN := Lib.hid ((hdr.cell (p := ⟨nb, 0, none⟩) (by simp; omega)).trans ((World.cell?_alloc_lt w (.cells [.string x.name, .slice a0 x.cols.length c0, .slice a1 x.rules.length c1, .int .i64 x.token].toArray 55) ⟨nb, 0, none⟩ hlt).trans hnb))
  have hnl : nb < (w.alloc (.cells [.string x.name, .slice a0 x.cols.length c0, .slice a1 x.rules.length c1, .int .i64 x.token].toArray 55)).heap.size := by simp; omega
  have hwl : w.heap.size < (w.alloc (.cells [.string x.name, .slice a0 x.cols.length c0, .slice a1 x.rules.length c1, .int .i64 x.token].toArray 55)).heap.size := by simp
  clear hdr
  have hne : nb ≠ w.heap.size := by omega
  have hm : ∀ (v : Value) (w : World), (method 323 55 v "loop.example/g00751/impl.ownName").run Tryz.prog w = .ok (158, v) w := fun _ _ => by kernel_rfl
  go_enter Tryz.func140, Tryz.ntmps140
  go_wp2_with fail
  go_region_held3 (fun w' => w'.cell? ⟨nb, 0, none⟩ = some (.string n) ∧ w'.cell? ⟨w.heap.size, 0, none⟩ = some (.string x.name) ∧ w'.cell? ⟨w.heap.size, 1, none⟩ = some (.slice a0 x.cols.length c0) ∧ w'.cell? ⟨w.heap.size, 2, none⟩ = some (.slice a1 x.rules.length c1) ∧ w'.cell? ⟨w.heap.size, 3, none⟩ = some (.int .i64 x.token)) (first | assumption | exact ⟨QN.out, (Q.out.2 0 (by simp)).1, (Q.out.2 1 (by simp)).1, (Q.out.2 2 (by simp)).1, (Q.out.2 3 (by simp)).1⟩ | exact ⟨(hcw _ _ hnl).trans QN.out, (hcw _ _ hwl).trans (Q.out.2 0 (by simp)).1, (hcw _ _ hwl).trans (Q.out.2 1 (by simp)).1, (hcw _ _ hwl).trans (Q.out.2 2 (by simp)).1, (hcw _ _ hwl).trans (Q.out.2 3 (by simp)).1⟩ | exact (hcw _ _ hnl).trans QN.out | exact (hcw _ _ hwl).trans (Q.out.2 0 (by simp)).1 | exact (hcw _ _ hwl).trans (Q.out.2 1 (by simp)).1 | exact (hcw _ _ hwl).trans (Q.out.2 2 (by simp)).1 | exact (hcw _ _ hwl).trans (Q.out.2 3 (by simp)).1)
    ((go_at_call 158; refine (HO.out _).mono ?_; rintro e w2 ⟨rfl, b2⟩; obtain ⟨hcw, _⟩ := bcellE b2))
  go_wp2_with fail
  go_ret
  exact ⟨rfl, Below.call b2 (below_drewE (by ((repeat (first | refine Below.alloc ?_ (by first | omega | (simp; done) | (simp; omega)) _ | refine Below.setCell ?_ (by first | omega | (simp; done) | (simp; omega)) _)); first | exact Below.refl _ _ | exact Below.refl _ _)))⟩

set_option maxRecDepth 100000 in
set_option maxHeartbeats 2000000 in
theorem indexTb (a : Option Addr) (c : Nat) (xs : List Tb) (n : ByteArray) (nb : Nat) (w : World) (hx : Sl 4 RTb 0 w a c xs) (hnb : w.cell? ⟨nb, 0, none⟩ = some (.string n)) (hlt0 : nb < w.heap.size) :
    Calls Tryz.prog 139 #[.slice a xs.length c, .func (.func 140) #[] #[.pointer (some ⟨nb, 0, none⟩)]] w fun e w' =>
      e = .returned (.int .i64 (findAt Tb.name xs n)) ∧ Below w.heap.size w w' := by
  have hl := hx.len
  have HX := Lib.hid (fun w' (hb : Below w.heap.size w w') => hx.kept goodTb (Kept.below hb))
  have HN := Lib.hid (fun w' (hb : Below w.heap.size w w') => (And.intro ((hb.cell (p := ⟨nb, 0, none⟩) hlt0).trans hnb) (Nat.lt_of_lt_of_le hlt0 hb.size)))
  clear hx
  go_enter Tryz.func139, Tryz.ntmps139
  go_wp2
  go_loopw [8] (fun i wr => ∃ k : Nat, k ≤ xs.length ∧ i = .int .i64 k ∧ Hid (∀ m (hm : m < xs.length), m < k → (xs[m].name.toList == n.toList) = false) ∧ Below w.heap.size w wr) (fun i _ => xs.length - (intOf i).toNat)
  case atStart => exact ⟨0, Nat.zero_le _, rfl, fun m h hm => absurd hm (by omega), Below.refl _ _⟩
  case round =>
    obtain ⟨k, hk, rfl, hall, hb⟩ := hrel
    by_cases hlt : k < xs.length
    · obtain ⟨b, off, vs, rfl, hbl, hcs, hR⟩ := (HX.out _ hb).spot hlt
      obtain ⟨hn1, hn2⟩ := HN.out _ hb
      have HR := hR
      obtain ⟨a0, c0, a1, c1, rfl, _⟩ := hR
      have hc0 : wr.cell? ⟨b, off + k * 4, none⟩ = some (.string xs[k].name) := hcs 0 (by simp)
      have hc1 : wr.cell? ⟨b, off + k * 4 + 1, none⟩ = some (.slice a0 xs[k].cols.length c0) := hcs 1 (by simp)
      have hc2 : wr.cell? ⟨b, off + k * 4 + 2, none⟩ = some (.slice a1 xs[k].rules.length c1) := hcs 2 (by simp)
      have hc3 : wr.cell? ⟨b, off + k * 4 + 3, none⟩ = some (.int .i64 xs[k].token) := hcs 3 (by simp)
      have HK := Lib.hid HR
      clear HR hcs
      go_wp2_with fail
      refine (isTb _ xs[k] nb n _ HK.out hn1 hn2).mono ?_
      rintro e w2 ⟨rfl, hb2⟩
      have HB2 := Lib.hid (hb.trans (hb2.mono hb.size))
      clear hb2
      cases he : (xs[k].name.toList == n.toList) with
      | true =>
        have HE := Lib.hid (findAt_hit Tb.name xs n k hlt hall.out he)
        clear he
        go_wp2_with fail
        go_ret
        exact ⟨by rw [HE.out]; rfl, HB2.out⟩
      | false =>
        have HE := Lib.hid he
        clear he
        go_wp2_with fail
        go_roundw
        case rel => exact ⟨k + 1, by omega, by go_num, fun m hm h1 => by
          rcases Nat.lt_or_ge m k with h2 | h2
          · exact hall.out m hm h2
          · obtain rfl : m = k := by omega
            exact HE.out, HB2.out⟩
        case measure => simp [intOf]; omega
    · have HE := Lib.hid (findAt_miss Tb.name xs n fun m hm => hall.out m hm (by omega))
      go_wp2_with fail
      go_ret
      exact ⟨by rw [HE.out]; rfl, hb⟩

set_option maxHeartbeats 1000000 in
theorem placeTb (a : Option Addr) (c : Nat) (xs : List Tb) (n : ByteArray) (w : World) (hx : Sl 4 RTb 0 w a c xs) :
    Calls Tryz.prog 128 #[.slice a xs.length c, .string n] w fun e w' => e = .returned (.int .i64 (findAt Tb.name xs n)) ∧ Below w.heap.size w w' := by
  have hmf : ∀ (fn : Fn) (first cap : Array Value) (w : World), (Instr.makeFunc fn first cap).run Tryz.prog w = .ok (.func fn first cap) w := fun _ _ _ _ => rfl
  have HX := Lib.hid (fun w' (hb : Below w.heap.size w w') => hx.kept goodTb (Kept.below hb))
  clear hx
  go_enter Tryz.func128, Tryz.ntmps128
  go_wp2_with fail
  refine (indexTb a c xs n w.heap.size _ (HX.out _ (by ((repeat (first | refine Below.alloc ?_ (by first | omega | (simp; done) | (simp; omega)) _ | refine Below.setCell ?_ (by first | omega | (simp; done) | (simp; omega)) _)); first | exact Below.refl _ _ | exact Below.refl _ _))) (by simp [go_sem]) (by simp)).mono ?_
  rintro e w2 ⟨rfl, b2⟩
  have B2 := Lib.hid (show Below w.heap.size w w2 from Below.call b2 (by ((repeat (first | refine Below.alloc ?_ (by first | omega | (simp; done) | (simp; omega)) _ | refine Below.setCell ?_ (by first | omega | (simp; done) | (simp; omega)) _)); first | exact Below.refl _ _ | exact Below.refl _ _)))
  clear b2
  go_wp2_with fail
  go_ret
  exact ⟨rfl, B2.out⟩

end Go.Proofs.YtjjdcdnaonfnmaaGreat

namespace Go.Proofs.YtjjdcdnaonfnmaaGreat
open Go.RowKit

set_option maxHeartbeats 1000000 in
theorem ownIx (vs : List Value) (x : Ix) (w : World) (hR : ∃ lo w', RIx lo w' vs x) :
    Calls Tryz.prog 161 #[.agg vs.toArray] w fun e w' => e = .returned (.string x.name) ∧ Below w.heap.size w w' := by
  obtain ⟨_, _, hR⟩ := hR
  obtain ⟨a0, c0, rfl, _⟩ := hR
  go_enter Tryz.func161, Tryz.ntmps161
  go_wp2_with fail
  go_ret
  exact ⟨rfl, (Below.refl _ _).alloc (Nat.le_refl _) _⟩

end Go.Proofs.YtjjdcdnaonfnmaaGreat

namespace Go.Proofs.YtjjdcdnaonfnmaaGreat
open Go.RowKit

set_option maxHeartbeats 1000000 in
theorem ownVw (vs : List Value) (x : Vw) (w : World) (hR : ∃ lo w', RVw lo w' vs x) :
    Calls Tryz.prog 162 #[.agg vs.toArray] w fun e w' => e = .returned (.string x.name) ∧ Below w.heap.size w w' := by
  obtain ⟨_, _, hR⟩ := hR
  obtain ⟨a0, c0, a1, c1, rfl, _⟩ := hR
  go_enter Tryz.func162, Tryz.ntmps162
  go_wp2_with fail
  go_ret
  exact ⟨rfl, (Below.refl _ _).alloc (Nat.le_refl _) _⟩

end Go.Proofs.YtjjdcdnaonfnmaaGreat

namespace Go.Proofs.YtjjdcdnaonfnmaaGreat
open Go.RowKit

set_option maxRecDepth 100000 in
set_option maxHeartbeats 4000000 in
theorem nwTb (a : Option Addr) (c : Nat) (xs : List Tb) (w : World) (fr0 : Value) (fr1 : Value) (pred : Tb → Bool) (hx : Sl 4 RTb 0 w a c xs) (hn : xs.length ≤ 1048576)
    (HW : Hid (∀ (W : World) (vs : List Value) (x : Tb), Below w.heap.size w W → RTb 0 W vs x → Calls Tryz.prog 50 #[.agg vs.toArray, fr0, fr1] W fun e w' => e = .returned (.bool (pred x)) ∧ Below W.heap.size W w')) :
    Calls Tryz.prog 49 #[.slice a xs.length c, .func (.func 50) #[] #[fr0, fr1]] w (NewStrs w ((xs.filter pred).map Tb.name)) := by
  obtain ⟨i0, hi0, hz0, hz1, hz2⟩ := info_parts Tryz.infoString
  have hl := hx.len
  have HX := Lib.hid (fun w' (hb : Below w.heap.size w w') => hx.kept goodTb (Kept.below hb))
  have hm : ∀ (v : Value) (w : World), (method 323 55 v "loop.example/g00751/impl.ownName").run Tryz.prog w = .ok (158, v) w := fun _ _ => by kernel_rfl
  clear hx
  go_enter Tryz.func49, Tryz.ntmps49
  go_wp2_with fail
  go_loopw [5, 10] (fun o i wr => ∃ (k : Nat) (ys : List ByteArray) (a' : Option Addr) (c' : Nat), k ≤ xs.length ∧ i = .int .i64 k ∧ o = .slice a' ys.length c' ∧ ys.length ≤ k ∧ Hid (ys = ((xs.take k).filter pred).map Tb.name ∧ Own wr w.heap.size a' c' ys ∧ Below w.heap.size w wr)) (fun _ i _ => xs.length - (intOf i).toNat)
  case atStart => exact ⟨0, [], none, 0, Nat.zero_le _, rfl, rfl, Nat.le_refl _, rfl, Own.nil _ _, Below.refl _ _⟩
  case round =>
    obtain ⟨k, ys, a1, c1, hk, rfl, rfl, hyl, hS⟩ := hrel
    by_cases hlt : k < xs.length
    · obtain ⟨b, off, vs, rfl, hbl, hcs, hR⟩ := (HX.out _ hS.out.2.2).spot hlt
      have HR := hR
      obtain ⟨p0, q0, p1, q1, rfl, hfit, _⟩ := hR
      have hsm : xs[k].name.size ≤ maxLen := hfit.1
      have HK := Lib.hid HR
      obtain ⟨v, hv⟩ : ∃ v, pred xs[k] = v := ⟨_, rfl⟩
      have HWk := Lib.hid (fun (W : World) (vs : List Value) (hB : Below w.heap.size w W) (hRW : RTb 0 W vs (xs[k]'hlt)) => HW.out W vs (xs[k]'hlt) hB hRW)
      rw [hv] at HWk
      have HV := Lib.hid hv
      have hc0 : wr.cell? ⟨b, off + k * 4, none⟩ = some (.string xs[k].name) := hcs 0 (by simp)
      have hc1 : wr.cell? ⟨b, off + k * 4 + 1, none⟩ = some (.slice p0 xs[k].cols.length q0) := hcs 1 (by simp)
      have hc2 : wr.cell? ⟨b, off + k * 4 + 2, none⟩ = some (.slice p1 xs[k].rules.length q1) := hcs 2 (by simp)
      have hc3 : wr.cell? ⟨b, off + k * 4 + 3, none⟩ = some (.int .i64 xs[k].token) := hcs 3 (by simp)
      clear HR hcs hv
      go_wp2_with fail
      have hba : Below wr.heap.size wr (wr.alloc (.cells #[.string xs[k].name, .slice p0 xs[k].cols.length q0, .slice p1 xs[k].rules.length q1, .int .i64 xs[k].token] 55)) := (Below.refl _ _).alloc (Nat.le_refl _) _
      refine (HWk.out _ _ (hS.out.2.2.trans (hba.mono hS.out.2.2.size)) (goodTb.kept HK.out (Kept.below hba))).mono ?_
      rintro e w2 ⟨rfl, b2⟩
      have A2 := Lib.hid (show Blk w2 wr.heap.size [.string xs[k].name, .slice p0 xs[k].cols.length q0, .slice p1 xs[k].rules.length q1, .int .i64 xs[k].token] from Blk.call b2 (blk_new wr _ [.string xs[k].name, .slice p0 xs[k].cols.length q0, .slice p1 xs[k].rules.length q1, .int .i64 xs[k].token]))
      have HB2 := Lib.hid (hba.trans (b2.mono hba.size))
      clear b2 hba
      have g0 : w2.cell? ⟨wr.heap.size, 0, none⟩ = some (.string xs[k].name) := (A2.out.2 0 (by simp)).1
      have g1 : w2.cell? ⟨wr.heap.size, 1, none⟩ = some (.slice p0 xs[k].cols.length q0) := (A2.out.2 1 (by simp)).1
      have g2 : w2.cell? ⟨wr.heap.size, 2, none⟩ = some (.slice p1 xs[k].rules.length q1) := (A2.out.2 2 (by simp)).1
      have g3 : w2.cell? ⟨wr.heap.size, 3, none⟩ = some (.int .i64 xs[k].token) := (A2.out.2 3 (by simp)).1
      have HTK := Lib.hid (take_filter pred xs k hlt)
      cases v with
      | false =>
        have HE : Hid (((xs.take (k + 1)).filter pred).map Tb.name = ((xs.take k).filter pred).map Tb.name) := by unfold Hid; rw [HTK.out, if_neg (by rw [HV.out]; decide), List.append_nil]
        go_wp2_with fail
        go_roundw
        case rel => exact ⟨k + 1, ys, a1, c1, by omega, by go_num, rfl, by omega, by rw [HE.out]; exact hS.out.1, hS.out.2.1.below HB2.out, hS.out.2.2.trans (HB2.out.mono hS.out.2.2.size)⟩
        case measure => simp [intOf]; omega
      | true =>
        have HE : Hid (((xs.take (k + 1)).filter pred).map Tb.name = ((xs.take k).filter pred).map Tb.name ++ [xs[k].name]) := by unfold Hid; rw [HTK.out, if_pos HV.out, List.map_append]; rfl
        have HO := Lib.hid (fun W => ownTb _ xs[k] W ⟨0, _, HK.out⟩)
        go_wp2_with fail
        refine (HO.out w2).mono ?_
        rintro e w3 ⟨rfl, b3⟩
        have HB3 := Lib.hid (HB2.out.trans (b3.mono HB2.out.size))
        have HOW := Lib.hid (hS.out.2.1.below HB3.out)
        clear b3 g0 g1 g2 g3
        have hw3 : w.heap.size ≤ w3.heap.size := Nat.le_trans hS.out.2.2.size HB3.out.size
        go_wp2_with (at_builtin; refine wpAppendStrs rfl _ _ rfl i0 hi0 hz0 hz1 hz2 w.heap.size a1 c1 ys (some ⟨_, 0, none⟩) 1 [xs[k].name] rfl (HOW.out.alloc _) rfl (strsOne _ _ hsm) (by simp only [List.length_cons, List.length_nil]; omega) (by simp; omega) ?_; intro a9 c9 w9 hown9 hg9)
        have HN9 := Lib.hid (And.intro hown9 (appended (hS.out.2.2.trans (HB3.out.mono hS.out.2.2.size)) (Nat.le_refl _) HOW.out hg9))
        clear hown9 hg9
        go_wp2_with fail
        go_roundw
        case rel => exact ⟨k + 1, ys ++ [xs[k].name], a9, c9, by omega, by go_num, by simp, by simp; omega, by rw [HE.out, hS.out.1], HN9.out.1, HN9.out.2⟩
        case measure => simp [intOf]; omega
    · obtain rfl : k = xs.length := by omega
      go_wp2_with fail
      go_ret
      have h1 := hS.out.1
      rw [List.take_length] at h1
      subst h1
      exact ⟨a1, c1, rfl, hS.out.2.1, hS.out.2.2⟩

set_option maxRecDepth 100000 in
set_option maxHeartbeats 4000000 in
theorem nwIx (a : Option Addr) (c : Nat) (xs : List Ix) (w : World) (fr0 : Value) (pred : Ix → Bool) (hx : Sl 4 RIx 0 w a c xs) (hn : xs.length ≤ 1048576)
    (HW : Hid (∀ (W : World) (vs : List Value) (x : Ix), Below w.heap.size w W → RIx 0 W vs x → Calls Tryz.prog 53 #[.agg vs.toArray, fr0] W fun e w' => e = .returned (.bool (pred x)) ∧ Below W.heap.size W w')) :
    Calls Tryz.prog 52 #[.slice a xs.length c, .func (.func 53) #[] #[fr0]] w (NewStrs w ((xs.filter pred).map Ix.name)) := by
  obtain ⟨i0, hi0, hz0, hz1, hz2⟩ := info_parts Tryz.infoString
  have hl := hx.len
  have HX := Lib.hid (fun w' (hb : Below w.heap.size w w') => hx.kept goodIx (Kept.below hb))
  have hm : ∀ (v : Value) (w : World), (method 323 87 v "loop.example/g00751/impl.ownName").run Tryz.prog w = .ok (161, v) w := fun _ _ => by kernel_rfl
  clear hx
  go_enter Tryz.func52, Tryz.ntmps52
  go_wp2_with fail
  go_loopw [5, 10] (fun o i wr => ∃ (k : Nat) (ys : List ByteArray) (a' : Option Addr) (c' : Nat), k ≤ xs.length ∧ i = .int .i64 k ∧ o = .slice a' ys.length c' ∧ ys.length ≤ k ∧ Hid (ys = ((xs.take k).filter pred).map Ix.name ∧ Own wr w.heap.size a' c' ys ∧ Below w.heap.size w wr)) (fun _ i _ => xs.length - (intOf i).toNat)
  case atStart => exact ⟨0, [], none, 0, Nat.zero_le _, rfl, rfl, Nat.le_refl _, rfl, Own.nil _ _, Below.refl _ _⟩
  case round =>
    obtain ⟨k, ys, a1, c1, hk, rfl, rfl, hyl, hS⟩ := hrel
    by_cases hlt : k < xs.length
    · obtain ⟨b, off, vs, rfl, hbl, hcs, hR⟩ := (HX.out _ hS.out.2.2).spot hlt
      have HR := hR
      obtain ⟨p0, q0, rfl, hfit, _⟩ := hR
      have hsm : xs[k].name.size ≤ maxLen := hfit.1
      have HK := Lib.hid HR
      obtain ⟨v, hv⟩ : ∃ v, pred xs[k] = v := ⟨_, rfl⟩
      have HWk := Lib.hid (fun (W : World) (vs : List Value) (hB : Below w.heap.size w W) (hRW : RIx 0 W vs (xs[k]'hlt)) => HW.out W vs (xs[k]'hlt) hB hRW)
      rw [hv] at HWk
      have HV := Lib.hid hv
      have hc0 : wr.cell? ⟨b, off + k * 4, none⟩ = some (.string xs[k].name) := hcs 0 (by simp)
      have hc1 : wr.cell? ⟨b, off + k * 4 + 1, none⟩ = some (.string xs[k].table) := hcs 1 (by simp)
      have hc2 : wr.cell? ⟨b, off + k * 4 + 2, none⟩ = some (.slice p0 xs[k].cols.length q0) := hcs 2 (by simp)
      have hc3 : wr.cell? ⟨b, off + k * 4 + 3, none⟩ = some (.bool xs[k].uniq) := hcs 3 (by simp)
      clear HR hcs hv
      go_wp2_with fail
      have hba : Below wr.heap.size wr (wr.alloc (.cells #[.string xs[k].name, .string xs[k].table, .slice p0 xs[k].cols.length q0, .bool xs[k].uniq] 87)) := (Below.refl _ _).alloc (Nat.le_refl _) _
      refine (HWk.out _ _ (hS.out.2.2.trans (hba.mono hS.out.2.2.size)) (goodIx.kept HK.out (Kept.below hba))).mono ?_
      rintro e w2 ⟨rfl, b2⟩
      have A2 := Lib.hid (show Blk w2 wr.heap.size [.string xs[k].name, .string xs[k].table, .slice p0 xs[k].cols.length q0, .bool xs[k].uniq] from Blk.call b2 (blk_new wr _ [.string xs[k].name, .string xs[k].table, .slice p0 xs[k].cols.length q0, .bool xs[k].uniq]))
      have HB2 := Lib.hid (hba.trans (b2.mono hba.size))
      clear b2 hba
      have g0 : w2.cell? ⟨wr.heap.size, 0, none⟩ = some (.string xs[k].name) := (A2.out.2 0 (by simp)).1
      have g1 : w2.cell? ⟨wr.heap.size, 1, none⟩ = some (.string xs[k].table) := (A2.out.2 1 (by simp)).1
      have g2 : w2.cell? ⟨wr.heap.size, 2, none⟩ = some (.slice p0 xs[k].cols.length q0) := (A2.out.2 2 (by simp)).1
      have g3 : w2.cell? ⟨wr.heap.size, 3, none⟩ = some (.bool xs[k].uniq) := (A2.out.2 3 (by simp)).1
      have HTK := Lib.hid (take_filter pred xs k hlt)
      cases v with
      | false =>
        have HE : Hid (((xs.take (k + 1)).filter pred).map Ix.name = ((xs.take k).filter pred).map Ix.name) := by unfold Hid; rw [HTK.out, if_neg (by rw [HV.out]; decide), List.append_nil]
        go_wp2_with fail
        go_roundw
        case rel => exact ⟨k + 1, ys, a1, c1, by omega, by go_num, rfl, by omega, by rw [HE.out]; exact hS.out.1, hS.out.2.1.below HB2.out, hS.out.2.2.trans (HB2.out.mono hS.out.2.2.size)⟩
        case measure => simp [intOf]; omega
      | true =>
        have HE : Hid (((xs.take (k + 1)).filter pred).map Ix.name = ((xs.take k).filter pred).map Ix.name ++ [xs[k].name]) := by unfold Hid; rw [HTK.out, if_pos HV.out, List.map_append]; rfl
        have HO := Lib.hid (fun W => ownIx _ xs[k] W ⟨0, _, HK.out⟩)
        go_wp2_with fail
        refine (HO.out w2).mono ?_
        rintro e w3 ⟨rfl, b3⟩
        have HB3 := Lib.hid (HB2.out.trans (b3.mono HB2.out.size))
        have HOW := Lib.hid (hS.out.2.1.below HB3.out)
        clear b3 g0 g1 g2 g3
        have hw3 : w.heap.size ≤ w3.heap.size := Nat.le_trans hS.out.2.2.size HB3.out.size
        go_wp2_with (at_builtin; refine wpAppendStrs rfl _ _ rfl i0 hi0 hz0 hz1 hz2 w.heap.size a1 c1 ys (some ⟨_, 0, none⟩) 1 [xs[k].name] rfl (HOW.out.alloc _) rfl (strsOne _ _ hsm) (by simp only [List.length_cons, List.length_nil]; omega) (by simp; omega) ?_; intro a9 c9 w9 hown9 hg9)
        have HN9 := Lib.hid (And.intro hown9 (appended (hS.out.2.2.trans (HB3.out.mono hS.out.2.2.size)) (Nat.le_refl _) HOW.out hg9))
        clear hown9 hg9
        go_wp2_with fail
        go_roundw
        case rel => exact ⟨k + 1, ys ++ [xs[k].name], a9, c9, by omega, by go_num, by simp, by simp; omega, by rw [HE.out, hS.out.1], HN9.out.1, HN9.out.2⟩
        case measure => simp [intOf]; omega
    · obtain rfl : k = xs.length := by omega
      go_wp2_with fail
      go_ret
      have h1 := hS.out.1
      rw [List.take_length] at h1
      subst h1
      exact ⟨a1, c1, rfl, hS.out.2.1, hS.out.2.2⟩

set_option maxRecDepth 100000 in
set_option maxHeartbeats 4000000 in
theorem nwVw (a : Option Addr) (c : Nat) (xs : List Vw) (w : World) (fr0 : Value) (pred : Vw → Bool) (hx : Sl 4 RVw 0 w a c xs) (hn : xs.length ≤ 1048576)
    (HW : Hid (∀ (W : World) (vs : List Value) (x : Vw), Below w.heap.size w W → RVw 0 W vs x → Calls Tryz.prog 55 #[.agg vs.toArray, fr0] W fun e w' => e = .returned (.bool (pred x)) ∧ Below W.heap.size W w')) :
    Calls Tryz.prog 54 #[.slice a xs.length c, .func (.func 55) #[] #[fr0]] w (NewStrs w ((xs.filter pred).map Vw.name)) := by
  obtain ⟨i0, hi0, hz0, hz1, hz2⟩ := info_parts Tryz.infoString
  have hl := hx.len
  have HX := Lib.hid (fun w' (hb : Below w.heap.size w w') => hx.kept goodVw (Kept.below hb))
  have hm : ∀ (v : Value) (w : World), (method 323 89 v "loop.example/g00751/impl.ownName").run Tryz.prog w = .ok (162, v) w := fun _ _ => by kernel_rfl
  clear hx
  go_enter Tryz.func54, Tryz.ntmps54
  go_wp2_with fail
  go_loopw [5, 10] (fun o i wr => ∃ (k : Nat) (ys : List ByteArray) (a' : Option Addr) (c' : Nat), k ≤ xs.length ∧ i = .int .i64 k ∧ o = .slice a' ys.length c' ∧ ys.length ≤ k ∧ Hid (ys = ((xs.take k).filter pred).map Vw.name ∧ Own wr w.heap.size a' c' ys ∧ Below w.heap.size w wr)) (fun _ i _ => xs.length - (intOf i).toNat)
  case atStart => exact ⟨0, [], none, 0, Nat.zero_le _, rfl, rfl, Nat.le_refl _, rfl, Own.nil _ _, Below.refl _ _⟩
  case round =>
    obtain ⟨k, ys, a1, c1, hk, rfl, rfl, hyl, hS⟩ := hrel
    by_cases hlt : k < xs.length
    · obtain ⟨b, off, vs, rfl, hbl, hcs, hR⟩ := (HX.out _ hS.out.2.2).spot hlt
      have HR := hR
      obtain ⟨p0, q0, p1, q1, rfl, hfit, _⟩ := hR
      have hsm : xs[k].name.size ≤ maxLen := hfit.1
      have HK := Lib.hid HR
      obtain ⟨v, hv⟩ : ∃ v, pred xs[k] = v := ⟨_, rfl⟩
      have HWk := Lib.hid (fun (W : World) (vs : List Value) (hB : Below w.heap.size w W) (hRW : RVw 0 W vs (xs[k]'hlt)) => HW.out W vs (xs[k]'hlt) hB hRW)
      rw [hv] at HWk
      have HV := Lib.hid hv
      have hc0 : wr.cell? ⟨b, off + k * 4, none⟩ = some (.string xs[k].name) := hcs 0 (by simp)
      have hc1 : wr.cell? ⟨b, off + k * 4 + 1, none⟩ = some (.string xs[k].table) := hcs 1 (by simp)
      have hc2 : wr.cell? ⟨b, off + k * 4 + 2, none⟩ = some (.slice p0 xs[k].cols.length q0) := hcs 2 (by simp)
      have hc3 : wr.cell? ⟨b, off + k * 4 + 3, none⟩ = some (.slice p1 xs[k].whr.length q1) := hcs 3 (by simp)
      clear HR hcs hv
      go_wp2_with fail
      have hba : Below wr.heap.size wr (wr.alloc (.cells #[.string xs[k].name, .string xs[k].table, .slice p0 xs[k].cols.length q0, .slice p1 xs[k].whr.length q1] 89)) := (Below.refl _ _).alloc (Nat.le_refl _) _
      refine (HWk.out _ _ (hS.out.2.2.trans (hba.mono hS.out.2.2.size)) (goodVw.kept HK.out (Kept.below hba))).mono ?_
      rintro e w2 ⟨rfl, b2⟩
      have A2 := Lib.hid (show Blk w2 wr.heap.size [.string xs[k].name, .string xs[k].table, .slice p0 xs[k].cols.length q0, .slice p1 xs[k].whr.length q1] from Blk.call b2 (blk_new wr _ [.string xs[k].name, .string xs[k].table, .slice p0 xs[k].cols.length q0, .slice p1 xs[k].whr.length q1]))
      have HB2 := Lib.hid (hba.trans (b2.mono hba.size))
      clear b2 hba
      have g0 : w2.cell? ⟨wr.heap.size, 0, none⟩ = some (.string xs[k].name) := (A2.out.2 0 (by simp)).1
      have g1 : w2.cell? ⟨wr.heap.size, 1, none⟩ = some (.string xs[k].table) := (A2.out.2 1 (by simp)).1
      have g2 : w2.cell? ⟨wr.heap.size, 2, none⟩ = some (.slice p0 xs[k].cols.length q0) := (A2.out.2 2 (by simp)).1
      have g3 : w2.cell? ⟨wr.heap.size, 3, none⟩ = some (.slice p1 xs[k].whr.length q1) := (A2.out.2 3 (by simp)).1
      have HTK := Lib.hid (take_filter pred xs k hlt)
      cases v with
      | false =>
        have HE : Hid (((xs.take (k + 1)).filter pred).map Vw.name = ((xs.take k).filter pred).map Vw.name) := by unfold Hid; rw [HTK.out, if_neg (by rw [HV.out]; decide), List.append_nil]
        go_wp2_with fail
        go_roundw
        case rel => exact ⟨k + 1, ys, a1, c1, by omega, by go_num, rfl, by omega, by rw [HE.out]; exact hS.out.1, hS.out.2.1.below HB2.out, hS.out.2.2.trans (HB2.out.mono hS.out.2.2.size)⟩
        case measure => simp [intOf]; omega
      | true =>
        have HE : Hid (((xs.take (k + 1)).filter pred).map Vw.name = ((xs.take k).filter pred).map Vw.name ++ [xs[k].name]) := by unfold Hid; rw [HTK.out, if_pos HV.out, List.map_append]; rfl
        have HO := Lib.hid (fun W => ownVw _ xs[k] W ⟨0, _, HK.out⟩)
        go_wp2_with fail
        refine (HO.out w2).mono ?_
        rintro e w3 ⟨rfl, b3⟩
        have HB3 := Lib.hid (HB2.out.trans (b3.mono HB2.out.size))
        have HOW := Lib.hid (hS.out.2.1.below HB3.out)
        clear b3 g0 g1 g2 g3
        have hw3 : w.heap.size ≤ w3.heap.size := Nat.le_trans hS.out.2.2.size HB3.out.size
        go_wp2_with (at_builtin; refine wpAppendStrs rfl _ _ rfl i0 hi0 hz0 hz1 hz2 w.heap.size a1 c1 ys (some ⟨_, 0, none⟩) 1 [xs[k].name] rfl (HOW.out.alloc _) rfl (strsOne _ _ hsm) (by simp only [List.length_cons, List.length_nil]; omega) (by simp; omega) ?_; intro a9 c9 w9 hown9 hg9)
        have HN9 := Lib.hid (And.intro hown9 (appended (hS.out.2.2.trans (HB3.out.mono hS.out.2.2.size)) (Nat.le_refl _) HOW.out hg9))
        clear hown9 hg9
        go_wp2_with fail
        go_roundw
        case rel => exact ⟨k + 1, ys ++ [xs[k].name], a9, c9, by omega, by go_num, by simp, by simp; omega, by rw [HE.out, hS.out.1], HN9.out.1, HN9.out.2⟩
        case measure => simp [intOf]; omega
    · obtain rfl : k = xs.length := by omega
      go_wp2_with fail
      go_ret
      have h1 := hS.out.1
      rw [List.take_length] at h1
      subst h1
      exact ⟨a1, c1, rfl, hS.out.2.1, hS.out.2.2⟩

end Go.Proofs.YtjjdcdnaonfnmaaGreat

namespace Go.Proofs.YtjjdcdnaonfnmaaGreat
open Go.RowKit

/-- The parts of a plan that need a table. -/
def tabL1 (x : Pl) (n : ByteArray) : List ByteArray := (x.tables.filter (tabB n)).map Tb.name
def tabL2 (x : Pl) (n : ByteArray) : List ByteArray := (x.indexes.filter (onIx n)).map Ix.name
def tabL3 (x : Pl) (n : ByteArray) : List ByteArray := (x.views.filter (onVw n)).map Vw.name
def tabL (x : Pl) (n : ByteArray) : List ByteArray := tabL1 x n ++ (tabL2 x n ++ tabL3 x n)

theorem filter_map_ok {X : Type} (p : X → Bool) (f : X → ByteArray) (wt : X → Nat) (hf : ∀ x, (f x).size ≤ wt x) (xs : List X) : ((xs.filter p).map f).length ≤ xs.length ∧ ∀ s ∈ (xs.filter p).map f, s.size ≤ wtS wt xs := by
  refine ⟨by rw [List.length_map]; exact List.length_filter_le _ _, fun s hs => ?_⟩
  obtain ⟨x, hx, rfl⟩ := List.mem_map.1 hs
  obtain ⟨i, hi, rfl⟩ := List.mem_iff_getElem.1 (List.mem_filter.1 hx).1
  have h1 := wtS_get wt hi
  have h2 := hf xs[i]
  omega

theorem tab_few (x : Pl) (n : ByteArray) (hn : x.wt ≤ 1048576) : (tabL x n).length ≤ 1048576 ∧ ∀ s ∈ tabL x n, s.size ≤ 1048576 := by
  obtain ⟨p1, q1⟩ := filter_map_ok (tabB n) Tb.name Tb.wt (fun t => by have h : t.wt = t.name.size + (t.cols.length + wtS Co.wt t.cols) + (t.rules.length + wtS Ru.wt t.rules) := rfl; omega) x.tables
  obtain ⟨p2, q2⟩ := filter_map_ok (onIx n) Ix.name Ix.wt (fun t => by have h : t.wt = t.name.size + t.table.size + (t.cols.length + lets t.cols) := rfl; omega) x.indexes
  obtain ⟨p3, q3⟩ := filter_map_ok (onVw n) Vw.name Vw.wt (fun t => by have h : t.wt = t.name.size + t.table.size + (t.cols.length + lets t.cols) + (t.whr.length + wtL t.whr) := rfl; omega) x.views
  have h3 : x.wt = (x.enums.length + wtS Lab.wt x.enums) + (x.seqs.length + wtS Sq.wt x.seqs) + (x.tables.length + wtS Tb.wt x.tables) + (x.indexes.length + wtS Ix.wt x.indexes) + (x.views.length + wtS Vw.wt x.views) := rfl
  unfold tabL tabL1 tabL2 tabL3
  refine ⟨by rw [List.length_append, List.length_append]; omega, fun s hs => ?_⟩
  rcases List.mem_append.1 hs with hs | hs
  · have := q1 s hs; omega
  · rcases List.mem_append.1 hs with hs | hs
    · have := q2 s hs; omega
    · have := q3 s hs; omega

theorem tab_ok (x : Pl) (n : ByteArray) (hn : x.wt ≤ 1048576) : (risingU (tabL x n)).length ≤ 1048576 ∧ ∀ s ∈ risingU (tabL x n), s.size ≤ 1048576 := by
  obtain ⟨h1, h2⟩ := tab_few x n hn
  have h3 := risingU_len (tabL x n)
  exact ⟨by omega, fun s hs => h2 s (((risingU_facts _).2 s).1 hs)⟩

/-- Three lists of texts, as risingNames takes them. -/
theorem three_list {w : World} {a b d : Option Addr} {c e g : Nat} {xs ys zs : List ByteArray} (h1 : Strs w a c xs) (h2 : Strs w b e ys) (h3 : Strs w d g zs) (T : TypeId) :
    Sl 1 RSS 0 (w.alloc (.cells #[.slice a xs.length c, .slice b ys.length e, .slice d zs.length g] T)) (some ⟨w.heap.size, 0, none⟩) 3 [xs, ys, zs] := by
  have hb : Below w.heap.size w (w.alloc (.cells #[.slice a xs.length c, .slice b ys.length e, .slice d zs.length g] T)) := (Below.refl _ _).alloc (Nat.le_refl _) _
  have hB := blk_new w T [.slice a xs.length c, .slice b ys.length e, .slice d zs.length g]
  refine ⟨Nat.le_refl _, by unfold maxLen; omega, (fun h => by cases h), fun _ => ⟨w.heap.size, 0, rfl, Nat.zero_le _, by simp, fun i hi => ?_⟩⟩
  have hi3 : i < 3 := hi
  have hc : i = 0 ∨ i = 1 ∨ i = 2 := by omega
  rcases hc with rfl | rfl | rfl
  · refine ⟨[.slice a xs.length c], fun j hj => ?_, a, c, rfl, (h1.below hb).ss0⟩
    have hj0 : j = 0 := by simpa using hj
    subst hj0
    exact (hB.2 0 (by simp)).1
  · refine ⟨[.slice b ys.length e], fun j hj => ?_, b, e, rfl, (h2.below hb).ss0⟩
    have hj0 : j = 0 := by simpa using hj
    subst hj0
    exact (hB.2 1 (by simp)).1
  · refine ⟨[.slice d zs.length g], fun j hj => ?_, d, g, rfl, (h3.below hb).ss0⟩
    have hj0 : j = 0 := by simpa using hj
    subst hj0
    exact (hB.2 2 (by simp)).1

theorem blk_far {w : World} {b b' : Nat} {vs : List Value} (h : Blk w b vs) (hne : b' ≠ b) (o : Nat) (v : Value) : Blk (w.setCell ⟨b', o, none⟩ v) b vs := by
  refine ⟨by simpa [World.setCell] using h.1, fun i hi => ⟨?_, (World.frozen?_setCell ..).trans (h.2 i hi).2⟩⟩
  exact (World.cell?_setCell_far w ⟨b', o, none⟩ ⟨b, i, none⟩ v hne).trans (h.2 i hi).1

/-- What lies during impl.TableUse. -/
structure TU (w : World) (PV : List Value) (a2 a3 a4 : Option Addr) (c2 c3 c4 : Nat) (x : Pl) (n : ByteArray) (nb rf : Nat) (W : World) : Prop where
  box : Blk W w.heap.size PV
  nbc : W.cell? ⟨nb, 0, none⟩ = some (.string n)
  nbl : nb < W.heap.size
  rfc : W.cell? ⟨rf, 0, none⟩ = some (.func (.func 47) #[] #[.pointer (some ⟨nb, 0, none⟩)])
  rfl_ : rf < W.heap.size
  k2 : Sl 4 RTb 0 W a2 c2 x.tables
  k3 : Sl 4 RIx 0 W a3 c3 x.indexes
  k4 : Sl 4 RVw 0 W a4 c4 x.views
  bel : Below w.heap.size w W

theorem TU.below {w : World} {PV : List Value} {a2 a3 a4 : Option Addr} {c2 c3 c4 : Nat} {x : Pl} {n : ByteArray} {nb rf : Nat} {W W' : World} (h : TU w PV a2 a3 a4 c2 c3 c4 x n nb rf W) (hb : Below W.heap.size W W') : TU w PV a2 a3 a4 c2 c3 c4 x n nb rf W' :=
  ⟨h.box.below hb, (hb.cell (p := ⟨nb, 0, none⟩) h.nbl).trans h.nbc, Nat.lt_of_lt_of_le h.nbl hb.size, (hb.cell (p := ⟨rf, 0, none⟩) h.rfl_).trans h.rfc, Nat.lt_of_lt_of_le h.rfl_ hb.size, h.k2.kept goodTb (Kept.below hb), h.k3.kept goodIx (Kept.below hb), h.k4.kept goodVw (Kept.below hb), Below.call hb h.bel⟩

theorem TU.callT {w : World} {PV : List Value} {a2 a3 a4 : Option Addr} {c2 c3 c4 : Nat} {x : Pl} {n : ByteArray} {nb rf : Nat} {W : World} (h : TU w PV a2 a3 a4 c2 c3 c4 x n nb rf W) (hn : x.tables.length ≤ 1048576) :
    Calls Tryz.prog 49 #[.slice a2 x.tables.length c2, .func (.func 50) #[] #[.pointer (some ⟨nb, 0, none⟩), .pointer (some ⟨rf, 0, none⟩)]] W (NewStrs W (tabL1 x n)) :=
  nwTb a2 c2 x.tables W _ _ (tabB n) h.k2 hn (fun W' vs t hb ht => tabC vs t nb rf n W' ht (h.below hb).nbc (h.below hb).nbl (h.below hb).rfc (h.below hb).rfl_)
theorem TU.callI {w : World} {PV : List Value} {a2 a3 a4 : Option Addr} {c2 c3 c4 : Nat} {x : Pl} {n : ByteArray} {nb rf : Nat} {W : World} (h : TU w PV a2 a3 a4 c2 c3 c4 x n nb rf W) (hn : x.indexes.length ≤ 1048576) :
    Calls Tryz.prog 52 #[.slice a3 x.indexes.length c3, .func (.func 53) #[] #[.pointer (some ⟨nb, 0, none⟩)]] W (NewStrs W (tabL2 x n)) :=
  nwIx a3 c3 x.indexes W _ (onIx n) h.k3 hn (fun W' vs t hb ht => onIxC vs t nb n W' ht (h.below hb).nbc (h.below hb).nbl)
theorem TU.callV {w : World} {PV : List Value} {a2 a3 a4 : Option Addr} {c2 c3 c4 : Nat} {x : Pl} {n : ByteArray} {nb rf : Nat} {W : World} (h : TU w PV a2 a3 a4 c2 c3 c4 x n nb rf W) (hn : x.views.length ≤ 1048576) :
    Calls Tryz.prog 54 #[.slice a4 x.views.length c4, .func (.func 55) #[] #[.pointer (some ⟨nb, 0, none⟩)]] W (NewStrs W (tabL3 x n)) :=
  nwVw a4 c4 x.views W _ (onVw n) h.k4 hn (fun W' vs t hb ht => onVwC vs t nb n W' ht (h.below hb).nbc (h.below hb).nbl)

set_option maxRecDepth 100000 in
set_option maxHeartbeats 8000000 in
theorem implTableUse (vs : List Value) (x : Pl) (n : ByteArray) (w : World) (hR : RPl 0 w vs x) (hn : x.wt ≤ 1048576) :
    Calls Tryz.prog 16 #[.agg vs.toArray, .string n] w (NewStrs w (risingU (tabL x n))) := by
  obtain ⟨hlen, hsz⟩ := tab_few x n hn
  have h3 : x.wt = (x.enums.length + wtS Lab.wt x.enums) + (x.seqs.length + wtS Sq.wt x.seqs) + (x.tables.length + wtS Tb.wt x.tables) + (x.indexes.length + wtS Ix.wt x.indexes) + (x.views.length + wtS Vw.wt x.views) := rfl
  have ht2 : x.tables.length ≤ 1048576 := by omega
  have ht3 : x.indexes.length ≤ 1048576 := by omega
  have ht4 : x.views.length ≤ 1048576 := by omega
  obtain ⟨a0, c0, a1, c1, a2, c2, a3, c3, a4, c4, rfl, _, _, _, k2, k3, k4⟩ := hR
  have b1 : Below w.heap.size w (w.alloc (.cells #[.slice a0 x.enums.length c0, .slice a1 x.seqs.length c1, .slice a2 x.tables.length c2, .slice a3 x.indexes.length c3, .slice a4 x.views.length c4, .int .i64 x.next] 38)) := (Below.refl _ _).alloc (Nat.le_refl _) _
  have z1 : (w.alloc (.cells #[.slice a0 x.enums.length c0, .slice a1 x.seqs.length c1, .slice a2 x.tables.length c2, .slice a3 x.indexes.length c3, .slice a4 x.views.length c4, .int .i64 x.next] 38)).heap.size = w.heap.size + 1 := by simp
  have z2 : ((w.alloc (.cells #[.slice a0 x.enums.length c0, .slice a1 x.seqs.length c1, .slice a2 x.tables.length c2, .slice a3 x.indexes.length c3, .slice a4 x.views.length c4, .int .i64 x.next] 38)).alloc (.cells #[.string n] 9)).heap.size = w.heap.size + 1 + 1 := by simp
  have bn := blk_new (w.alloc (.cells #[.slice a0 x.enums.length c0, .slice a1 x.seqs.length c1, .slice a2 x.tables.length c2, .slice a3 x.indexes.length c3, .slice a4 x.views.length c4, .int .i64 x.next] 38)) 9 [.string n]
  have bf := blk_new ((w.alloc (.cells #[.slice a0 x.enums.length c0, .slice a1 x.seqs.length c1, .slice a2 x.tables.length c2, .slice a3 x.indexes.length c3, .slice a4 x.views.length c4, .int .i64 x.next] 38)).alloc (.cells #[.string n] 9)) 91 [.func (.func 47) #[] #[.pointer (some ⟨w.heap.size + 1, 0, none⟩)]]
  rw [z1] at bn
  rw [z2] at bf
  have b3 : Below w.heap.size w (((w.alloc (.cells #[.slice a0 x.enums.length c0, .slice a1 x.seqs.length c1, .slice a2 x.tables.length c2, .slice a3 x.indexes.length c3, .slice a4 x.views.length c4, .int .i64 x.next] 38)).alloc (.cells #[.string n] 9)).alloc (.cells #[.func (.func 47) #[] #[.pointer (some ⟨w.heap.size + 1, 0, none⟩)]] 91)) :=
    ((b1.alloc (by simp) _).alloc (by simp; omega) _)
  have HTU : Hid (TU w [.slice a0 x.enums.length c0, .slice a1 x.seqs.length c1, .slice a2 x.tables.length c2, .slice a3 x.indexes.length c3, .slice a4 x.views.length c4, .int .i64 x.next] a2 a3 a4 c2 c3 c4 x n (w.heap.size + 1) (w.heap.size + 1 + 1) (((w.alloc (.cells #[.slice a0 x.enums.length c0, .slice a1 x.seqs.length c1, .slice a2 x.tables.length c2, .slice a3 x.indexes.length c3, .slice a4 x.views.length c4, .int .i64 x.next] 38)).alloc (.cells #[.string n] 9)).alloc (.cells #[.func (.func 47) #[] #[.pointer (some ⟨w.heap.size + 1, 0, none⟩)]] 91))) := by
    have bn' := bn.alloc (.cells #[.func (.func 47) #[] #[.pointer (some ⟨w.heap.size + 1, 0, none⟩)]] 91)
    exact ⟨((blk_new w 38 [.slice a0 x.enums.length c0, .slice a1 x.seqs.length c1, .slice a2 x.tables.length c2, .slice a3 x.indexes.length c3, .slice a4 x.views.length c4, .int .i64 x.next]).alloc _).alloc _, (bn'.2 0 (by simp)).1, bn'.1, (bf.2 0 (by simp)).1, bf.1, k2.kept goodTb (Kept.below b3), k3.kept goodIx (Kept.below b3), k4.kept goodVw (Kept.below b3), b3⟩
  clear b1 z1 z2 bn bf b3 k2 k3 k4 h3
  have hsf := fun (w' : World) => run_store Tryz.prog w' ⟨w.heap.size + 1 + 1, 0, none⟩ (.func (.func 47) #[] #[.pointer (some ⟨w.heap.size + 1, 0, none⟩)]) .plain rfl
  go_enter Tryz.func16, Tryz.ntmps16
  go_wp2_with fail
  clear hsf
  generalize ((w.alloc (.cells #[.slice a0 x.enums.length c0, .slice a1 x.seqs.length c1, .slice a2 x.tables.length c2, .slice a3 x.indexes.length c3, .slice a4 x.views.length c4, .int .i64 x.next] 38)).alloc (.cells #[.string n] 9)).alloc (.cells #[.func (.func 47) #[] #[.pointer (some ⟨w.heap.size + 1, 0, none⟩)]] 91) = W0 at HTU ⊢
  have HTD := Lib.hid (HTU.out.below (below_drewN (Below.refl _ _) 1))
  have hst : Hid (∀ p q : World, ((p.cell? ⟨w.heap.size, 2, none⟩ = some (.slice a2 x.tables.length c2) ∧ p.cell? ⟨w.heap.size, 3, none⟩ = some (.slice a3 x.indexes.length c3) ∧ p.cell? ⟨w.heap.size, 4, none⟩ = some (.slice a4 x.views.length c4)) ∧ Hid (TU w [.slice a0 x.enums.length c0, .slice a1 x.seqs.length c1, .slice a2 x.tables.length c2, .slice a3 x.indexes.length c3, .slice a4 x.views.length c4, .int .i64 x.next] a2 a3 a4 c2 c3 c4 x n (w.heap.size + 1) (w.heap.size + 1 + 1) p)) → Below p.heap.size p q → ((q.cell? ⟨w.heap.size, 2, none⟩ = some (.slice a2 x.tables.length c2) ∧ q.cell? ⟨w.heap.size, 3, none⟩ = some (.slice a3 x.indexes.length c3) ∧ q.cell? ⟨w.heap.size, 4, none⟩ = some (.slice a4 x.views.length c4)) ∧ Hid (TU w [.slice a0 x.enums.length c0, .slice a1 x.seqs.length c1, .slice a2 x.tables.length c2, .slice a3 x.indexes.length c3, .slice a4 x.views.length c4, .int .i64 x.next] a2 a3 a4 c2 c3 c4 x n (w.heap.size + 1) (w.heap.size + 1 + 1) q))) := fun p q h hb => by
    have T := h.2.out.below hb
    exact ⟨⟨(T.box.2 2 (by simp)).1, (T.box.2 3 (by simp)).1, (T.box.2 4 (by simp)).1⟩, T⟩
  have hml : Hid (∀ s, s ∈ tabL1 x n ∨ s ∈ tabL2 x n ∨ s ∈ tabL3 x n → s.size ≤ maxLen) := fun s hs => by
    have : s ∈ tabL x n := by
      unfold tabL
      rcases hs with h | h | h
      · exact List.mem_append_left _ h
      · exact List.mem_append_right _ (List.mem_append_left _ h)
      · exact List.mem_append_right _ (List.mem_append_right _ h)
    have := hsz s this
    unfold maxLen; omega
  have hfl : [tabL1 x n, tabL2 x n, tabL3 x n].flatten = tabL x n := by simp [tabL]
  have hRI : Hid (∀ (W : World) (b : Option Addr), Sl 1 RSS 0 W b 3 [tabL1 x n, tabL2 x n, tabL3 x n] → Calls Tryz.prog 30 #[.slice b 3 3] W (NewStrs W (risingU (tabL x n)))) := fun W b h => by
    have := implRising b 3 [tabL1 x n, tabL2 x n, tabL3 x n] W h (by rw [hfl]; omega) (by simp) (by rw [hfl]; exact hsz)
    rw [hfl] at this
    exact this
  go_region_held3 (fun w' => (w'.cell? ⟨w.heap.size, 2, none⟩ = some (.slice a2 x.tables.length c2) ∧ w'.cell? ⟨w.heap.size, 3, none⟩ = some (.slice a3 x.indexes.length c3) ∧ w'.cell? ⟨w.heap.size, 4, none⟩ = some (.slice a4 x.views.length c4)) ∧ Hid (TU w [.slice a0 x.enums.length c0, .slice a1 x.seqs.length c1, .slice a2 x.tables.length c2, .slice a3 x.indexes.length c3, .slice a4 x.views.length c4, .int .i64 x.next] a2 a3 a4 c2 c3 c4 x n (w.heap.size + 1) (w.heap.size + 1 + 1) w')) (first | assumption | exact hst.out _ _ hqV ((Below.refl _ _).alloc (Nat.le_refl _) _) | exact hst.out _ _ (hst.out _ _ hqV ((Below.refl _ _).alloc (Nat.le_refl _) _)) HR.out.2 | exact ⟨⟨(HTD.out.box.2 2 (by simp)).1, (HTD.out.box.2 3 (by simp)).1, (HTD.out.box.2 4 (by simp)).1⟩, HTD.out⟩)
    (first
      | (go_at_call 49; refine (TU.callT (And.right (by assumption : _ ∧ Hid (TU w [.slice a0 x.enums.length c0, .slice a1 x.seqs.length c1, .slice a2 x.tables.length c2, .slice a3 x.indexes.length c3, .slice a4 x.views.length c4, .int .i64 x.next] a2 a3 a4 c2 c3 c4 x n (w.heap.size + 1) (w.heap.size + 1 + 1) _))).out ht2).mono ?_; rintro e wT ⟨aT, cT, rfl, oT, bT⟩; have hqT := hst.out _ _ (by assumption) bT; have ST := Lib.hid (oT.strs (fun s hs => hml.out s (.inl hs))); clear oT bT)
      | (go_at_call 52; refine (TU.callI (And.right (by assumption : _ ∧ Hid (TU w [.slice a0 x.enums.length c0, .slice a1 x.seqs.length c1, .slice a2 x.tables.length c2, .slice a3 x.indexes.length c3, .slice a4 x.views.length c4, .int .i64 x.next] a2 a3 a4 c2 c3 c4 x n (w.heap.size + 1) (w.heap.size + 1 + 1) _))).out ht3).mono ?_; rintro e wI ⟨aI, cI, rfl, oI, bI⟩; have hqI := hst.out _ _ (by assumption) bI; have ST2 := Lib.hid (Strs.below (by exact ST.out) bI); have SI := Lib.hid (oI.strs (fun s hs => hml.out s (.inr (.inl hs)))); clear oI bI)
      | (go_at_call 54; refine (TU.callV (And.right (by assumption : _ ∧ Hid (TU w [.slice a0 x.enums.length c0, .slice a1 x.seqs.length c1, .slice a2 x.tables.length c2, .slice a3 x.indexes.length c3, .slice a4 x.views.length c4, .int .i64 x.next] a2 a3 a4 c2 c3 c4 x n (w.heap.size + 1) (w.heap.size + 1 + 1) _))).out ht4).mono ?_; rintro e wV ⟨aV, cV, rfl, oV, bV⟩; have hqV := hst.out _ _ (by assumption) bV; have ST3 := Lib.hid (Strs.below (by exact ST2.out) bV); have SI3 := Lib.hid (Strs.below (by exact SI.out) bV); have SV := Lib.hid (oV.strs (fun s hs => hml.out s (.inr (.inr hs)))); clear oV bV)
      | (go_at_call 30; refine (hRI.out _ _ (three_list (by exact ST3.out) (by exact SI3.out) (by exact SV.out) _)).mono ?_; rintro e wR ⟨aR, cR, rfl, oR, bR⟩; have HR := Lib.hid (And.intro oR bR); clear oR bR))
  all_goals go_wp2_with fail
  all_goals go_ret
  all_goals
    have hbT := (And.right hqV).out.bel
    have hbA := hbT.alloc hbT.size (.cells #[.slice aT (tabL1 x n).length cT, .slice aI (tabL2 x n).length cI, .slice aV (tabL3 x n).length cV] 30)
    exact ⟨aR, cR, rfl, HR.out.1.lower hbA.size, hbA.trans (HR.out.2.mono hbA.size)⟩

end Go.Proofs.YtjjdcdnaonfnmaaGreat
