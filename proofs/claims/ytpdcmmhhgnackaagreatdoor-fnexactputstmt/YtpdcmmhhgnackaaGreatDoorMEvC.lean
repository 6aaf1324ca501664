/- impl.listFits over columns. Written by tools/gen_every.py. -/
import Derived.Test.YtpdcmmhhgnackaaGreatDoorMOkW
namespace Go.Proofs.YtpdcmmhhgnackaaGreatDoor
open Go.RowKit

theorem okC (vs : List Value) (x : Co) (w : World) (hR : RCo 0 w vs x) (hJ : FormsAt w) (hq : x.wt ≤ 1048576) :
    Calls Tryz.prog 29 #[.agg vs.toArray] w fun e w' => e = .returned (.bool (colB x)) ∧ Below w.heap.size w w' :=
  implColFits vs x w hJ hR hq _ rfl

set_option maxRecDepth 100000 in
set_option maxHeartbeats 1000000 in
theorem notC (vs : List Value) (x : Co) (nb : Nat) (w : World) (hR : RCo 0 w vs x) (hJ : FormsAt w) (hq : x.wt ≤ 1048576) (hnb : w.cell? ⟨nb, 0, none⟩ = some (.func (.func 29) #[] #[])) (hlt : nb < w.heap.size) :
    Calls Tryz.prog 155 #[.agg vs.toArray, .pointer (some ⟨nb, 0, none⟩)] w fun e w' => e = .returned (.bool (!colB x)) ∧ Below w.heap.size w w' := by
  have HO := Lib.hid (fun w2 (hb : Below w.heap.size w w2) => okC vs x w2 (goodCo.kept hR (Kept.below hb)) (hJ.call hb) hq)
  obtain ⟨a0, c0, rfl, _⟩ := hR
  have QN := Lib.hid ((World.cell?_alloc_lt w (.cells [.string x.name, .int .i64 x.ty.kind, .int .i64 x.ty.len, .string x.ty.name, .bool x.notNull, .slice a0 x.dflt.length c0].toArray 32) ⟨nb, 0, none⟩ hlt).trans hnb)
  clear hJ
  go_enter Tryz.func155, Tryz.ntmps155
  go_wp2_with fail
  refine (HO.out _ (by ((repeat (first | refine Below.alloc ?_ (by first | omega | (simp; done) | (simp; omega)) _ | refine Below.setCell ?_ (by first | omega | (simp; done) | (simp; omega)) _)); first | exact Below.refl _ _ | exact Below.refl _ _))).mono ?_
  rintro e w2 ⟨rfl, b2⟩
  have B2 := Lib.hid (show Below w.heap.size w w2 from Below.call b2 (by ((repeat (first | refine Below.alloc ?_ (by first | omega | (simp; done) | (simp; omega)) _ | refine Below.setCell ?_ (by first | omega | (simp; done) | (simp; omega)) _)); first | exact Below.refl _ _ | exact Below.refl _ _)))
  clear b2
  go_wp2_with fail
  go_ret
  exact ⟨rfl, B2.out⟩

set_option maxRecDepth 100000 in
set_option maxHeartbeats 2000000 in
theorem idxC (a : Option Addr) (c : Nat) (xs : List Co) (nb : Nat) (w : World) (hx : Sl 6 RCo 0 w a c xs) (hJ : FormsAt w) (hq : ∀ x ∈ xs, x.wt ≤ 1048576) (hnb : w.cell? ⟨nb, 0, none⟩ = some (.func (.func 29) #[] #[])) (hlt0 : nb < w.heap.size) :
    Calls Tryz.prog 165 #[.slice a xs.length c, .func (.func 155) #[] #[.pointer (some ⟨nb, 0, none⟩)]] w fun e w' =>
      ∃ r : Int, e = .returned (.int .i64 r) ∧ Hid (decide (0 ≤ r) = !xs.all colB) ∧ Below w.heap.size w w' := by
  have hl := hx.len
  have HX := Lib.hid (fun w' (hb : Below w.heap.size w w') => hx.kept goodCo (Kept.below hb))
  have HJ := Lib.hid (fun w' (hb : Below w.heap.size w w') => hJ.call hb)
  have HN := Lib.hid (fun w' (hb : Below w.heap.size w w') => (And.intro ((hb.cell (p := ⟨nb, 0, none⟩) hlt0).trans hnb) (Nat.lt_of_lt_of_le hlt0 hb.size)))
  have HQ := Lib.hid hq
  clear hx hJ hq
  go_enter Tryz.func165, Tryz.ntmps165
  go_wp2
  go_loopw [8] (fun i wr => ∃ k : Nat, k ≤ xs.length ∧ i = .int .i64 k ∧ Hid (∀ m (hm : m < xs.length), m < k → colB xs[m] = true) ∧ Below w.heap.size w wr) (fun i _ => xs.length - (intOf i).toNat)
  case atStart => exact ⟨0, Nat.zero_le _, rfl, fun m h hm => absurd hm (by omega), Below.refl _ _⟩
  case round =>
    obtain ⟨k, hk, rfl, hall, hb⟩ := hrel
    by_cases hlt : k < xs.length
    · obtain ⟨b, off, vs, rfl, hbl, hcs, hR⟩ := (HX.out _ hb).spot hlt
      obtain ⟨hn1, hn2⟩ := HN.out _ hb
      have HR := hR
      obtain ⟨a0, c0, rfl, _⟩ := hR
      have hc0 : wr.cell? ⟨b, off + k * 6, none⟩ = some (.string xs[k].name) := hcs 0 (by simp)
      have hc1 : wr.cell? ⟨b, off + k * 6 + 1, none⟩ = some (.int .i64 xs[k].ty.kind) := hcs 1 (by simp)
      have hc2 : wr.cell? ⟨b, off + k * 6 + 2, none⟩ = some (.int .i64 xs[k].ty.len) := hcs 2 (by simp)
      have hc3 : wr.cell? ⟨b, off + k * 6 + 3, none⟩ = some (.string xs[k].ty.name) := hcs 3 (by simp)
      have hc4 : wr.cell? ⟨b, off + k * 6 + 4, none⟩ = some (.bool xs[k].notNull) := hcs 4 (by simp)
      have hc5 : wr.cell? ⟨b, off + k * 6 + 5, none⟩ = some (.slice a0 xs[k].dflt.length c0) := hcs 5 (by simp)
      have HK := Lib.hid HR
      clear HR hcs
      go_wp2_with fail
      refine (notC _ xs[k] nb _ HK.out (HJ.out _ hb) (HQ.out _ (List.getElem_mem hlt)) hn1 hn2).mono ?_
      rintro e w2 ⟨rfl, hb2⟩
      have HB2 := Lib.hid (hb.trans (hb2.mono hb.size))
      clear hb2
      cases he : colB xs[k] with
      | false =>
        have HE := Lib.hid (all_hit colB xs k hlt he)
        clear he
        go_wp2_with fail
        go_ret
        exact ⟨k, rfl, by unfold Hid; rw [HE.out]; simp, HB2.out⟩
      | true =>
        have HE := Lib.hid he
        clear he
        go_wp2_with fail
        go_roundw
        case rel => exact ⟨k + 1, by omega, by go_num, fun m hm h1 => by
          rcases Nat.lt_or_ge m k with h2 | h2
          · exact hall.out m hm h2
          · obtain rfl : m = k := by omega
            exact HE.out, HB2.out⟩
        case measure => simp [intOf]; omega
    · have HE := Lib.hid (all_miss colB xs fun m hm => hall.out m hm (by omega))
      go_wp2_with fail
      go_ret
      exact ⟨-1, rfl, by unfold Hid; rw [HE.out]; rfl, hb⟩

set_option maxHeartbeats 1000000 in
theorem contC (a : Option Addr) (c : Nat) (xs : List Co) (nb : Nat) (w : World) (hx : Sl 6 RCo 0 w a c xs) (hJ : FormsAt w) (hq : ∀ x ∈ xs, x.wt ≤ 1048576) (hnb : w.cell? ⟨nb, 0, none⟩ = some (.func (.func 29) #[] #[])) (hlt0 : nb < w.heap.size) :
    Calls Tryz.prog 154 #[.slice a xs.length c, .func (.func 155) #[] #[.pointer (some ⟨nb, 0, none⟩)]] w fun e w' =>
      e = .returned (.bool (!xs.all colB)) ∧ Below w.heap.size w w' := by
  have HC := Lib.hid (idxC a c xs nb w hx hJ hq hnb hlt0)
  clear hx hJ hq hnb
  go_enter Tryz.func154, Tryz.ntmps154
  go_wp2_with fail
  refine HC.out.mono ?_
  rintro e w2 ⟨r, rfl, hr, b2⟩
  have B2 := Lib.hid b2
  clear b2
  go_wp2_with fail
  go_ret
  exact ⟨by rw [← hr.out]; rfl, B2.out⟩

set_option maxHeartbeats 1000000 in
theorem everyC (a : Option Addr) (c : Nat) (xs : List Co) (w : World) (hx : Sl 6 RCo 0 w a c xs) (hJ : FormsAt w) (hq : ∀ x ∈ xs, x.wt ≤ 1048576) (v : Bool) (hv : xs.all colB = v) :
    Calls Tryz.prog 145 #[.slice a xs.length c, .func (.func 29) #[] #[]] w fun e w' => e = .returned (.bool v) ∧ Below w.heap.size w w' := by
  have hmf : ∀ (fn : Fn) (first cap : Array Value) (w : World), (Instr.makeFunc fn first cap).run Tryz.prog w = .ok (.func fn first cap) w := fun _ _ _ _ => rfl
  have HX := Lib.hid (fun w' (hb : Below w.heap.size w w') => And.intro (hx.kept goodCo (Kept.below hb)) (hJ.call hb))
  have HQ := Lib.hid hq
  have HV := Lib.hid hv
  clear hx hJ hq hv
  go_enter Tryz.func145, Tryz.ntmps145
  go_wp2_with fail
  refine (contC a c xs w.heap.size _ (HX.out _ (by ((repeat (first | refine Below.alloc ?_ (by first | omega | (simp; done) | (simp; omega)) _ | refine Below.setCell ?_ (by first | omega | (simp; done) | (simp; omega)) _)); first | exact Below.refl _ _ | exact Below.refl _ _))).1 (HX.out _ (by ((repeat (first | refine Below.alloc ?_ (by first | omega | (simp; done) | (simp; omega)) _ | refine Below.setCell ?_ (by first | omega | (simp; done) | (simp; omega)) _)); first | exact Below.refl _ _ | exact Below.refl _ _))).2 HQ.out (by simp [go_sem]) (by simp)).mono ?_
  rintro e w2 ⟨rfl, b2⟩
  have B2 := Lib.hid (show Below w.heap.size w w2 from Below.call b2 (by ((repeat (first | refine Below.alloc ?_ (by first | omega | (simp; done) | (simp; omega)) _ | refine Below.setCell ?_ (by first | omega | (simp; done) | (simp; omega)) _)); first | exact Below.refl _ _ | exact Below.refl _ _)))
  clear b2
  go_wp2_with fail
  go_ret
  exact ⟨by rw [HV.out]; cases v <;> rfl, B2.out⟩

set_option maxHeartbeats 1000000 in
theorem fitsC (a : Option Addr) (c : Nat) (xs : List Co) (lo hi : Int) (w : World) (hx : Sl 6 RCo 0 w a c xs) (hJ : FormsAt w) (hq : ∀ x ∈ xs, x.wt ≤ 1048576) (v : Bool) (hv : (inI xs.length lo hi && xs.all colB) = v) :
    Calls Tryz.prog 128 #[.slice a xs.length c, .agg #[.int .i64 lo, .int .i64 hi], .func (.func 29) #[] #[]] w fun e w' => e = .returned (.bool v) ∧ Below w.heap.size w w' := by
  have hl := hx.len
  have HE := Lib.hid (fun w' (hb : Below w.heap.size w w') => everyC a c xs w' (hx.kept goodCo (Kept.below hb)) (hJ.call hb) hq _ rfl)
  clear hx hJ hq
  cases h1 : inI xs.length lo hi with
  | false =>
    have HV : Hid (v = false) := by unfold Hid; rw [← hv, h1]; rfl
    have HI := Lib.hid h1
    clear hv h1
    go_enter Tryz.func128, Tryz.ntmps128
    go_wp2_with fail
    refine (spanAllows lo hi xs.length _ false HI.out).mono ?_
    rintro e w1 ⟨rfl, b1⟩
    have B1 := Lib.hid (show Below w.heap.size w w1 from Below.call b1 (by ((repeat (first | refine Below.alloc ?_ (by first | omega | (simp; done) | (simp; omega)) _ | refine Below.setCell ?_ (by first | omega | (simp; done) | (simp; omega)) _)); first | exact Below.refl _ _ | exact Below.refl _ _)))
    clear b1
    go_wp2_with fail
    go_ret
    exact ⟨by rw [HV.out] <;> rfl, B1.out⟩
  | true =>
    have HV : Hid (xs.all colB = v) := by unfold Hid; rw [← hv, h1]; rfl
    have HI := Lib.hid h1
    clear hv h1
    go_enter Tryz.func128, Tryz.ntmps128
    go_wp2_with fail
    refine (spanAllows lo hi xs.length _ true HI.out).mono ?_
    rintro e w1 ⟨rfl, b1⟩
    have B1 := Lib.hid (show Below w.heap.size w w1 from Below.call b1 (by ((repeat (first | refine Below.alloc ?_ (by first | omega | (simp; done) | (simp; omega)) _ | refine Below.setCell ?_ (by first | omega | (simp; done) | (simp; omega)) _)); first | exact Below.refl _ _ | exact Below.refl _ _)))
    clear b1
    go_wp2_with fail
    refine (HE.out _ B1.out).mono ?_
    rintro e w2 ⟨rfl, b2⟩
    have B2 := Lib.hid (show Below w.heap.size w w2 from Below.call b2 B1.out)
    clear b2
    go_wp2_with fail
    go_ret
    exact ⟨by rw [HV.out] <;> rfl, B2.out⟩

end Go.Proofs.YtpdcmmhhgnackaaGreatDoor
