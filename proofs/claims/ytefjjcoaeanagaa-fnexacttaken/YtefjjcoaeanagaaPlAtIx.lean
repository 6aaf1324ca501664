/- impl.placeOf over a list of Index. Written by tools/gen_plan.py. -/
import Derived.Test.YtefjjcoaeanagaaPlFind
namespace Go.Proofs.Ytefjjcoaeanagaa
open Go.RowKit

set_option maxHeartbeats 1000000 in
theorem ownIx (vs : List Value) (x : Ix) (w : World) (hR : ∃ lo w', RIx lo w' vs x) :
    Calls Try.prog 154 #[.agg vs.toArray] w fun e w' => e = .returned (.string x.name) ∧ Below w.heap.size w w' := by
  obtain ⟨_, _, hR⟩ := hR
  obtain ⟨a0, c0, rfl, _⟩ := hR
  go_enter Try.func154, Try.ntmps154
  go_wp2_with fail
  go_ret
  exact ⟨rfl, (Below.refl _ _).alloc (Nat.le_refl _) _⟩

set_option maxRecDepth 100000 in
set_option maxHeartbeats 1000000 in
theorem isIx (vs : List Value) (x : Ix) (nb : Nat) (n : ByteArray) (w : World) (hR : RIx 0 w vs x) (hnb : w.cell? ⟨nb, 0, none⟩ = some (.string n)) (hlt : nb < w.heap.size) :
    Calls Try.prog 74 #[.agg vs.toArray, .pointer (some ⟨nb, 0, none⟩)] w fun e w' => e = .returned (.bool (x.name.toList == n.toList)) ∧ Below w.heap.size w w' := by
  have HO := Lib.hid (fun w2 => ownIx vs x w2 ⟨_, _, hR⟩)
  obtain ⟨a0, c0, rfl, _⟩ := hR
  have hdr := below_drewE (Below.refl (w.alloc (.cells [.string x.name, .string x.table, .slice a0 x.cols.length c0, .bool x.uniq].toArray 73)).heap.size (w.alloc (.cells [.string x.name, .string x.table, .slice a0 x.cols.length c0, .bool x.uniq].toArray 73)))
  have Q := Lib.hid ((blk_new w 73 [.string x.name, .string x.table, .slice a0 x.cols.length c0, .bool x.uniq]).below hdr)
  have QN := Lib.hid ((hdr.cell (p := ⟨nb, 0, none⟩) (by simp; omega)).trans ((World.cell?_alloc_lt w (.cells [.string x.name, .string x.table, .slice a0 x.cols.length c0, .bool x.uniq].toArray 73) ⟨nb, 0, none⟩ hlt).trans hnb))
  have hnl : nb < (w.alloc (.cells [.string x.name, .string x.table, .slice a0 x.cols.length c0, .bool x.uniq].toArray 73)).heap.size := by simp; omega
  have hwl : w.heap.size < (w.alloc (.cells [.string x.name, .string x.table, .slice a0 x.cols.length c0, .bool x.uniq].toArray 73)).heap.size := by simp
  clear hdr
  have hne : nb ≠ w.heap.size := by omega
  have hm : ∀ (v : Value) (w : World), (method 323 73 v "loop.example/g00751/impl.ownName").run Try.prog w = .ok (154, v) w := fun _ _ => by kernel_rfl
  go_enter Try.func74, Try.ntmps74
  go_wp2_with fail
  go_region_held3 (fun w' => w'.cell? ⟨nb, 0, none⟩ = some (.string n) ∧ w'.cell? ⟨w.heap.size, 0, none⟩ = some (.string x.name) ∧ w'.cell? ⟨w.heap.size, 1, none⟩ = some (.string x.table) ∧ w'.cell? ⟨w.heap.size, 2, none⟩ = some (.slice a0 x.cols.length c0) ∧ w'.cell? ⟨w.heap.size, 3, none⟩ = some (.bool x.uniq)) (first | assumption | exact ⟨QN.out, (Q.out.2 0 (by simp)).1, (Q.out.2 1 (by simp)).1, (Q.out.2 2 (by simp)).1, (Q.out.2 3 (by simp)).1⟩ | exact ⟨(hcw _ _ hnl).trans QN.out, (hcw _ _ hwl).trans (Q.out.2 0 (by simp)).1, (hcw _ _ hwl).trans (Q.out.2 1 (by simp)).1, (hcw _ _ hwl).trans (Q.out.2 2 (by simp)).1, (hcw _ _ hwl).trans (Q.out.2 3 (by simp)).1⟩ | exact (hcw _ _ hnl).trans QN.out | exact (hcw _ _ hwl).trans (Q.out.2 0 (by simp)).1 | exact (hcw _ _ hwl).trans (Q.out.2 1 (by simp)).1 | exact (hcw _ _ hwl).trans (Q.out.2 2 (by simp)).1 | exact (hcw _ _ hwl).trans (Q.out.2 3 (by simp)).1)
    ((go_at_call 154; refine (HO.out _).mono ?_; rintro e w2 ⟨rfl, b2⟩; obtain ⟨hcw, _⟩ := bcellE b2))
  go_wp2_with fail
  go_ret
  exact ⟨rfl, Below.call b2 (below_drewE (by ((repeat (first | refine Below.alloc ?_ (by first | omega | (simp; done) | (simp; omega)) _ | refine Below.setCell ?_ (by first | omega | (simp; done) | (simp; omega)) _)); first | exact Below.refl _ _ | exact Below.refl _ _)))⟩

set_option maxRecDepth 100000 in
set_option maxHeartbeats 2000000 in
theorem indexIx (a : Option Addr) (c : Nat) (xs : List Ix) (n : ByteArray) (nb : Nat) (w : World) (hx : Sl 4 RIx 0 w a c xs) (hnb : w.cell? ⟨nb, 0, none⟩ = some (.string n)) (hlt0 : nb < w.heap.size) :
    Calls Try.prog 73 #[.slice a xs.length c, .func (.func 74) #[] #[.pointer (some ⟨nb, 0, none⟩)]] w fun e w' =>
      e = .returned (.int .i64 (findAt Ix.name xs n)) ∧ Below w.heap.size w w' := by
  have hl := hx.len
  have HX := Lib.hid (fun w' (hb : Below w.heap.size w w') => hx.kept goodIx (Kept.below hb))
  have HN := Lib.hid (fun w' (hb : Below w.heap.size w w') => (And.intro ((hb.cell (p := ⟨nb, 0, none⟩) hlt0).trans hnb) (Nat.lt_of_lt_of_le hlt0 hb.size)))
  clear hx
  go_enter Try.func73, Try.ntmps73
  go_wp2
  go_loopw [8] (fun i wr => ∃ k : Nat, k ≤ xs.length ∧ i = .int .i64 k ∧ Hid (∀ m (hm : m < xs.length), m < k → (xs[m].name.toList == n.toList) = false) ∧ Below w.heap.size w wr) (fun i _ => xs.length - (intOf i).toNat)
  case atStart => exact ⟨0, Nat.zero_le _, rfl, fun m h hm => absurd hm (by omega), Below.refl _ _⟩
  case round =>
    obtain ⟨k, hk, rfl, hall, hb⟩ := hrel
    by_cases hlt : k < xs.length
    · obtain ⟨b, off, vs, rfl, hbl, hcs, hR⟩ := (HX.out _ hb).spot hlt
      obtain ⟨hn1, hn2⟩ := HN.out _ hb
      have HR := hR
      obtain ⟨a0, c0, rfl, _⟩ := hR
      have hc0 : wr.cell? ⟨b, off + k * 4, none⟩ = some (.string xs[k].name) := hcs 0 (by simp)
      have hc1 : wr.cell? ⟨b, off + k * 4 + 1, none⟩ = some (.string xs[k].table) := hcs 1 (by simp)
      have hc2 : wr.cell? ⟨b, off + k * 4 + 2, none⟩ = some (.slice a0 xs[k].cols.length c0) := hcs 2 (by simp)
      have hc3 : wr.cell? ⟨b, off + k * 4 + 3, none⟩ = some (.bool xs[k].uniq) := hcs 3 (by simp)
      have HK := Lib.hid HR
      clear HR hcs
      go_wp2_with fail
      refine (isIx _ xs[k] nb n _ HK.out hn1 hn2).mono ?_
      rintro e w2 ⟨rfl, hb2⟩
      have HB2 := Lib.hid (hb.trans (hb2.mono hb.size))
      clear hb2
      cases he : (xs[k].name.toList == n.toList) with
      | true =>
        have HE := Lib.hid (findAt_hit Ix.name xs n k hlt hall.out he)
        clear he
        go_wp2_with fail
        go_ret
        exact ⟨by rw [HE.out]; rfl, HB2.out⟩
      | false =>
        have HE := Lib.hid he
        clear he
        go_wp2_with fail
        go_roundw
        case rel => exact ⟨k + 1, by omega, by go_num, fun m hm h1 => by
          rcases Nat.lt_or_ge m k with h2 | h2
          · exact hall.out m hm h2
          · obtain rfl : m = k := by omega
            exact HE.out, HB2.out⟩
        case measure => simp [intOf]; omega
    · have HE := Lib.hid (findAt_miss Ix.name xs n fun m hm => hall.out m hm (by omega))
      go_wp2_with fail
      go_ret
      exact ⟨by rw [HE.out]; rfl, hb⟩

set_option maxHeartbeats 1000000 in
theorem placeIx (a : Option Addr) (c : Nat) (xs : List Ix) (n : ByteArray) (w : World) (hx : Sl 4 RIx 0 w a c xs) :
    Calls Try.prog 33 #[.slice a xs.length c, .string n] w fun e w' => e = .returned (.int .i64 (findAt Ix.name xs n)) ∧ Below w.heap.size w w' := by
  have hmf : ∀ (fn : Fn) (first cap : Array Value) (w : World), (Instr.makeFunc fn first cap).run Try.prog w = .ok (.func fn first cap) w := fun _ _ _ _ => rfl
  have HX := Lib.hid (fun w' (hb : Below w.heap.size w w') => hx.kept goodIx (Kept.below hb))
  clear hx
  go_enter Try.func33, Try.ntmps33
  go_wp2_with fail
  refine (indexIx a c xs n w.heap.size _ (HX.out _ (by ((repeat (first | refine Below.alloc ?_ (by first | omega | (simp; done) | (simp; omega)) _ | refine Below.setCell ?_ (by first | omega | (simp; done) | (simp; omega)) _)); first | exact Below.refl _ _ | exact Below.refl _ _))) (by simp [go_sem]) (by simp)).mono ?_
  rintro e w2 ⟨rfl, b2⟩
  have B2 := Lib.hid (show Below w.heap.size w w2 from Below.call b2 (by ((repeat (first | refine Below.alloc ?_ (by first | omega | (simp; done) | (simp; omega)) _ | refine Below.setCell ?_ (by first | omega | (simp; done) | (simp; omega)) _)); first | exact Below.refl _ _ | exact Below.refl _ _)))
  clear b2
  go_wp2_with fail
  go_ret
  exact ⟨rfl, B2.out⟩

end Go.Proofs.Ytefjjcoaeanagaa
