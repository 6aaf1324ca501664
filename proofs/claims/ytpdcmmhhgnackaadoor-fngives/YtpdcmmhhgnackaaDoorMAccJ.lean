/- (impl.sorter).accepts. -/
/- How the arguments of a law are opened: slices of texts, of bytes. -/
/- How an expression among a law's arguments is opened. -/
/- Expressions in boxes of their own: what the exact laws over expressions read. -/
/- (impl.sorter).operand and operation, over any contract of column. -/
/- (impl.sorter).operation and operand: the walks. -/
/- (impl.sorter).operand, over any contract of column. -/
/- (impl.sorter).column where there are no columns. -/
/- The program's table of the kinds of expressions: what the row lists of it, cell by cell. -/
import Derived.Test.YtpdcmmhhgnackaaDoorMShapeE
import Derived.Test.YtpdcmmhhgnackaaDoorMMem
import Derived.ProofKit
import Derived.OpenShut
import Derived.ShutString
import Derived.ChangeOld
import Derived.Below
import Derived.SliceStrings
import Derived.Lib.SmallJoins
import Derived.Deep.Strs
import Derived.ChangeArms
import Derived.Test.YtpdcmmhhgnackaaDoorMDat
import Derived.Test.YtpdcmmhhgnackaaDoorMDrawPick
import Derived.Test.YtpdcmmhhgnackaaDoorMLexM
import Derived.Test.YtpdcmmhhgnackaaDoorCards
import Derived.LaidMore
import Derived.Lib.LaidTab
namespace Go.Proofs.YtpdcmmhhgnackaaDoor
open Go.RowKit

set_option maxRecDepth 100000 in
set_option maxHeartbeats 4000000 in
theorem implAcc (ca : Option Addr) (cl cc : Nat) (a : Option Addr) (c : Nat) (ls : List Lb) (kind : Int) (ka : Option Addr) (kc : Nat) (xs : List Opd) (w : World) (hx : Lbs w a c ls) (hk : Opds w ka kc xs) (h2 : (kind == 10) = true ∨ (kind == 11) = true → xs.length = 2) :
    Calls Tryd.prog 113 #[.agg #[.slice ca cl cc, .slice a ls.length c], .int .i64 kind, .slice ka xs.length kc] w fun e w' => e = .returned (.bool (accB ls kind xs)) ∧ Below w.heap.size w w' := by
  have hl := hx.len
  have hkl := hk.len
  have hb0 : ∀ o1, Below w.heap.size w (w.alloc o1) := fun o1 => (Below.refl _ _).alloc (Nat.le_refl _) _
  have HB0 := Lib.hid hb0
  have HX := Lib.hid (fun w' hb => hx.below (w' := w') hb)
  have HK := Lib.hid (fun w' hb => hk.below (w' := w') hb)
  clear hx hb0 hk
  by_cases h : (kind == 7) = true
  · obtain rfl : kind = 7 := by simpa using h
    clear h h2
    go_enter Tryd.func113, Tryd.ntmps113
    go_wp2_with fail
    go_ret
    exact ⟨rfl, HB0.out _⟩
  have e7 : (kind == 7) = false := by simpa using h
  clear h
  by_cases h : (kind == 6) = true
  · obtain rfl : kind = 6 := by simpa using h
    clear h h2 e7
    have HC : Hid (accB ls 6 xs = allK xs 2) := rfl
    go_enter Tryd.func113, Tryd.ntmps113
    go_wp2_with fail
    refine (implAllOf ka kc xs 2 _ (HK.out _ (HB0.out _))).mono ?_
    rintro e w2 ⟨rfl, rfl⟩
    go_wp2_with fail
    go_ret
    exact ⟨by rw [HC.out]; rfl, HB0.out _⟩
  have e6 : (kind == 6) = false := by simpa using h
  clear h
  by_cases h : (kind == 8) = true
  · obtain rfl : kind = 8 := by simpa using h
    clear h h2 e7 e6
    have HC : Hid (accB ls 8 xs = allK xs 2) := rfl
    go_enter Tryd.func113, Tryd.ntmps113
    go_wp2_with fail
    refine (implAllOf ka kc xs 2 _ (HK.out _ (HB0.out _))).mono ?_
    rintro e w2 ⟨rfl, rfl⟩
    go_wp2_with fail
    go_ret
    exact ⟨by rw [HC.out]; rfl, HB0.out _⟩
  have e8 : (kind == 8) = false := by simpa using h
  clear h
  by_cases h : (kind == 9) = true
  · obtain rfl : kind = 9 := by simpa using h
    clear h h2 e7 e6 e8
    have HC : Hid (accB ls 9 xs = allK xs 2) := rfl
    go_enter Tryd.func113, Tryd.ntmps113
    go_wp2_with fail
    refine (implAllOf ka kc xs 2 _ (HK.out _ (HB0.out _))).mono ?_
    rintro e w2 ⟨rfl, rfl⟩
    go_wp2_with fail
    go_ret
    exact ⟨by rw [HC.out]; rfl, HB0.out _⟩
  have e9 : (kind == 9) = false := by simpa using h
  clear h
  by_cases h : (kind == 10) = true
  · obtain rfl : kind = 10 := by simpa using h
    have hl2 := h2 (by simp)
    match xs, hl2 with
    | [x, y], _ =>
      clear h h2 e7 e6 e8 e9 
      have HC : Hid (accB ls 10 [x, y] = cmpB ls x y) := rfl
      obtain ⟨b, off, rfl, hbl, hc0⟩ := (HK.out _ (HB0.out (.cells #[.slice ca cl cc, .slice a ls.length c] 69))).spot (k := 0) (by simp)
      obtain ⟨b', off', he, _, hc1⟩ := (HK.out _ (HB0.out (.cells #[.slice ca cl cc, .slice a ls.length c] 69))).spot (k := 1) (by simp)
      cases he
      simp only [List.getElem_cons_zero, List.getElem_cons_succ, Nat.add_zero] at hc0 hc1
      have HCM : Hid (∀ W, Below w.heap.size w W → Calls Tryd.prog 138 #[.agg #[.slice ca cl cc, .slice a ls.length c], x.v, y.v] W fun e w' => e = .returned (.bool (cmpB ls x y)) ∧ Below W.heap.size W w') := fun W hb => implCmp ca cl cc a c ls x y W (HX.out _ hb)
      obtain ⟨vx, hvx⟩ : ∃ v, v = x.v := ⟨_, rfl⟩
      obtain ⟨vy, hvy⟩ : ∃ v, v = y.v := ⟨_, rfl⟩
      rw [← hvx] at hc0
      rw [← hvy] at hc1
      rw [← hvx, ← hvy] at HCM
      clear hvx hvy
      have hbw : Below w.heap.size w (w.alloc (.cells #[.slice ca cl cc, .slice a ls.length c] 69)) := HB0.out _
      have HBW := Lib.hid hbw
      have s0 : (w.alloc (.cells #[.slice ca cl cc, .slice a ls.length c] 69)).cell? ⟨w.heap.size, 0, none⟩ = some (.slice ca cl cc) := by simp [go_sem]
      have s1 : (w.alloc (.cells #[.slice ca cl cc, .slice a ls.length c] 69)).cell? ⟨w.heap.size, 1, none⟩ = some (.slice a ls.length c) := by simp [go_sem]
      have hnW : w.heap.size < (w.alloc (.cells #[.slice ca cl cc, .slice a ls.length c] 69)).heap.size := by simp
      clear hbw
      go_enter Tryd.func113, Tryd.ntmps113
      go_wp2_with fail
      generalize w.alloc (.cells #[.slice ca cl cc, .slice a ls.length c] 69) = W at *
      go_region_held3 (fun p => p.cell? ⟨w.heap.size, 0, none⟩ = some (.slice ca cl cc) ∧ p.cell? ⟨w.heap.size, 1, none⟩ = some (.slice a ls.length c) ∧ p.cell? ⟨b, off, none⟩ = some vx ∧ p.cell? ⟨b, off + 1, none⟩ = some vy) (first | go_keep | exact ⟨s0, s1, hc0, hc1⟩ | exact ⟨(hb2.cell (p := ⟨w.heap.size, 0, none⟩) hnW).trans s0, (hb2.cell (p := ⟨w.heap.size, 1, none⟩) hnW).trans s1, (hb2.cell (p := ⟨b, off, none⟩) hbl).trans hc0, (hb2.cell (p := ⟨b, off + 1, none⟩) hbl).trans hc1⟩)
        ((go_at_call 138; refine (HCM.out _ (below_drewN HBW.out 1)).mono ?_; rintro e w2 ⟨rfl, hb2⟩))
      go_wp2_with fail
      go_ret
      exact ⟨by rw [HC.out]; rfl, (below_drewN HBW.out 1).trans (hb2.mono HBW.out.size)⟩
  have e10 : (kind == 10) = false := by simpa using h
  clear h
  by_cases h : (kind == 11) = true
  · obtain rfl : kind = 11 := by simpa using h
    have hl2 := h2 (by simp)
    match xs, hl2 with
    | [x, y], _ =>
      clear h h2 e7 e6 e8 e9 e10
      have HC : Hid (accB ls 11 [x, y] = cmpB ls x y) := rfl
      obtain ⟨b, off, rfl, hbl, hc0⟩ := (HK.out _ (HB0.out (.cells #[.slice ca cl cc, .slice a ls.length c] 69))).spot (k := 0) (by simp)
      obtain ⟨b', off', he, _, hc1⟩ := (HK.out _ (HB0.out (.cells #[.slice ca cl cc, .slice a ls.length c] 69))).spot (k := 1) (by simp)
      cases he
      simp only [List.getElem_cons_zero, List.getElem_cons_succ, Nat.add_zero] at hc0 hc1
      have HCM : Hid (∀ W, Below w.heap.size w W → Calls Tryd.prog 138 #[.agg #[.slice ca cl cc, .slice a ls.length c], x.v, y.v] W fun e w' => e = .returned (.bool (cmpB ls x y)) ∧ Below W.heap.size W w') := fun W hb => implCmp ca cl cc a c ls x y W (HX.out _ hb)
      obtain ⟨vx, hvx⟩ : ∃ v, v = x.v := ⟨_, rfl⟩
      obtain ⟨vy, hvy⟩ : ∃ v, v = y.v := ⟨_, rfl⟩
      rw [← hvx] at hc0
      rw [← hvy] at hc1
      rw [← hvx, ← hvy] at HCM
      clear hvx hvy
      have hbw : Below w.heap.size w (w.alloc (.cells #[.slice ca cl cc, .slice a ls.length c] 69)) := HB0.out _
      have HBW := Lib.hid hbw
      have s0 : (w.alloc (.cells #[.slice ca cl cc, .slice a ls.length c] 69)).cell? ⟨w.heap.size, 0, none⟩ = some (.slice ca cl cc) := by simp [go_sem]
      have s1 : (w.alloc (.cells #[.slice ca cl cc, .slice a ls.length c] 69)).cell? ⟨w.heap.size, 1, none⟩ = some (.slice a ls.length c) := by simp [go_sem]
      have hnW : w.heap.size < (w.alloc (.cells #[.slice ca cl cc, .slice a ls.length c] 69)).heap.size := by simp
      clear hbw
      go_enter Tryd.func113, Tryd.ntmps113
      go_wp2_with fail
      generalize w.alloc (.cells #[.slice ca cl cc, .slice a ls.length c] 69) = W at *
      go_region_held3 (fun p => p.cell? ⟨w.heap.size, 0, none⟩ = some (.slice ca cl cc) ∧ p.cell? ⟨w.heap.size, 1, none⟩ = some (.slice a ls.length c) ∧ p.cell? ⟨b, off, none⟩ = some vx ∧ p.cell? ⟨b, off + 1, none⟩ = some vy) (first | go_keep | exact ⟨s0, s1, hc0, hc1⟩ | exact ⟨(hb2.cell (p := ⟨w.heap.size, 0, none⟩) hnW).trans s0, (hb2.cell (p := ⟨w.heap.size, 1, none⟩) hnW).trans s1, (hb2.cell (p := ⟨b, off, none⟩) hbl).trans hc0, (hb2.cell (p := ⟨b, off + 1, none⟩) hbl).trans hc1⟩)
        ((go_at_call 138; refine (HCM.out _ (below_drewN HBW.out 1)).mono ?_; rintro e w2 ⟨rfl, hb2⟩))
      go_wp2_with fail
      go_ret
      exact ⟨by rw [HC.out]; rfl, (below_drewN HBW.out 1).trans (hb2.mono HBW.out.size)⟩
  have e11 : (kind == 11) = false := by simpa using h
  clear h
  by_cases h : (kind == 12) = true
  · obtain rfl : kind = 12 := by simpa using h
    clear h h2 e7 e6 e8 e9 e10 e11
    have HC : Hid (accB ls 12 xs = (allK xs 0 || allK xs 1)) := rfl
    cases hA : allK xs 0 with
    | true =>
      have HA := Lib.hid hA
      go_enter Tryd.func113, Tryd.ntmps113
      go_wp2_with fail
      refine (implAllOf ka kc xs 0 _ (HK.out _ (HB0.out _))).mono ?_
      rw [hA]
      rintro e w2 ⟨rfl, rfl⟩
      clear hA
      go_wp2_with fail
      go_ret
      exact ⟨by rw [HC.out, HA.out]; rfl, HB0.out _⟩
    | false =>
      have HA := Lib.hid hA
      go_enter Tryd.func113, Tryd.ntmps113
      go_wp2_with fail
      refine (implAllOf ka kc xs 0 _ (HK.out _ (HB0.out _))).mono ?_
      rw [hA]
      rintro e w2 ⟨rfl, rfl⟩
      clear hA
      go_wp2_with fail
      refine (implAllOf ka kc xs 1 _ (HK.out _ (HB0.out _))).mono ?_
      rintro e w2 ⟨rfl, rfl⟩
      go_wp2_with fail
      go_ret
      exact ⟨by rw [HC.out, HA.out]; rfl, HB0.out _⟩
  have e12 : (kind == 12) = false := by simpa using h
  clear h
  by_cases h : (kind == 13) = true
  · obtain rfl : kind = 13 := by simpa using h
    clear h h2 e7 e6 e8 e9 e10 e11 e12
    have HC : Hid (accB ls 13 xs = (allK xs 0 || allK xs 1)) := rfl
    cases hA : allK xs 0 with
    | true =>
      have HA := Lib.hid hA
      go_enter Tryd.func113, Tryd.ntmps113
      go_wp2_with fail
      refine (implAllOf ka kc xs 0 _ (HK.out _ (HB0.out _))).mono ?_
      rw [hA]
      rintro e w2 ⟨rfl, rfl⟩
      clear hA
      go_wp2_with fail
      go_ret
      exact ⟨by rw [HC.out, HA.out]; rfl, HB0.out _⟩
    | false =>
      have HA := Lib.hid hA
      go_enter Tryd.func113, Tryd.ntmps113
      go_wp2_with fail
      refine (implAllOf ka kc xs 0 _ (HK.out _ (HB0.out _))).mono ?_
      rw [hA]
      rintro e w2 ⟨rfl, rfl⟩
      clear hA
      go_wp2_with fail
      refine (implAllOf ka kc xs 1 _ (HK.out _ (HB0.out _))).mono ?_
      rintro e w2 ⟨rfl, rfl⟩
      go_wp2_with fail
      go_ret
      exact ⟨by rw [HC.out, HA.out]; rfl, HB0.out _⟩
  have e13 : (kind == 13) = false := by simpa using h
  clear h
  by_cases h : (kind == 14) = true
  · obtain rfl : kind = 14 := by simpa using h
    clear h h2 e7 e6 e8 e9 e10 e11 e12 e13
    have HC : Hid (accB ls 14 xs = (allK xs 0 || allK xs 1)) := rfl
    cases hA : allK xs 0 with
    | true =>
      have HA := Lib.hid hA
      go_enter Tryd.func113, Tryd.ntmps113
      go_wp2_with fail
      refine (implAllOf ka kc xs 0 _ (HK.out _ (HB0.out _))).mono ?_
      rw [hA]
      rintro e w2 ⟨rfl, rfl⟩
      clear hA
      go_wp2_with fail
      go_ret
      exact ⟨by rw [HC.out, HA.out]; rfl, HB0.out _⟩
    | false =>
      have HA := Lib.hid hA
      go_enter Tryd.func113, Tryd.ntmps113
      go_wp2_with fail
      refine (implAllOf ka kc xs 0 _ (HK.out _ (HB0.out _))).mono ?_
      rw [hA]
      rintro e w2 ⟨rfl, rfl⟩
      clear hA
      go_wp2_with fail
      refine (implAllOf ka kc xs 1 _ (HK.out _ (HB0.out _))).mono ?_
      rintro e w2 ⟨rfl, rfl⟩
      go_wp2_with fail
      go_ret
      exact ⟨by rw [HC.out, HA.out]; rfl, HB0.out _⟩
  have e14 : (kind == 14) = false := by simpa using h
  clear h
  by_cases h : (kind == 15) = true
  · obtain rfl : kind = 15 := by simpa using h
    clear h h2 e7 e6 e8 e9 e10 e11 e12 e13 e14
    have HC : Hid (accB ls 15 xs = (allK xs 0 || allK xs 1)) := rfl
    cases hA : allK xs 0 with
    | true =>
      have HA := Lib.hid hA
      go_enter Tryd.func113, Tryd.ntmps113
      go_wp2_with fail
      refine (implAllOf ka kc xs 0 _ (HK.out _ (HB0.out _))).mono ?_
      rw [hA]
      rintro e w2 ⟨rfl, rfl⟩
      clear hA
      go_wp2_with fail
      go_ret
      exact ⟨by rw [HC.out, HA.out]; rfl, HB0.out _⟩
    | false =>
      have HA := Lib.hid hA
      go_enter Tryd.func113, Tryd.ntmps113
      go_wp2_with fail
      refine (implAllOf ka kc xs 0 _ (HK.out _ (HB0.out _))).mono ?_
      rw [hA]
      rintro e w2 ⟨rfl, rfl⟩
      clear hA
      go_wp2_with fail
      refine (implAllOf ka kc xs 1 _ (HK.out _ (HB0.out _))).mono ?_
      rintro e w2 ⟨rfl, rfl⟩
      go_wp2_with fail
      go_ret
      exact ⟨by rw [HC.out, HA.out]; rfl, HB0.out _⟩
  have e15 : (kind == 15) = false := by simpa using h
  clear h
  have HC : Hid (accB ls kind xs = allK xs 0) := by unfold Hid accB; rw [e7, e6, e8, e9, e10, e11, e12, e13, e14, e15]; rfl
  clear h2
  go_enter Tryd.func113, Tryd.ntmps113
  go_wp2_with fail
  refine (implAllOf ka kc xs 0 _ (HK.out _ (HB0.out _))).mono ?_
  rintro e w2 ⟨rfl, rfl⟩
  go_wp2_with fail
  go_ret
  exact ⟨by rw [HC.out]; rfl, HB0.out _⟩

end Go.Proofs.YtpdcmmhhgnackaaDoor

namespace Go.Proofs.YtpdcmmhhgnackaaDoor
open Go.ChangeShapes Go.WideShapes Go.ChangeAt Go.RowKit

theorem ownKnobs : ownKnob Tryd.prog.godebug = none := by kernel_rfl
theorem laidOutB0 : laidOutB Tryd.prog = true := by kernel_rfl

theorem Strs_of_trod {H : Type} {enc : TypeId × Value → H} {W : World} {base : Nat} {a : Option Addr} {l c : Nat} {d : DataW H} {p : List MemPlace}
    (h : DataW.Trod enc Tryd.prog W base (fun _ => true) true 33 (.slice a l c) d p) : ∃ xs : List ByteArray, l = xs.length ∧ Strs W a c xs := by
  obtain ⟨fuel, hf⟩ := h
  have hlt := DataW.trod_lt fuel _ _ _ hf
  rcases open_strings Tryd.underlying33 Tryd.underlying9 (by kernel_rfl) hf with ⟨hcs, _⟩ | ⟨x, l', c', ss, hcs, _, hl, hm, hz, hx, hcell, hw⟩
  · simp [Value.cells] at hcs
    obtain ⟨rfl, rfl, rfl⟩ := hcs
    exact ⟨[], rfl, by simp, by unfold maxLen; omega, by simp, fun _ => rfl, fun h => by simp at h⟩
  · simp [Value.cells] at hcs
    obtain ⟨rfl, rfl, rfl⟩ := hcs
    rw [if_pos rfl] at hz
    refine ⟨ss.take l, by simp; omega, by simp; omega, hm, fun s hs => hw s (List.mem_of_mem_take hs), (fun h => by cases h), fun hp => ?_⟩
    obtain ⟨b, off, spot⟩ := x
    have hp' : 0 < l := by simp at hp; omega
    have h0 := hcell 0 (by omega)
    have hspot : spot = none := by simpa [Addr.add] using World.cell?_spot h0
    subst hspot
    refine ⟨b, off, rfl, ?_, fun i hi => ?_⟩
    · have hb : W.cell? ⟨b, off, none⟩ = some (.string (ss.getD 0 ByteArray.empty)) := by simpa [Addr.add] using h0
      rcases Nat.lt_or_ge b W.heap.size with hlt | hge
      · exact hlt
      · simp [World.cell?, Array.getElem?_eq_none hge] at hb
    · have hi' : i < l := by simp at hi; omega
      have := hcell i (by omega)
      rw [List.getElem_take]
      rw [List.getD_eq_getElem?_getD, List.getElem?_eq_getElem (by omega), Option.getD_some] at this
      rw [← this]
      congr 1
      unfold Addr.add
      by_cases h0 : i = 0 <;> simp [h0]

end Go.Proofs.YtpdcmmhhgnackaaDoor

namespace Go.Proofs.YtpdcmmhhgnackaaDoor
open Go.ChangeShapes Go.WideShapes Go.ChangeAt Go.RowKit

theorem i64E_of {n : Int} (h : (Lit.int .i64 n).wf = true) : i64E n := by
  have hmin : IntKind.i64.min = -9223372036854775808 := by decide
  have hmax : IntKind.i64.max = 9223372036854775807 := by decide
  simp [Lit.wf, hmin, hmax] at h
  exact h

theorem cellsEx : Tryd.prog.cellsOf 148 = 4 := by kernel_rfl
theorem cellsIntE : Tryd.prog.cellsOf 3 = 1 := by kernel_rfl
theorem cellsStrE : Tryd.prog.cellsOf 9 = 1 := by kernel_rfl
theorem cellsKids : Tryd.prog.cellsOf 48 = 1 := by kernel_rfl

set_option maxRecDepth 100000 in
theorem ex_of_trod {H : Type} {enc : TypeId × Value → H} {W : World} : ∀ (fuel : Nat) (cs : List Value) (x : DataW H × List MemPlace),
    DataW.trod enc Tryd.prog W 0 (fun _ => true) true fuel 148 cs = some x →
    ∃ (e : Ex) (a : Option Addr) (c : Nat), cs = [.int .i64 e.kind, .string e.text, .int .i64 e.num, .slice a e.kids.length c] ∧ e.fit ∧ KidsAt W fuel a c e.kids := by
  intro fuel
  induction fuel using Nat.strongRecOn with
  | ind fuel ih =>
    intro cs x h
    obtain ⟨ys, n, hn, _, hl, hyl, hf⟩ := DataW.trod_struct Tryd.underlying148 h
    subst hn
    rw [cellsEx] at hl
    match cs, hl with
    | [c0, c1, c2, c3], _ =>
      have hs : ys.length = 4 := hyl
      match ys, hs with
      | [y0, y1, y2, y3], _ =>
        have f0 : DataW.trod enc Tryd.prog W 0 (fun _ => true) true n 3 (([c0, c1, c2, c3].drop 0).take (Tryd.prog.cellsOf 3)) = some y0 := hf 0 _ rfl
        have f1 : DataW.trod enc Tryd.prog W 0 (fun _ => true) true n 9 (([c0, c1, c2, c3].drop 1).take (Tryd.prog.cellsOf 9)) = some y1 := hf 1 _ rfl
        have f2 : DataW.trod enc Tryd.prog W 0 (fun _ => true) true n 3 (([c0, c1, c2, c3].drop 2).take (Tryd.prog.cellsOf 3)) = some y2 := hf 2 _ rfl
        have f3 : DataW.trod enc Tryd.prog W 0 (fun _ => true) true n 48 (([c0, c1, c2, c3].drop 3).take (Tryd.prog.cellsOf 48)) = some y3 := hf 3 _ rfl
        rw [cellsIntE] at f0 f2
        rw [cellsStrE] at f1
        rw [cellsKids] at f3
        obtain ⟨k, e0, _, w0⟩ := DataW.trod_int Tryd.underlying3 f0
        obtain ⟨s, e1, _, w1⟩ := DataW.trod_string Tryd.underlying9 f1
        obtain ⟨p, e2, _, w2⟩ := DataW.trod_int Tryd.underlying3 f2
        simp at e0 e1 e2
        subst e0 e1 e2
        rcases DataW.trod_slice Tryd.underlying48 f3 with ⟨hcs, _⟩ | ⟨q, len, cap, elems, rest, m, hm, hcs, _, _, hlc, hcap, hlen, hel, _, _⟩
        · simp at hcs
          subst hcs
          exact ⟨.mk k s p [], none, 0, rfl, ⟨w1, i64E_of w0, i64E_of w2⟩, Nat.le_refl _, by unfold maxLen; omega, fun _ => rfl, fun h => absurd h (by simp [Ex.kids])⟩
        · simp at hcs
          subst hcs
          subst hm
          have hpick : ∀ i, i < len → ∃ (e : Ex) (a : Option Addr) (c : Nat), (W.cell? (q.add (i * 4 + 0)) = some (.int .i64 e.kind) ∧ W.cell? (q.add (i * 4 + 1)) = some (.string e.text) ∧ W.cell? (q.add (i * 4 + 2)) = some (.int .i64 e.num) ∧ W.cell? (q.add (i * 4 + 3)) = some (.slice a e.kids.length c)) ∧ e.fit ∧ KidsAt W m a c e.kids := by
            intro i hi
            have hh := hel i hi
            rw [cellsEx, List.getElem?_eq_getElem (by omega)] at hh
            obtain ⟨cs', hc, ht⟩ := Option.bind_eq_some_iff.1 hh
            obtain ⟨e, a, c, rfl, hfit, hk⟩ := ih m (by omega) cs' _ ht
            obtain ⟨_, _, hat⟩ := World.cells?_some hc
            refine ⟨e, a, c, ⟨?_, ?_, ?_, ?_⟩, hfit, hk⟩
            · rw [← Go.Deep.add_add]; exact hat 0 (by omega)
            · rw [← Go.Deep.add_add]; exact hat 1 (by omega)
            · rw [← Go.Deep.add_add]; exact hat 2 (by omega)
            · rw [← Go.Deep.add_add]; exact hat 3 (by omega)
          clear hel ih hf h f0 f1 f2 f3
          have hall : ∃ es : List Ex, es.length = len ∧ ∀ (i : Nat) (h : i < es.length), ∃ (a : Option Addr) (c : Nat), (W.cell? (q.add (i * 4 + 0)) = some (.int .i64 es[i].kind) ∧ W.cell? (q.add (i * 4 + 1)) = some (.string es[i].text) ∧ W.cell? (q.add (i * 4 + 2)) = some (.int .i64 es[i].num) ∧ W.cell? (q.add (i * 4 + 3)) = some (.slice a es[i].kids.length c)) ∧ es[i].fit ∧ KidsAt W m a c es[i].kids := by
            suffices H : ∀ z, z ≤ len → ∃ es : List Ex, es.length = z ∧ ∀ (i : Nat) (h : i < es.length), ∃ (a : Option Addr) (c : Nat), (W.cell? (q.add (i * 4 + 0)) = some (.int .i64 es[i].kind) ∧ W.cell? (q.add (i * 4 + 1)) = some (.string es[i].text) ∧ W.cell? (q.add (i * 4 + 2)) = some (.int .i64 es[i].num) ∧ W.cell? (q.add (i * 4 + 3)) = some (.slice a es[i].kids.length c)) ∧ es[i].fit ∧ KidsAt W m a c es[i].kids from H len (Nat.le_refl _)
            intro z
            induction z with
            | zero => exact fun _ => ⟨[], rfl, fun i h => by simp at h⟩
            | succ z ihz =>
              intro hz
              obtain ⟨es, hes, hc⟩ := ihz (by omega)
              obtain ⟨e, a, c, he⟩ := hpick z (by omega)
              refine ⟨es ++ [e], by simp [hes], fun i h => ?_⟩
              by_cases hiz : i < es.length
              · rw [List.getElem_append_left hiz]; exact hc i hiz
              · have : i = z := by simp at h; omega
                subst this
                refine ⟨a, c, ?_⟩
                rw [List.getElem_append_right (by omega)]
                simpa using he
          obtain ⟨es, hesl, hes⟩ := hall
          refine ⟨.mk k s p es, some q, cap, by simp [Ex.kind, Ex.text, Ex.num, Ex.kids, hesl], ⟨w1, i64E_of w0, i64E_of w2⟩, ?_⟩
          refine KidsAt.mono (d := m + 1) (by omega) ?_
          simp only [Ex.kids]
          refine ⟨by omega, hcap, (fun h => by cases h), fun hp => ?_⟩
          obtain ⟨b, off, spot⟩ := q
          obtain ⟨_, _, ⟨h0, _⟩, _⟩ := hes 0 hp
          have hspot : spot = none := by simpa [Addr.add] using World.cell?_spot h0
          subst hspot
          have hadd : ∀ j, (⟨b, off, none⟩ : Addr).add j = ⟨b, off + j, none⟩ := fun j => by unfold Addr.add; by_cases h0 : j = 0 <;> simp [h0]
          refine ⟨b, off, rfl, ?_, fun i hi' => ?_⟩
          · have hb : W.cell? ⟨b, off, none⟩ = some (.int .i64 es[0].kind) := by simpa [Addr.add] using h0
            rcases Nat.lt_or_ge b W.heap.size with hlt | hge
            · exact hlt
            · simp [World.cell?, Array.getElem?_eq_none hge] at hb
          · obtain ⟨a, c, ⟨d0, d1, d2, d3⟩, hfit, hk⟩ := hes i hi'
            rw [hadd] at d0 d1 d2 d3
            exact ⟨d0, d1, d2, hfit, a, c, d3, hk⟩

set_option maxRecDepth 100000 in
theorem Expr_of_trod {H : Type} {enc : TypeId × Value → H} {W : World} {b0 : Nat} {r : Reach} {v : Value} {d : DataW H} {p : List MemPlace}
    (hv : Value.okWide Tryd.prog W r b0 148 v) (h : DataW.Trod enc Tryd.prog W 0 (fun _ => true) true 148 v d p) :
    ∃ (e : Ex) (a : Option Addr) (c n : Nat), v = e.v a c ∧ e.fit ∧ KidsAt W n a c e.kids := by
  obtain ⟨cs, rfl, hsz⟩ := okWide_struct Tryd.underlying148 hv
  obtain ⟨fuel, hf⟩ := h
  obtain ⟨e, a, c, hcs, hfit, hk⟩ := ex_of_trod fuel _ _ hf
  refine ⟨e, a, c, fuel, ?_, hfit, hk⟩
  obtain ⟨l⟩ := cs
  have : l = _ := hcs
  subst this
  rfl

end Go.Proofs.YtpdcmmhhgnackaaDoor

namespace Go.Proofs.YtpdcmmhhgnackaaDoor
open Go.ChangeShapes Go.WideShapes Go.ChangeAt Go.RowKit

/-- The cells of the argument's own box. -/
def Box4 (w : World) (b : Nat) (e : Ex) (a : Option Addr) (c : Nat) : Prop :=
  b < w.heap.size ∧ w.cell? ⟨b, 0, none⟩ = some (.int .i64 e.kind) ∧ w.cell? ⟨b, 1, none⟩ = some (.string e.text) ∧ w.cell? ⟨b, 2, none⟩ = some (.int .i64 e.num) ∧ w.cell? ⟨b, 3, none⟩ = some (.slice a e.kids.length c)

theorem box4_new (w : World) (T : TypeId) (e : Ex) (a : Option Addr) (c : Nat) : Box4 (w.alloc (.cells #[.int .i64 e.kind, .string e.text, .int .i64 e.num, .slice a e.kids.length c] T)) w.heap.size e a c :=
  ⟨by simp, by simp [go_sem], by simp [go_sem], by simp [go_sem], by simp [go_sem]⟩

theorem Box4.below {w w' : World} {b : Nat} {e : Ex} {a : Option Addr} {c : Nat} (h : Box4 w b e a c) (hb : Below w.heap.size w w') : Box4 w' b e a c := by
  obtain ⟨h0, h1, h2, h3, h4⟩ := h
  have ce := fun o => hb.cell (p := ⟨b, o, none⟩) h0
  exact ⟨Nat.lt_of_lt_of_le h0 hb.size, (ce 0).trans h1, (ce 1).trans h2, (ce 2).trans h3, (ce 3).trans h4⟩

/-- Two boxes: the argument's own, and that of its copy. -/
def Two (w : World) (X : Nat) (e : Ex) (a a4 : Option Addr) (c c4 d : Nat) (w' : World) : Prop :=
  Box4 w' w.heap.size e a c ∧ Box4 w' X e a4 c4 ∧ KidsAt w' d a4 c4 e.kids ∧ Below w.heap.size w w'

theorem Two.below {w wa wb : World} {X : Nat} {e : Ex} {a a4 : Option Addr} {c c4 d : Nat} (h : Two w X e a a4 c c4 d wa) (hb : Below wa.heap.size wa wb) : Two w X e a a4 c c4 d wb :=
  ⟨h.1.below hb, h.2.1.below hb, h.2.2.1.below hb, h.2.2.2.trans (hb.mono h.2.2.2.size)⟩

theorem Two.drew {w wa : World} {X : Nat} {e : Ex} {a a4 : Option Addr} {c c4 d : Nat} (h : Two w X e a a4 c c4 d wa) : Two w X e a a4 c c4 d wa.drew := h.below (below_drewE (Below.refl _ _))

theorem Two.new {w w4 : World} {e : Ex} {a a4 : Option Addr} {c c4 d : Nat} (hX : Box4 w4 w.heap.size e a c) (hK : KidsAt w4 d a4 c4 e.kids) (hB : Below w.heap.size w w4) (T : TypeId) :
    Two w w4.heap.size e a a4 c c4 d (w4.alloc (.cells #[.int .i64 e.kind, .string e.text, .int .i64 e.num, .slice a4 e.kids.length c4] T)) :=
  ⟨hX.below ((Below.refl _ _).alloc (Nat.le_refl _) _), box4_new w4 T e a4 c4, hK.below ((Below.refl _ _).alloc (Nat.le_refl _) _), hB.trans (((Below.refl _ _).alloc (Nat.le_refl _) _).mono hB.size)⟩

/-- Their cells, one by one. -/
def Cells8 (n X : Nat) (e : Ex) (a a4 : Option Addr) (c c4 : Nat) (w' : World) : Prop :=
  (w'.cell? ⟨n, 0, none⟩ = some (.int .i64 e.kind) ∧ w'.cell? ⟨n, 1, none⟩ = some (.string e.text) ∧ w'.cell? ⟨n, 2, none⟩ = some (.int .i64 e.num) ∧ w'.cell? ⟨n, 3, none⟩ = some (.slice a e.kids.length c)) ∧
  (w'.cell? ⟨X, 0, none⟩ = some (.int .i64 e.kind) ∧ w'.cell? ⟨X, 1, none⟩ = some (.string e.text) ∧ w'.cell? ⟨X, 2, none⟩ = some (.int .i64 e.num) ∧ w'.cell? ⟨X, 3, none⟩ = some (.slice a4 e.kids.length c4))

theorem Two.cells {w wa : World} {X : Nat} {e : Ex} {a a4 : Option Addr} {c c4 d : Nat} (h : Two w X e a a4 c c4 d wa) : Cells8 w.heap.size X e a a4 c c4 wa := ⟨h.1.2, h.2.1.2⟩

end Go.Proofs.YtpdcmmhhgnackaaDoor

namespace Go.Proofs.YtpdcmmhhgnackaaDoor
open Go.RowKit

def resK (kind : Int) : Opd := if (kind == 16) = true ∨ (kind == 17) = true ∨ (kind == 18) = true then .plain 0 else .plain 2

mutual
/-- The operand of an expression, by the program's own rules. -/
def opdE (col : ByteArray → Option Opd) (ls : List Lb) : Ex → Option Opd
  | .mk k s _ kids =>
    if (k == 0) = true then col s else if (k == 1) = true then some (.plain 0) else if (k == 2) = true then some (.text s)
    else if (k == 3) = true ∨ (k == 4) = true then some (.plain 2) else if (k == 5) = true then some (.plain 4)
    else match opdL col ls kids with
      | none => none
      | some xs => if accB ls k xs = true then some (resK k) else none
def opdL (col : ByteArray → Option Opd) (ls : List Lb) : List Ex → Option (List Opd)
  | [] => some []
  | e :: r => match opdE col ls e with
    | none => none
    | some o => match opdL col ls r with
      | none => none
      | some xs => some (o :: xs)
end

/-- The operand of an operation. -/
def opnE (col : ByteArray → Option Opd) (ls : List Lb) (e : Ex) : Option Opd :=
  match opdL col ls e.kids with
  | none => none
  | some xs => if accB ls e.kind xs = true then some (resK e.kind) else none

theorem opdL_take {col : ByteArray → Option Opd} {ls : List Lb} {l : List Ex} {k : Nat} (h : k < l.length) {xs : List Opd} (hx : opdL col ls (l.take k) = some xs) :
    (∀ o, opdE col ls l[k] = some o → opdL col ls (l.take (k + 1)) = some (xs ++ [o])) ∧ (opdE col ls l[k] = none → opdL col ls l = none) := by
  induction l generalizing k xs with
  | nil => simp at h
  | cons e r ih =>
    cases k with
    | zero =>
      simp only [List.take_zero, opdL, Option.some.injEq] at hx
      subst hx
      refine ⟨fun o ho => ?_, fun hn => ?_⟩
      · simp only [List.getElem_cons_zero] at ho
        simp [opdL, ho]
      · simp only [List.getElem_cons_zero] at hn
        rw [opdL, hn]
    | succ k =>
      rw [List.take_succ_cons, opdL] at hx
      cases he : opdE col ls e with
      | none => rw [he] at hx; cases hx
      | some o0 =>
        rw [he] at hx
        simp only at hx
        cases hr : opdL col ls (r.take k) with
        | none => rw [hr] at hx; cases hx
        | some ys =>
          rw [hr] at hx
          simp only [Option.some.injEq] at hx
          subst hx
          obtain ⟨i1, i2⟩ := ih (by simpa using h) hr
          simp only [List.getElem_cons_succ]
          refine ⟨fun o ho => ?_, fun hn => ?_⟩
          · rw [List.take_succ_cons, opdL, he]
            simp only
            rw [i1 o ho]
            rfl
          · rw [opdL, he]
            simp only
            rw [i2 hn]

def resV : Option Opd → Value
  | none => .tuple #[.nilIface, .bool false]
  | some o => .tuple #[o.v, .bool true]

mutual
/-- Where two operands are compared there are two. -/
def arE : Ex → Bool
  | .mk k _ _ kids => (!((k == 10) || (k == 11)) || kids.length == 2) && arL kids
def arL : List Ex → Bool
  | [] => true
  | e :: r => arE e && arL r
end

theorem arE_eq (e : Ex) : arE e = ((!((e.kind == 10) || (e.kind == 11)) || e.kids.length == 2) && arL e.kids) := by
  cases e; rw [arE]; rfl

theorem arL_get {l : List Ex} (h : arL l = true) {k : Nat} (hk : k < l.length) : arE l[k] = true := by
  induction l generalizing k with
  | nil => simp at hk
  | cons e r ih =>
    rw [arL, Bool.and_eq_true] at h
    cases k with
    | zero => exact h.1
    | succ k => exact ih h.2 (by simpa using hk)

/-- A row of operands of the call's own. -/
def OwnO (w : World) (B : Nat) (a : Option Addr) (c : Nat) (xs : List Opd) : Prop :=
  w.ownsRow B 71 1 (.slice a xs.length c) xs.length (xs.map Opd.v)

theorem OwnO.opds {w : World} {B : Nat} {a : Option Addr} {c : Nat} {xs : List Opd} (h : OwnO w B a c xs) : Opds w a c xs := by
  unfold OwnO at h
  rcases h.2 with ⟨hv, hn⟩ | ⟨g, cap, cur, hv, hb, hg, hnc, hcm, hcs, ht⟩
  · simp only [Value.slice.injEq] at hv
    obtain ⟨rfl, h0, rfl⟩ := hv
    exact ⟨by omega, by unfold maxLen; omega, fun _ => rfl, fun hp => by omega⟩
  · simp only [Value.slice.injEq] at hv
    obtain ⟨rfl, _, rfl⟩ := hv
    refine ⟨hnc, hcm, (fun h => by cases h), fun hp => ⟨g, 0, rfl, (h.lt g rfl).2, fun i hi => ?_⟩⟩
    have := World.ownsRow.cellAt (w := w) h i (by omega)
    rw [Nat.zero_add, this, List.getElem?_map, List.getElem?_eq_getElem hi]
    rfl

theorem OwnO.below {w w' : World} {B : Nat} {a : Option Addr} {c : Nat} {xs : List Opd} (h : OwnO w B a c xs) (hb : Below w.heap.size w w') : OwnO w' B a c xs := by
  unfold OwnO at h ⊢
  refine ⟨h.1, ?_⟩
  rcases h.2 with h2 | ⟨g, cap, cur, hv, hB, hg, r⟩
  · exact .inl h2
  · exact .inr ⟨g, cap, cur, hv, hB, by rw [hb.block g (h.lt g (by rw [hv]; rfl)).2]; exact hg, r⟩

theorem Tryd.infoOperand : (Tryd.prog.info? 71).map (fun i => (i.zero, i.size, i.bytes)) = some (some .nilIface, 1, 16) := by kernel_rfl

theorem Opd.one (o : Opd) : o.v.oneCell' = true := by cases o <;> rfl

theorem nodesL_lenO : (l : List Ex) → l.length ≤ nodesL l
  | [] => by simp [nodesL]
  | e :: r => by rw [nodesL, List.length_cons]; have := nodesL_lenO r; have := Ex.nodes_eq e; omega

end Go.Proofs.YtpdcmmhhgnackaaDoor

namespace Go.Proofs.YtpdcmmhhgnackaaDoor
open Go.RowKit

/-- What column answers. -/
def ColC (ca : Option Addr) (cl cc : Nat) (a : Option Addr) (c : Nat) (ls : List Lb) (col : ByteArray → Option Opd) (w0 : World) : Prop := ∀ (s : ByteArray) (W : World), Below w0.heap.size w0 W →
  Calls Tryd.prog 71 #[.agg #[.slice ca cl cc, .slice a ls.length c], .string s] W fun x w' => x = .returned (resV (col s)) ∧ Below W.heap.size W w'

def OpP (ca : Option Addr) (cl cc : Nat) (a : Option Addr) (c : Nat) (ls : List Lb) (col : ByteArray → Option Opd) (w0 : World) (d : Nat) : Prop := ∀ (e : Ex) (ak : Option Addr) (ck : Nat) (W : World), Below w0.heap.size w0 W → KidsAt W d ak ck e.kids → arE e = true → e.nodes ≤ 1048577 →
  Calls Tryd.prog 28 #[.agg #[.slice ca cl cc, .slice a ls.length c], .agg #[.int .i64 e.kind, .string e.text, .int .i64 e.num, .slice ak e.kids.length ck]] W fun x w' => x = .returned (resV (opdE col ls e)) ∧ Below W.heap.size W w'

/-- The two boxes of operation. -/
structure B2 (w : World) (ca : Option Addr) (cl cc : Nat) (a : Option Addr) (c : Nat) (ls : List Lb) (e : Ex) (ak : Option Addr) (ck : Nat) (W : World) : Prop where
  s0 : W.cell? ⟨w.heap.size, 0, none⟩ = some (.slice ca cl cc)
  s1 : W.cell? ⟨w.heap.size, 1, none⟩ = some (.slice a ls.length c)
  e0 : W.cell? ⟨w.heap.size + 1, 0, none⟩ = some (.int .i64 e.kind)
  e3 : W.cell? ⟨w.heap.size + 1, 3, none⟩ = some (.slice ak e.kids.length ck)
  lt : w.heap.size + 2 ≤ W.heap.size
  bel : Below w.heap.size w W

theorem B2.below {w : World} {ca : Option Addr} {cl cc : Nat} {a : Option Addr} {c : Nat} {ls : List Lb} {e : Ex} {ak : Option Addr} {ck : Nat} {W W' : World} (h : B2 w ca cl cc a c ls e ak ck W) (hb : Below W.heap.size W W') : B2 w ca cl cc a c ls e ak ck W' := by
  have hl := h.lt
  have ce : ∀ b o, b < W.heap.size → W'.cell? ⟨b, o, none⟩ = W.cell? ⟨b, o, none⟩ := fun b o h => hb.cell (p := ⟨b, o, none⟩) h
  exact ⟨(ce _ _ (by omega)).trans h.s0, (ce _ _ (by omega)).trans h.s1, (ce _ _ (by omega)).trans h.e0, (ce _ _ (by omega)).trans h.e3, Nat.le_trans hl hb.size, h.bel.trans (hb.mono h.bel.size)⟩

theorem b2_grown {w : World} {ca : Option Addr} {cl cc : Nat} {a : Option Addr} {c : Nat} {ls : List Lb} {e : Ex} {ak : Option Addr} {ck : Nat} {W W' : World} {row : Option Nat} (h : B2 w ca cl cc a c ls e ak ck W) (hg : W.grownBy W' row) (hr : ∀ q, row = some q → w.heap.size + 2 ≤ q) : B2 w ca cl cc a c ls e ak ck W' := by
  have hl := h.lt
  have ce : ∀ b o, b < w.heap.size + 2 → W'.cell? ⟨b, o, none⟩ = W.cell? ⟨b, o, none⟩ := fun b o h => hg.cell_far ⟨b, o, none⟩ (by show b < _; omega) (fun e => by have := hr b e.symm; omega)
  exact ⟨(ce _ _ (by omega)).trans h.s0, (ce _ _ (by omega)).trans h.s1, (ce _ _ (by omega)).trans h.e0, (ce _ _ (by omega)).trans h.e3, Nat.le_trans hl hg.size, h.bel.grown hg h.bel.size (fun q hq => by have := hr q hq; omega)⟩

theorem b2_new (w : World) (ca : Option Addr) (cl cc : Nat) (a : Option Addr) (c : Nat) (ls : List Lb) (e : Ex) (ak : Option Addr) (ck : Nat) : B2 w ca cl cc a c ls e ak ck ((w.alloc (.cells #[.slice ca cl cc, .slice a ls.length c] 69)).alloc (.cells #[.int .i64 e.kind, .string e.text, .int .i64 e.num, .slice ak e.kids.length ck] 26)) :=
  ⟨by simp [go_sem], by simp [go_sem], by simp [go_sem], by simp [go_sem], by simp, ((Below.refl _ _).alloc (Nat.le_refl _) _).alloc (by simp) _⟩

set_option maxRecDepth 100000 in
set_option maxHeartbeats 4000000 in
theorem implOpn (ca : Option Addr) (cl cc : Nat) (a : Option Addr) (c : Nat) (ls : List Lb) (col : ByteArray → Option Opd) (w0 : World) (hL : Lbs w0 a c ls) (d : Nat) (ih : OpP ca cl cc a c ls col w0 d) (e : Ex) (ak : Option Addr) (ck : Nat) (w : World) (hw : Below w0.heap.size w0 w) (hk : KidsAt w (d + 1) ak ck e.kids) (har : arE e = true) (hn : e.nodes ≤ 1048577) :
    Calls Tryd.prog 72 #[.agg #[.slice ca cl cc, .slice a ls.length c], .agg #[.int .i64 e.kind, .string e.text, .int .i64 e.num, .slice ak e.kids.length ck]] w fun x w' => x = .returned (resV (opnE col ls e)) ∧ Below w.heap.size w w' := by
  obtain ⟨i0, hi0, hz0, hz1, hz2⟩ := info_parts Tryd.infoOperand
  have hl := hk.len
  have hne := Ex.nodes_eq e
  rw [arE_eq, Bool.and_eq_true] at har
  have HAR := Lib.hid har
  have HK := Lib.hid (fun w' hb => hk.below (w' := w') hb)
  have HN := Lib.hid (b2_new w ca cl cc a c ls e ak ck)
  have HKL : Hid (e.kids.length ≤ 1048577) := by unfold Hid; have := nodesL_lenO e.kids; omega
  clear hk har
  generalize hks : e.kids = xs0 at *
  go_enter Tryd.func72, Tryd.ntmps72
  go_wp2_with fail
  go_loopw [6, 14] (fun v i wr => ∃ (k : Nat) (xs : List Opd) (ka : Option Addr) (kc : Nat), k ≤ xs0.length ∧ i = .int .i64 k ∧ v = .slice ka k kc ∧ Hid (xs.length = k ∧ opdL col ls (xs0.take k) = some xs ∧ OwnO wr (w.heap.size + 2) ka kc xs ∧ B2 w ca cl cc a c ls e ak ck wr)) (fun _ i _ => xs0.length - (intOf i).toNat)
  case atStart => exact ⟨0, [], none, 0, Nat.zero_le _, rfl, rfl, rfl, by simp [opdL], World.ownsRow_nil _ _ _ _, HN.out⟩
  case round =>
    obtain ⟨k, xs, ka, kc, hk, rfl, rfl, H⟩ := hrel
    obtain ⟨s0, s1, e0, e3, hlt2, _⟩ := H.out.2.2.2
    have hnl : w.heap.size < wr.heap.size := by omega
    rw [hks] at e3
    by_cases hlt : k < xs0.length
    · obtain ⟨b, off, rfl, hbl, hc0, hc1, hc2, hfit, a', c', hc3, hkid⟩ := (HK.out _ H.out.2.2.2.bel).spot hlt
      have HX := Lib.hid (fun w' hb => hkid.below (w' := w') hb)
      have hnk : Hid (xs0[k].nodes ≤ 1048577) := by have := nodesL_get hlt; unfold Hid; omega
      have hak : Hid (arE xs0[k] = true) := arL_get HAR.out.2 hlt
      have hkb : k ≤ 1048577 := by have := HKL.out; omega
      have HBB : Hid (∀ o, Below wr.heap.size wr (wr.alloc o)) := fun o => (Below.refl _ _).alloc (Nat.le_refl _) o
      have hW0 : Hid (Below w0.heap.size w0 wr) := hw.trans (H.out.2.2.2.bel.mono hw.size)
      clear hkid e0 e3
      go_wp2_with fail
      refine (ih xs0[k] a' c' _ (hW0.out.trans ((HBB.out _).mono hW0.out.size)) (HX.out _ (HBB.out _)) hak.out hnk.out).mono ?_
      have HT := Lib.hid (opdL_take (col := col) (ls := ls) hlt H.out.2.1)
      cases ho : opdE col ls xs0[k] with
      | none =>
        simp only [resV]
        rintro x w2 ⟨rfl, hb2⟩
        have HC : Hid (opnE col ls e = none) := by unfold Hid opnE; rw [hks, HT.out.2 ho]
        have HB2 := Lib.hid (H.out.2.2.2.bel.trans (((HBB.out _).trans (hb2.mono (by simp))).mono H.out.2.2.2.bel.size))
        clear ho hb2
        go_wp2_with fail
        go_ret2
        exact ⟨by rw [HC.out]; rfl, HB2.out⟩
      | some o =>
        simp only [resV]
        rintro x w2 ⟨rfl, hb2⟩
        have HC : Hid (opdL col ls (xs0.take (k + 1)) = some (xs ++ [o])) := HT.out.1 o ho
        have hb3 : Below wr.heap.size wr w2 := (HBB.out _).trans (hb2.mono (by simp))
        have HO2 := Lib.hid (H.out.2.2.1.below hb3)
        have HB2 := Lib.hid (H.out.2.2.2.below hb3)
        have hxl := H.out.1
        have hsz2 : w.heap.size + 2 ≤ w2.heap.size := HB2.out.lt
        have H3 : Hid (∀ o1, OwnO (w2.alloc o1) (w.heap.size + 2) ka kc xs) := fun o1 => HO2.out.below ((Below.refl _ _).alloc (Nat.le_refl _) o1)
        obtain ⟨T1, u1, hvo⟩ : ∃ T u, o.v = .iface T u := by cases o <;> exact ⟨_, _, rfl⟩
        have HVO := Lib.hid hvo
        rw [hvo]
        clear ho hb2 hb3 hvo s0 s1
        subst hxl
        go_wp2_with (at_builtin; go_loud (refine wpList_append_own_at _ rfl (.tmp 26) (.tmp 28) 169 rfl (w.heap.size + 2) 71 i0 .nilIface 1 16 Tryd.underlying169 hi0 hz0 hz1 hz2 rfl (by decide) (.slice ka xs.length kc) xs.length (xs.map Opd.v) rfl (H3.out _) ⟨w2.heap.size, 0, none⟩ 1 1 [.iface T1 u1] rfl rfl (cell_one_new _ _ _) (fun u hu => by simp at hu; subst hu; rfl) (by unfold maxLen; omega) (by omega) (by simp; omega) ?_; intro v4 w4 hown4 hg4 _ _))
        obtain ⟨a4, c4, rfl⟩ : ∃ a4 c4, v4 = .slice a4 (xs.length + 1) c4 := by
          rcases hown4.2 with ⟨_, h0⟩ | ⟨g', cap, cur, rfl, _⟩
          · omega
          · exact ⟨_, _, rfl⟩
        have HR : Hid ((xs ++ [o]).length = xs.length + 1 ∧ opdL col ls (xs0.take (xs.length + 1)) = some (xs ++ [o]) ∧ OwnO w4 (w.heap.size + 2) a4 c4 (xs ++ [o]) ∧ B2 w ca cl cc a c ls e (some ⟨b, off, none⟩) ck w4) := by
          refine ⟨by simp, HC.out, by unfold OwnO; rw [← HVO.out] at hown4; simpa using hown4, ?_⟩
          have hb5 : Below w2.heap.size w2 (w2.alloc (.cells #[.iface T1 u1] 71)) := (Below.refl _ _).alloc (Nat.le_refl _) _
          have h5 := HB2.out.below hb5
          exact b2_grown h5 hg4 (fun q hq => (World.ownsRow.lt HO2.out q hq).1)
        clear hown4 hg4
        go_roundw
        case rel => exact ⟨xs.length + 1, xs ++ [o], a4, c4, by omega, by go_num, rfl, HR⟩
        case measure => simp [intOf]; omega
    · obtain rfl : k = xs0.length := by omega
      have hol : Hid (opdL col ls xs0 = some xs) := by have := H.out.2.1; rw [List.take_length] at this; exact this
      have HOP := Lib.hid H.out.2.2.1.opds
      have hxl := H.out.1
      have hW0 : Hid (Below w0.heap.size w0 wr) := hw.trans (H.out.2.2.2.bel.mono hw.size)
      have h2 : Hid ((e.kind == 10) = true ∨ (e.kind == 11) = true → xs.length = 2) := by
        intro h
        have h3 := HAR.out.1
        rw [hxl]
        rcases h with h | h
        · rw [h] at h3; simpa using h3
        · rw [h] at h3; simpa using h3
      have HB2 := Lib.hid H.out.2.2.2
      have HA := Lib.hid (implAcc ca cl cc a c ls e.kind ka kc xs wr (hL.below hW0.out) HOP.out h2.out)
      rw [hxl] at HA
      have hnl2 : w.heap.size + 1 < wr.heap.size := by omega
      clear hxl
      go_wp2_with fail
      refine HA.out.mono ?_
      cases hacc : accB ls e.kind xs with
      | false =>
        rintro x w2 ⟨rfl, hb2⟩
        have HC : Hid (opnE col ls e = none) := by unfold Hid opnE; rw [hks, hol.out]; simp [hacc]
        have HB3 := Lib.hid (HB2.out.bel.trans (hb2.mono HB2.out.bel.size))
        clear hacc hb2
        go_wp2_with fail
        go_ret2
        exact ⟨by rw [HC.out]; rfl, HB3.out⟩
      | true =>
        rintro x w2 ⟨rfl, hb2⟩
        have HC : Hid (opnE col ls e = some (resK e.kind)) := by unfold Hid opnE; rw [hks, hol.out]; simp [hacc]
        have HB3 := Lib.hid (HB2.out.bel.trans (hb2.mono HB2.out.bel.size))
        have e0' := (HB2.out.below hb2).e0
        clear hacc hb2 e0 e3 s0 s1
        by_cases h16 : (e.kind == 16) = true
        · have HR : Hid (resK e.kind = .plain 0) := by unfold Hid resK; rw [if_pos (.inl h16)]
          go_wp2_with fail
          go_ret2
          exact ⟨by rw [HC.out, HR.out]; rfl, HB3.out⟩
        have g16 : (e.kind == 16) = false := by simpa using h16
        by_cases h17 : (e.kind == 17) = true
        · have HR : Hid (resK e.kind = .plain 0) := by unfold Hid resK; rw [if_pos (.inr (.inl h17))]
          clear h16
          go_wp2_with fail
          go_ret2
          exact ⟨by rw [HC.out, HR.out]; rfl, HB3.out⟩
        have g17 : (e.kind == 17) = false := by simpa using h17
        by_cases h18 : (e.kind == 18) = true
        · have HR : Hid (resK e.kind = .plain 0) := by unfold Hid resK; rw [if_pos (.inr (.inr h18))]
          clear h16 h17
          go_wp2_with fail
          go_ret2
          exact ⟨by rw [HC.out, HR.out]; rfl, HB3.out⟩
        have g18 : (e.kind == 18) = false := by simpa using h18
        have HR : Hid (resK e.kind = .plain 2) := by
          unfold Hid resK
          rw [if_neg (by rintro (h | h | h); exact h16 h; exact h17 h; exact h18 h)]
        clear h16 h17 h18
        go_wp2_with fail
        go_ret2
        exact ⟨by rw [HC.out, HR.out]; rfl, HB3.out⟩

end Go.Proofs.YtpdcmmhhgnackaaDoor

namespace Go.Proofs.YtpdcmmhhgnackaaDoor
open Go.RowKit

theorem opdE_eq (col : ByteArray → Option Opd) (ls : List Lb) (e : Ex) : opdE col ls e =
    if (e.kind == 0) = true then col e.text else if (e.kind == 1) = true then some (.plain 0) else if (e.kind == 2) = true then some (.text e.text)
    else if (e.kind == 3) = true ∨ (e.kind == 4) = true then some (.plain 2) else if (e.kind == 5) = true then some (.plain 4)
    else opnE col ls e := by
  cases e with
  | mk k s n kids =>
    simp only [opdE, opnE, Ex.kind, Ex.text, Ex.kids]
    cases opdL col ls kids <;> rfl

set_option maxRecDepth 100000 in
set_option maxHeartbeats 1000000 in
theorem implOpdS (ca : Option Addr) (cl cc : Nat) (a : Option Addr) (c : Nat) (ls : List Lb) (col : ByteArray → Option Opd) (w0 : World) (hL : Lbs w0 a c ls) (hC : ColC ca cl cc a c ls col w0) (d : Nat) (ih : OpP ca cl cc a c ls col w0 d) : OpP ca cl cc a c ls col w0 (d + 1) := by
  intro e ak ck w hw hk har hn
  have hl := hk.len
  have HB0 : Hid (∀ o1 o2, Below w.heap.size w ((w.alloc o1).alloc o2)) := fun o1 o2 => ((Below.refl _ _).alloc (Nat.le_refl _) _).alloc (by simp) _
  have HOP := Lib.hid (fun W (hb : Below w.heap.size w W) => implOpn ca cl cc a c ls col w0 hL d ih e ak ck W (hw.trans (hb.mono hw.size)) (hk.below hb) har hn)
  have HCC := Lib.hid (fun W (hb : Below w.heap.size w W) => hC e.text W (hw.trans (hb.mono hw.size)))
  have HE := Lib.hid (opdE_eq col ls e)
  clear hk har ih hC
  by_cases h0 : (e.kind == 0) = true
  · have HR : Hid (opdE col ls e = col e.text) := by unfold Hid; rw [HE.out, if_pos h0]
    clear HOP HE
    go_enter Tryd.func28, Tryd.ntmps28
    go_wp2_with fail
    refine (HCC.out _ (HB0.out _ _)).mono ?_
    cases hcol : col e.text with
    | none =>
      simp only [resV]
      rintro x w2 ⟨rfl, hb2⟩
      have HB := Lib.hid ((HB0.out _ _).trans (hb2.mono (HB0.out _ _).size))
      go_wp2_with fail
      go_ret2
      exact ⟨by rw [HR.out, hcol]; rfl, HB.out⟩
    | some o =>
      simp only [resV]
      rintro x w2 ⟨rfl, hb2⟩
      have HB := Lib.hid ((HB0.out _ _).trans (hb2.mono (HB0.out _ _).size))
      go_wp2_with fail
      go_ret2
      exact ⟨by rw [HR.out, hcol]; rfl, HB.out⟩
  have g0 : (e.kind == 0) = false := by simpa using h0
  by_cases h1 : (e.kind == 1) = true
  · have HR : Hid (opdE col ls e = some (.plain 0)) := by unfold Hid; rw [HE.out, if_neg h0, if_pos h1]
    clear HOP HE HCC h0
    go_enter Tryd.func28, Tryd.ntmps28
    go_wp2_with fail
    go_ret2
    exact ⟨by rw [HR.out]; rfl, HB0.out _ _⟩
  have g1 : (e.kind == 1) = false := by simpa using h1
  by_cases h2 : (e.kind == 2) = true
  · have HR : Hid (opdE col ls e = some (.text e.text)) := by unfold Hid; rw [HE.out, if_neg h0, if_neg h1, if_pos h2]
    clear HOP HE HCC h0 h1
    go_enter Tryd.func28, Tryd.ntmps28
    go_wp2_with fail
    go_ret2
    exact ⟨by rw [HR.out]; rfl, HB0.out _ _⟩
  have g2 : (e.kind == 2) = false := by simpa using h2
  by_cases h3 : (e.kind == 3) = true
  · have HR : Hid (opdE col ls e = some (.plain 2)) := by unfold Hid; rw [HE.out, if_neg h0, if_neg h1, if_neg h2, if_pos (.inl h3)]
    clear HOP HE HCC h0 h1 h2
    go_enter Tryd.func28, Tryd.ntmps28
    go_wp2_with fail
    go_ret2
    exact ⟨by rw [HR.out]; rfl, HB0.out _ _⟩
  have g3 : (e.kind == 3) = false := by simpa using h3
  by_cases h4 : (e.kind == 4) = true
  · have HR : Hid (opdE col ls e = some (.plain 2)) := by unfold Hid; rw [HE.out, if_neg h0, if_neg h1, if_neg h2, if_pos (.inr h4)]
    clear HOP HE HCC h0 h1 h2 h3
    go_enter Tryd.func28, Tryd.ntmps28
    go_wp2_with fail
    go_ret2
    exact ⟨by rw [HR.out]; rfl, HB0.out _ _⟩
  have g4 : (e.kind == 4) = false := by simpa using h4
  have h34 : ¬((e.kind == 3) = true ∨ (e.kind == 4) = true) := by rintro (h | h); exact h3 h; exact h4 h
  by_cases h5 : (e.kind == 5) = true
  · have HR : Hid (opdE col ls e = some (.plain 4)) := by unfold Hid; rw [HE.out, if_neg h0, if_neg h1, if_neg h2, if_neg h34, if_pos h5]
    clear HOP HE HCC h0 h1 h2 h3 h4 h34
    go_enter Tryd.func28, Tryd.ntmps28
    go_wp2_with fail
    go_ret2
    exact ⟨by rw [HR.out]; rfl, HB0.out _ _⟩
  have g5 : (e.kind == 5) = false := by simpa using h5
  have HR : Hid (opdE col ls e = opnE col ls e) := by unfold Hid; rw [HE.out, if_neg h0, if_neg h1, if_neg h2, if_neg h34, if_neg h5]
  clear HE HCC h0 h1 h2 h3 h4 h34 h5
  go_enter Tryd.func28, Tryd.ntmps28
  go_wp2_with fail
  refine (HOP.out _ (HB0.out _ _)).mono ?_
  cases hop : opnE col ls e with
  | none =>
    simp only [resV]
    rintro x w2 ⟨rfl, hb2⟩
    have HB := Lib.hid ((HB0.out _ _).trans (hb2.mono (HB0.out _ _).size))
    go_wp2_with fail
    go_ret2
    exact ⟨by rw [HR.out, hop]; rfl, HB.out⟩
  | some o =>
    simp only [resV]
    rintro x w2 ⟨rfl, hb2⟩
    have HB := Lib.hid ((HB0.out _ _).trans (hb2.mono (HB0.out _ _).size))
    go_wp2_with fail
    go_ret2
    exact ⟨by rw [HR.out, hop]; rfl, HB.out⟩

/-- operand, over any contract of column. -/
theorem implOpd (ca : Option Addr) (cl cc : Nat) (a : Option Addr) (c : Nat) (ls : List Lb) (col : ByteArray → Option Opd) (w0 : World) (hL : Lbs w0 a c ls) (hC : ColC ca cl cc a c ls col w0) : (d : Nat) → OpP ca cl cc a c ls col w0 d
  | 0 => fun _ _ _ _ _ hk => hk.elim
  | d + 1 => implOpdS ca cl cc a c ls col w0 hL hC d (implOpd ca cl cc a c ls col w0 hL hC d)

end Go.Proofs.YtpdcmmhhgnackaaDoor

namespace Go.Proofs.YtpdcmmhhgnackaaDoor
open Go.RowKit

set_option maxRecDepth 100000 in
set_option maxHeartbeats 1000000 in
theorem indexNone (f : Value) (w : World) :
    Calls Tryd.prog 126 #[.slice none 0 0, f] w fun e w' => e = .returned (.int .i64 (-1)) ∧ Below w.heap.size w w' := by
  go_enter Tryd.func126, Tryd.ntmps126
  go_wp2
  go_loopw [8] (fun i wr => i = .int .i64 0 ∧ Below w.heap.size w wr) (fun _ _ => 0)
  case atStart => exact ⟨rfl, Below.refl _ _⟩
  case round =>
    obtain ⟨rfl, hb⟩ := hrel
    go_wp2_with fail
    go_ret
    exact ⟨rfl, hb⟩

set_option maxRecDepth 100000 in
set_option maxHeartbeats 1000000 in
theorem colAtNone (a : Option Addr) (c n : Nat) (s : ByteArray) (w : World) :
    Calls Tryd.prog 82 #[.agg #[.slice none 0 0, .slice a n c], .string s] w fun e w' => e = .returned (.int .i64 (-1)) ∧ Below w.heap.size w w' := by
  have HB0 : Hid (∀ o1 o2, Below w.heap.size w ((w.alloc o1).alloc o2)) := fun o1 o2 => ((Below.refl _ _).alloc (Nat.le_refl _) _).alloc (by simp) _
  go_enter Tryd.func82, Tryd.ntmps82
  go_wp2_with fail
  refine (indexNone _ _).mono ?_
  rintro x w2 ⟨rfl, hb2⟩
  have HB := Lib.hid ((HB0.out _ _).trans (hb2.mono (HB0.out _ _).size))
  clear hb2
  go_wp2_with fail
  go_ret
  exact ⟨rfl, HB.out⟩

set_option maxRecDepth 100000 in
set_option maxHeartbeats 1000000 in
theorem implColNone (a : Option Addr) (c : Nat) (ls : List Lb) (w0 : World) : ColC none 0 0 a c ls (fun _ => none) w0 := by
  intro s w _
  have HB0 : Hid (∀ o1, Below w.heap.size w (w.alloc o1)) := fun o1 => (Below.refl _ _).alloc (Nat.le_refl _) _
  go_enter Tryd.func71, Tryd.ntmps71
  go_wp2_with fail
  refine (colAtNone a c ls.length s _).mono ?_
  rintro x w2 ⟨rfl, hb2⟩
  have HB := Lib.hid ((HB0.out _).trans (hb2.mono (HB0.out _).size))
  clear hb2
  go_wp2_with fail
  go_ret2
  exact ⟨rfl, HB.out⟩

end Go.Proofs.YtpdcmmhhgnackaaDoor

namespace Go.Proofs.YtpdcmmhhgnackaaDoor
open Go.ChangeShapes Go.WideShapes Go.RowKit

structure Fm where
  kids : Int
  strength : Int
  token : Int
  text : List UInt8

def formsL : List Fm := [⟨0, 7, 0, []⟩, ⟨0, 7, 0, []⟩, ⟨0, 7, 0, []⟩, ⟨0, 7, 0, wTrue⟩, ⟨0, 7, 0, wFalse⟩, ⟨0, 7, 0, wNull⟩, ⟨1, 3, 0, wNot⟩, ⟨1, 4, 0, wIs⟩, ⟨2, 2, 0, wAnd⟩, ⟨2, 1, 0, wOr⟩,
  ⟨2, 4, 4, [61]⟩, ⟨2, 4, 4, [60, 62]⟩, ⟨2, 4, 4, [60]⟩, ⟨2, 4, 4, [60, 61]⟩, ⟨2, 4, 4, [62]⟩, ⟨2, 4, 4, [62, 61]⟩, ⟨2, 5, 4, [43]⟩, ⟨2, 5, 4, [45]⟩, ⟨2, 6, 4, [42]⟩]

def Fm.d {H : Type} (f : Fm) : DataW H := .agg [.lit (.int .i64 f.kids), .lit (.int .i64 f.strength), .lit (.int .i64 f.token), .lit (.string f.text)]

theorem forms_laid : (Rows.laid_loop_example_g00751_impl_exprForms : DataW Unit) = .agg (formsL.map Fm.d) := rfl

theorem gForms : Tryd.prog.globalNamed "loop.example/g00751/impl.exprForms" = some 1 := by kernel_rfl
theorem gFormsType : (Tryd.prog.globals[1]?).map (·.type) = some 200 := by kernel_rfl
theorem cellsForms : Tryd.prog.cellsOf 200 = 76 := by kernel_rfl
theorem cellsForm : Tryd.prog.cellsOf 199 = 4 := by kernel_rfl
theorem cellsIntF : Tryd.prog.cellsOf 3 = 1 := by kernel_rfl
theorem cellsStrF : Tryd.prog.cellsOf 9 = 1 := by kernel_rfl

def fm (i : Nat) : Fm := formsL.getD i ⟨0, 0, 0, []⟩

/-- The table lies as the text lays it. -/
def FormsAt (w : World) : Prop := 1 < w.heap.size ∧ ∀ i, i < 19 →
  w.cell? ⟨1, i * 4, none⟩ = some (.int .i64 (fm i).kids) ∧ w.cell? ⟨1, i * 4 + 1, none⟩ = some (.int .i64 (fm i).strength) ∧
  w.cell? ⟨1, i * 4 + 2, none⟩ = some (.int .i64 (fm i).token) ∧ w.cell? ⟨1, i * 4 + 3, none⟩ = some (.string (txt (fm i).text))

theorem FormsAt.below {w w' : World} {B : Nat} (h : FormsAt w) (hb : Below B w w') (hB : 1 < B) : FormsAt w' := by
  refine ⟨Nat.lt_of_lt_of_le h.1 hb.size, fun i hi => ?_⟩
  obtain ⟨h0, h1, h2, h3⟩ := h.2 i hi
  have e := fun o => hb.cell (p := ⟨1, o, none⟩) hB
  exact ⟨(e _).trans h0, (e _).trans h1, (e _).trans h2, (e _).trans h3⟩

set_option maxRecDepth 100000 in
theorem form_cells {H : Type} {enc : TypeId × Value → H} {W : World} {base : Nat} {sp : Nat → Bool} {held : Bool} {fuel : Nat} {cs : List Value} {x : DataW H × List MemPlace} (h : DataW.trod enc Tryd.prog W base sp held fuel 199 cs = some x) {f : Fm} (hx : x.1 = f.d) :
    cs = [.int .i64 f.kids, .int .i64 f.strength, .int .i64 f.token, .string (txt f.text)] := by
  obtain ⟨ys, n, hn, hxe, hl, hyl, hf⟩ := DataW.trod_struct Tryd.underlying199 h
  subst hn
  rw [cellsForm] at hl
  match cs, hl with
  | [c0, c1, c2, c3], _ =>
    have hs : ys.length = 4 := hyl
    match ys, hs with
    | [y0, y1, y2, y3], _ =>
      have f0 : DataW.trod enc Tryd.prog W base sp held n 3 (([c0, c1, c2, c3].drop 0).take (Tryd.prog.cellsOf 3)) = some y0 := hf 0 _ rfl
      have f1 : DataW.trod enc Tryd.prog W base sp held n 3 (([c0, c1, c2, c3].drop 1).take (Tryd.prog.cellsOf 3)) = some y1 := hf 1 _ rfl
      have f2 : DataW.trod enc Tryd.prog W base sp held n 3 (([c0, c1, c2, c3].drop 2).take (Tryd.prog.cellsOf 3)) = some y2 := hf 2 _ rfl
      have f3 : DataW.trod enc Tryd.prog W base sp held n 9 (([c0, c1, c2, c3].drop 3).take (Tryd.prog.cellsOf 9)) = some y3 := hf 3 _ rfl
      rw [cellsIntF] at f0 f1 f2
      rw [cellsStrF] at f3
      obtain ⟨k0, e0, d0, _⟩ := DataW.trod_int Tryd.underlying3 f0
      obtain ⟨k1, e1, d1, _⟩ := DataW.trod_int Tryd.underlying3 f1
      obtain ⟨k2, e2, d2, _⟩ := DataW.trod_int Tryd.underlying3 f2
      obtain ⟨s, e3, d3, _⟩ := DataW.trod_string Tryd.underlying9 f3
      simp at e0 e1 e2 e3
      subst e0 e1 e2 e3 d0 d1 d2 d3
      rw [hxe] at hx
      simp only [List.map_cons, List.map_nil, Fm.d, DataW.agg.injEq, List.cons.injEq, DataW.lit.injEq, Lit.int.injEq, Lit.string.injEq, true_and, and_true] at hx
      obtain ⟨rfl, rfl, rfl, h3⟩ := hx
      have : s = txt f.text := by rw [← h3]; obtain ⟨⟨l⟩⟩ := s; rfl
      rw [this]

set_option maxRecDepth 100000 in
theorem formsAt_of {W : World} {rest : List (String × DataW Unit)} (h : laidMet Tryd.prog (("loop.example/g00751/impl.exprForms", Rows.laid_loop_example_g00751_impl_exprForms) :: rest) W) : FormsAt W := by
  obtain ⟨ps, hL, _, _⟩ := h
  obtain ⟨g, t, cs, fuel, p, q, h1, h2, h3, h4, _, _⟩ := hL
  obtain rfl := Option.some.inj (gForms.symm.trans h1)
  obtain rfl := Option.some.inj (gFormsType.symm.trans h2)
  obtain ⟨xs, m, hm, hx, hl, hxl, hel⟩ := DataW.trod_array Tryd.underlying200 h4
  have hd : xs.map (·.1) = formsL.map Fm.d := by
    have := congrArg Prod.fst hx
    rw [forms_laid] at this
    exact (DataW.agg.inj this).symm
  rw [cellsForms] at hl
  have hvar : ∀ o (ho : o < 76), W.cell? ⟨1, o, none⟩ = cs.toList[o]? := by
    intro o ho
    unfold World.var? at h3
    rw [gForms, Option.bind_some] at h3
    unfold World.cell?
    split at h3
    · rename_i c tt fr hb
      cases h3
      simp [hb]
    · cases h3
  have hlt : 1 < W.heap.size := by
    have h0 := hvar 0 (by omega)
    rw [List.getElem?_eq_getElem (by omega)] at h0
    exact World.block_lt_of_cell? W ⟨1, 0, none⟩ h0
  refine ⟨hlt, fun i hi => ?_⟩
  have hxi : i < xs.length := by omega
  have hfi : i < formsL.length := by have : formsL.length = 19 := rfl
                                     omega
  have he := hel i hi
  rw [cellsForm, List.getElem?_eq_getElem hxi] at he
  have hfm : fm i = formsL[i] := by unfold fm; rw [List.getD_eq_getElem?_getD, List.getElem?_eq_getElem hfi]; rfl
  have hdi : xs[i].1 = (fm i).d := by
    have : (xs.map (·.1))[i]? = (formsL.map Fm.d)[i]? := by rw [hd]
    rw [List.getElem?_map, List.getElem?_map, List.getElem?_eq_getElem hxi, List.getElem?_eq_getElem hfi] at this
    rw [hfm]
    simpa using this
  have hc := form_cells he hdi
  have at' : ∀ j, j < 4 → cs.toList[i * 4 + j]? = [Value.int .i64 (fm i).kids, .int .i64 (fm i).strength, .int .i64 (fm i).token, .string (txt (fm i).text)][j]? := by
    intro j hj
    rw [← hc, List.getElem?_take, if_pos hj, List.getElem?_drop]
  exact ⟨(hvar _ (by omega)).trans (at' 0 (by omega)), (hvar _ (by omega)).trans (at' 1 (by omega)), (hvar _ (by omega)).trans (at' 2 (by omega)), (hvar _ (by omega)).trans (at' 3 (by omega))⟩

end Go.Proofs.YtpdcmmhhgnackaaDoor
