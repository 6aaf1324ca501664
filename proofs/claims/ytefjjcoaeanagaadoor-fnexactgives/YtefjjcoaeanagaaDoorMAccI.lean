/- (impl.sorter).accepts, storesText, stores. -/
/- (impl.sorter).accepts. -/
import Derived.Test.YtefjjcoaeanagaaDoorCmpI
import Derived.Deep.RegionHeld3
namespace Go.Proofs.YtefjjcoaeanagaaDoor
open Go.RowKit

/-- Whether an operator takes these operands. -/
def accB (ls : List Lb) (kind : Int) (xs : List Opd) : Bool :=
  if (kind == 7) = true then true
  else if (kind == 6) = true ∨ (kind == 8) = true ∨ (kind == 9) = true then allK xs 2
  else if (kind == 10) = true ∨ (kind == 11) = true then (match xs with | [x, y] => cmpB ls x y | _ => false)
  else if (kind == 12) = true ∨ (kind == 13) = true ∨ (kind == 14) = true ∨ (kind == 15) = true then allK xs 0 || allK xs 1
  else allK xs 0

/-- Whether a column of a type may store a text. -/
def stoT (ls : List Lb) (k len : Int) (n : ByteArray) (s : ByteArray) : Bool :=
  if (k == 1) = true then true else if (k == 3) = true then decide ((s.size : Int) ≤ len) else if (k == 4) = true then labB ls n s else false

set_option maxRecDepth 100000 in
set_option maxHeartbeats 1000000 in
theorem implStoT (ca : Option Addr) (cl cc : Nat) (a : Option Addr) (c : Nat) (ls : List Lb) (k len : Int) (n s : ByteArray) (w : World) (hx : Lbs w a c ls) (_hs : s.size ≤ 1048576) :
    Calls Tryd.prog 74 #[.agg #[.slice ca cl cc, .slice a ls.length c], .agg #[.int .i64 k, .int .i64 len, .string n], .string s] w fun e w' => e = .returned (.bool (stoT ls k len n s)) ∧ Below w.heap.size w w' := by
  have hl := hx.len
  have hb0 : ∀ o1 o2, Below w.heap.size w ((w.alloc o1).alloc o2) := fun o1 o2 => ((Below.refl _ _).alloc (Nat.le_refl _) _).alloc (by simp) _
  have HB0 := Lib.hid hb0
  have HX := Lib.hid (fun w' hb => hx.below (w' := w') hb)
  clear hx hb0
  by_cases h1 : (k == 1) = true
  · have HC : Hid (stoT ls k len n s = true) := by unfold Hid stoT; rw [if_pos h1]
    go_enter Tryd.func74, Tryd.ntmps74
    go_wp2_with fail
    go_ret
    exact ⟨by rw [HC.out]; rfl, HB0.out _ _⟩
  have h1' : (k == 1) = false := by simpa using h1
  by_cases h3 : (k == 3) = true
  · have HC : Hid (stoT ls k len n s = decide ((s.size : Int) ≤ len)) := by unfold Hid stoT; rw [if_neg h1, if_pos h3]
    clear h1
    go_enter Tryd.func74, Tryd.ntmps74
    go_wp2_with fail
    go_ret
    exact ⟨by rw [HC.out]; rfl, HB0.out _ _⟩
  have h3' : (k == 3) = false := by simpa using h3
  by_cases h4 : (k == 4) = true
  · have HC : Hid (stoT ls k len n s = labB ls n s) := by unfold Hid stoT; rw [if_neg h1, if_neg h3, if_pos h4]
    clear h1 h3
    go_enter Tryd.func74, Tryd.ntmps74
    go_wp2_with fail
    refine (implIsLabel ca cl cc a c ls s n _ (HX.out _ (HB0.out _ _))).mono ?_
    rintro e w2 ⟨rfl, hb2⟩
    go_wp2_with fail
    go_ret
    exact ⟨by rw [HC.out]; rfl, (HB0.out _ _).trans (hb2.mono (by simp; omega))⟩
  have h4' : (k == 4) = false := by simpa using h4
  have HC : Hid (stoT ls k len n s = false) := by unfold Hid stoT; rw [if_neg h1, if_neg h3, if_neg h4]
  clear h1 h3 h4
  go_enter Tryd.func74, Tryd.ntmps74
  go_wp2_with fail
  go_ret
  exact ⟨by rw [HC.out]; rfl, HB0.out _ _⟩

/-- Whether a column of a type may store an operand. -/
def stoB (ls : List Lb) (k len : Int) (n : ByteArray) : Opd → Bool
  | .text s => stoT ls k len n s
  | .plain x => (x == 4) || ((x == 0) && (k == 0)) || ((x == 2) && (k == 2))
  | .enum _ => false

set_option maxRecDepth 100000 in
set_option maxHeartbeats 2000000 in
theorem implStoB (ca : Option Addr) (cl cc : Nat) (a : Option Addr) (c : Nat) (ls : List Lb) (k len : Int) (n : ByteArray) (x : Opd) (w : World) (hx : Lbs w a c ls) (hs : ∀ s, x = .text s → s.size ≤ 1048576) :
    Calls Tryd.prog 47 #[.agg #[.slice ca cl cc, .slice a ls.length c], .agg #[.int .i64 k, .int .i64 len, .string n], x.v] w fun e w' => e = .returned (.bool (stoB ls k len n x)) ∧ Below w.heap.size w w' := by
  have hl := hx.len
  have hb0 : ∀ o1 o2, Below w.heap.size w ((w.alloc o1).alloc o2) := fun o1 o2 => ((Below.refl _ _).alloc (Nat.le_refl _) _).alloc (by simp) _
  have HB0 := Lib.hid hb0
  have HX := Lib.hid (fun w' hb => hx.below (w' := w') hb)
  clear hx hb0
  cases x with
  | text s =>
    have hss := hs s rfl
    have q1 := as_tp
    have q2 := as_tt
    have q3 := as_te
    simp only [Opd.v, stoB]
    clear hs
    go_enter Tryd.func47, Tryd.ntmps47
    go_wp2_with fail
    refine (implStoT ca cl cc a c ls k len n s _ (HX.out _ (HB0.out _ _)) hss).mono ?_
    rintro e w2 ⟨rfl, hb2⟩
    go_wp2_with fail
    go_ret
    exact ⟨rfl, (HB0.out _ _).trans (hb2.mono (by simp; omega))⟩
  | enum m =>
    have q1 := as_ep
    have q2 := as_et
    have q3 := as_ee
    simp only [Opd.v, stoB]
    clear hs
    go_enter Tryd.func47, Tryd.ntmps47
    go_wp2_with fail
    go_ret
    exact ⟨rfl, HB0.out _ _⟩
  | plain x =>
    have q1 := as_pp
    have q2 := as_pt
    have q3 := as_pe
    simp only [Opd.v, stoB]
    clear hs
    cases h4 : (x == 4) with
    | true =>
      go_enter Tryd.func47, Tryd.ntmps47
      go_wp2_with fail
      go_ret
      exact ⟨rfl, HB0.out _ _⟩
    | false =>
      cases h0 : (x == 0) with
      | true =>
        have h2 : (x == 2) = false := by have : x = 0 := by simpa using h0
                                         subst this; rfl
        cases hk : (k == 0) with
        | true =>
          go_enter Tryd.func47, Tryd.ntmps47
          go_wp2_with fail
          go_ret
          exact ⟨rfl, HB0.out _ _⟩
        | false =>
          rw [h2]
          go_enter Tryd.func47, Tryd.ntmps47
          go_wp2_with fail
          go_ret
          exact ⟨rfl, HB0.out _ _⟩
      | false =>
        cases h2 : (x == 2) with
        | true =>
          cases hk : (k == 2) with
          | true =>
            go_enter Tryd.func47, Tryd.ntmps47
            go_wp2_with fail
            go_ret
            exact ⟨rfl, HB0.out _ _⟩
          | false =>
            go_enter Tryd.func47, Tryd.ntmps47
            go_wp2_with fail
            go_ret
            exact ⟨rfl, HB0.out _ _⟩
        | false =>
          go_enter Tryd.func47, Tryd.ntmps47
          go_wp2_with fail
          go_ret
          exact ⟨rfl, HB0.out _ _⟩

end Go.Proofs.YtefjjcoaeanagaaDoor

namespace Go.Proofs.YtefjjcoaeanagaaDoor
open Go.RowKit

set_option maxRecDepth 100000 in
set_option maxHeartbeats 4000000 in
theorem implAcc (ca : Option Addr) (cl cc : Nat) (a : Option Addr) (c : Nat) (ls : List Lb) (kind : Int) (ka : Option Addr) (kc : Nat) (xs : List Opd) (w : World) (hx : Lbs w a c ls) (hk : Opds w ka kc xs) (h2 : (kind == 10) = true ∨ (kind == 11) = true → xs.length = 2) :
    Calls Tryd.prog 83 #[.agg #[.slice ca cl cc, .slice a ls.length c], .int .i64 kind, .slice ka xs.length kc] w fun e w' => e = .returned (.bool (accB ls kind xs)) ∧ Below w.heap.size w w' := by
  have hl := hx.len
  have hkl := hk.len
  have hb0 : ∀ o1, Below w.heap.size w (w.alloc o1) := fun o1 => (Below.refl _ _).alloc (Nat.le_refl _) _
  have HB0 := Lib.hid hb0
  have HX := Lib.hid (fun w' hb => hx.below (w' := w') hb)
  have HK := Lib.hid (fun w' hb => hk.below (w' := w') hb)
  clear hx hb0 hk
  by_cases h : (kind == 7) = true
  · obtain rfl : kind = 7 := by simpa using h
    clear h h2
    go_enter Tryd.func83, Tryd.ntmps83
    go_wp2_with fail
    go_ret
    exact ⟨rfl, HB0.out _⟩
  have e7 : (kind == 7) = false := by simpa using h
  clear h
  by_cases h : (kind == 6) = true
  · obtain rfl : kind = 6 := by simpa using h
    clear h h2 e7
    have HC : Hid (accB ls 6 xs = allK xs 2) := rfl
    go_enter Tryd.func83, Tryd.ntmps83
    go_wp2_with fail
    refine (implAllOf ka kc xs 2 _ (HK.out _ (HB0.out _))).mono ?_
    rintro e w2 ⟨rfl, rfl⟩
    go_wp2_with fail
    go_ret
    exact ⟨by rw [HC.out]; rfl, HB0.out _⟩
  have e6 : (kind == 6) = false := by simpa using h
  clear h
  by_cases h : (kind == 8) = true
  · obtain rfl : kind = 8 := by simpa using h
    clear h h2 e7 e6
    have HC : Hid (accB ls 8 xs = allK xs 2) := rfl
    go_enter Tryd.func83, Tryd.ntmps83
    go_wp2_with fail
    refine (implAllOf ka kc xs 2 _ (HK.out _ (HB0.out _))).mono ?_
    rintro e w2 ⟨rfl, rfl⟩
    go_wp2_with fail
    go_ret
    exact ⟨by rw [HC.out]; rfl, HB0.out _⟩
  have e8 : (kind == 8) = false := by simpa using h
  clear h
  by_cases h : (kind == 9) = true
  · obtain rfl : kind = 9 := by simpa using h
    clear h h2 e7 e6 e8
    have HC : Hid (accB ls 9 xs = allK xs 2) := rfl
    go_enter Tryd.func83, Tryd.ntmps83
    go_wp2_with fail
    refine (implAllOf ka kc xs 2 _ (HK.out _ (HB0.out _))).mono ?_
    rintro e w2 ⟨rfl, rfl⟩
    go_wp2_with fail
    go_ret
    exact ⟨by rw [HC.out]; rfl, HB0.out _⟩
  have e9 : (kind == 9) = false := by simpa using h
  clear h
  by_cases h : (kind == 10) = true
  · obtain rfl : kind = 10 := by simpa using h
    have hl2 := h2 (by simp)
    match xs, hl2 with
    | [x, y], _ =>
      clear h h2 e7 e6 e8 e9 
      have HC : Hid (accB ls 10 [x, y] = cmpB ls x y) := rfl
      obtain ⟨b, off, rfl, hbl, hc0⟩ := (HK.out _ (HB0.out (.cells #[.slice ca cl cc, .slice a ls.length c] 68))).spot (k := 0) (by simp)
      obtain ⟨b', off', he, _, hc1⟩ := (HK.out _ (HB0.out (.cells #[.slice ca cl cc, .slice a ls.length c] 68))).spot (k := 1) (by simp)
      cases he
      simp only [List.getElem_cons_zero, List.getElem_cons_succ, Nat.add_zero] at hc0 hc1
      have HCM : Hid (∀ W, Below w.heap.size w W → Calls Tryd.prog 100 #[.agg #[.slice ca cl cc, .slice a ls.length c], x.v, y.v] W fun e w' => e = .returned (.bool (cmpB ls x y)) ∧ Below W.heap.size W w') := fun W hb => implCmp ca cl cc a c ls x y W (HX.out _ hb)
      obtain ⟨vx, hvx⟩ : ∃ v, v = x.v := ⟨_, rfl⟩
      obtain ⟨vy, hvy⟩ : ∃ v, v = y.v := ⟨_, rfl⟩
      rw [← hvx] at hc0
      rw [← hvy] at hc1
      rw [← hvx, ← hvy] at HCM
      clear hvx hvy
      have hbw : Below w.heap.size w (w.alloc (.cells #[.slice ca cl cc, .slice a ls.length c] 68)) := HB0.out _
      have HBW := Lib.hid hbw
      have s0 : (w.alloc (.cells #[.slice ca cl cc, .slice a ls.length c] 68)).cell? ⟨w.heap.size, 0, none⟩ = some (.slice ca cl cc) := by simp [go_sem]
      have s1 : (w.alloc (.cells #[.slice ca cl cc, .slice a ls.length c] 68)).cell? ⟨w.heap.size, 1, none⟩ = some (.slice a ls.length c) := by simp [go_sem]
      have hnW : w.heap.size < (w.alloc (.cells #[.slice ca cl cc, .slice a ls.length c] 68)).heap.size := by simp
      clear hbw
      go_enter Tryd.func83, Tryd.ntmps83
      go_wp2_with fail
      generalize w.alloc (.cells #[.slice ca cl cc, .slice a ls.length c] 68) = W at *
      go_region_held3 (fun p => p.cell? ⟨w.heap.size, 0, none⟩ = some (.slice ca cl cc) ∧ p.cell? ⟨w.heap.size, 1, none⟩ = some (.slice a ls.length c) ∧ p.cell? ⟨b, off, none⟩ = some vx ∧ p.cell? ⟨b, off + 1, none⟩ = some vy) (first | go_keep | exact ⟨s0, s1, hc0, hc1⟩ | exact ⟨(hb2.cell (p := ⟨w.heap.size, 0, none⟩) hnW).trans s0, (hb2.cell (p := ⟨w.heap.size, 1, none⟩) hnW).trans s1, (hb2.cell (p := ⟨b, off, none⟩) hbl).trans hc0, (hb2.cell (p := ⟨b, off + 1, none⟩) hbl).trans hc1⟩)
        ((go_at_call 100; refine (HCM.out _ (below_drewN HBW.out 1)).mono ?_; rintro e w2 ⟨rfl, hb2⟩))
      go_wp2_with fail
      go_ret
      exact ⟨by rw [HC.out]; rfl, (below_drewN HBW.out 1).trans (hb2.mono HBW.out.size)⟩
  have e10 : (kind == 10) = false := by simpa using h
  clear h
  by_cases h : (kind == 11) = true
  · obtain rfl : kind = 11 := by simpa using h
    have hl2 := h2 (by simp)
    match xs, hl2 with
    | [x, y], _ =>
      clear h h2 e7 e6 e8 e9 e10
      have HC : Hid (accB ls 11 [x, y] = cmpB ls x y) := rfl
      obtain ⟨b, off, rfl, hbl, hc0⟩ := (HK.out _ (HB0.out (.cells #[.slice ca cl cc, .slice a ls.length c] 68))).spot (k := 0) (by simp)
      obtain ⟨b', off', he, _, hc1⟩ := (HK.out _ (HB0.out (.cells #[.slice ca cl cc, .slice a ls.length c] 68))).spot (k := 1) (by simp)
      cases he
      simp only [List.getElem_cons_zero, List.getElem_cons_succ, Nat.add_zero] at hc0 hc1
      have HCM : Hid (∀ W, Below w.heap.size w W → Calls Tryd.prog 100 #[.agg #[.slice ca cl cc, .slice a ls.length c], x.v, y.v] W fun e w' => e = .returned (.bool (cmpB ls x y)) ∧ Below W.heap.size W w') := fun W hb => implCmp ca cl cc a c ls x y W (HX.out _ hb)
      obtain ⟨vx, hvx⟩ : ∃ v, v = x.v := ⟨_, rfl⟩
      obtain ⟨vy, hvy⟩ : ∃ v, v = y.v := ⟨_, rfl⟩
      rw [← hvx] at hc0
      rw [← hvy] at hc1
      rw [← hvx, ← hvy] at HCM
      clear hvx hvy
      have hbw : Below w.heap.size w (w.alloc (.cells #[.slice ca cl cc, .slice a ls.length c] 68)) := HB0.out _
      have HBW := Lib.hid hbw
      have s0 : (w.alloc (.cells #[.slice ca cl cc, .slice a ls.length c] 68)).cell? ⟨w.heap.size, 0, none⟩ = some (.slice ca cl cc) := by simp [go_sem]
      have s1 : (w.alloc (.cells #[.slice ca cl cc, .slice a ls.length c] 68)).cell? ⟨w.heap.size, 1, none⟩ = some (.slice a ls.length c) := by simp [go_sem]
      have hnW : w.heap.size < (w.alloc (.cells #[.slice ca cl cc, .slice a ls.length c] 68)).heap.size := by simp
      clear hbw
      go_enter Tryd.func83, Tryd.ntmps83
      go_wp2_with fail
      generalize w.alloc (.cells #[.slice ca cl cc, .slice a ls.length c] 68) = W at *
      go_region_held3 (fun p => p.cell? ⟨w.heap.size, 0, none⟩ = some (.slice ca cl cc) ∧ p.cell? ⟨w.heap.size, 1, none⟩ = some (.slice a ls.length c) ∧ p.cell? ⟨b, off, none⟩ = some vx ∧ p.cell? ⟨b, off + 1, none⟩ = some vy) (first | go_keep | exact ⟨s0, s1, hc0, hc1⟩ | exact ⟨(hb2.cell (p := ⟨w.heap.size, 0, none⟩) hnW).trans s0, (hb2.cell (p := ⟨w.heap.size, 1, none⟩) hnW).trans s1, (hb2.cell (p := ⟨b, off, none⟩) hbl).trans hc0, (hb2.cell (p := ⟨b, off + 1, none⟩) hbl).trans hc1⟩)
        ((go_at_call 100; refine (HCM.out _ (below_drewN HBW.out 1)).mono ?_; rintro e w2 ⟨rfl, hb2⟩))
      go_wp2_with fail
      go_ret
      exact ⟨by rw [HC.out]; rfl, (below_drewN HBW.out 1).trans (hb2.mono HBW.out.size)⟩
  have e11 : (kind == 11) = false := by simpa using h
  clear h
  by_cases h : (kind == 12) = true
  · obtain rfl : kind = 12 := by simpa using h
    clear h h2 e7 e6 e8 e9 e10 e11
    have HC : Hid (accB ls 12 xs = (allK xs 0 || allK xs 1)) := rfl
    cases hA : allK xs 0 with
    | true =>
      have HA := Lib.hid hA
      go_enter Tryd.func83, Tryd.ntmps83
      go_wp2_with fail
      refine (implAllOf ka kc xs 0 _ (HK.out _ (HB0.out _))).mono ?_
      rw [hA]
      rintro e w2 ⟨rfl, rfl⟩
      clear hA
      go_wp2_with fail
      go_ret
      exact ⟨by rw [HC.out, HA.out]; rfl, HB0.out _⟩
    | false =>
      have HA := Lib.hid hA
      go_enter Tryd.func83, Tryd.ntmps83
      go_wp2_with fail
      refine (implAllOf ka kc xs 0 _ (HK.out _ (HB0.out _))).mono ?_
      rw [hA]
      rintro e w2 ⟨rfl, rfl⟩
      clear hA
      go_wp2_with fail
      refine (implAllOf ka kc xs 1 _ (HK.out _ (HB0.out _))).mono ?_
      rintro e w2 ⟨rfl, rfl⟩
      go_wp2_with fail
      go_ret
      exact ⟨by rw [HC.out, HA.out]; rfl, HB0.out _⟩
  have e12 : (kind == 12) = false := by simpa using h
  clear h
  by_cases h : (kind == 13) = true
  · obtain rfl : kind = 13 := by simpa using h
    clear h h2 e7 e6 e8 e9 e10 e11 e12
    have HC : Hid (accB ls 13 xs = (allK xs 0 || allK xs 1)) := rfl
    cases hA : allK xs 0 with
    | true =>
      have HA := Lib.hid hA
      go_enter Tryd.func83, Tryd.ntmps83
      go_wp2_with fail
      refine (implAllOf ka kc xs 0 _ (HK.out _ (HB0.out _))).mono ?_
      rw [hA]
      rintro e w2 ⟨rfl, rfl⟩
      clear hA
      go_wp2_with fail
      go_ret
      exact ⟨by rw [HC.out, HA.out]; rfl, HB0.out _⟩
    | false =>
      have HA := Lib.hid hA
      go_enter Tryd.func83, Tryd.ntmps83
      go_wp2_with fail
      refine (implAllOf ka kc xs 0 _ (HK.out _ (HB0.out _))).mono ?_
      rw [hA]
      rintro e w2 ⟨rfl, rfl⟩
      clear hA
      go_wp2_with fail
      refine (implAllOf ka kc xs 1 _ (HK.out _ (HB0.out _))).mono ?_
      rintro e w2 ⟨rfl, rfl⟩
      go_wp2_with fail
      go_ret
      exact ⟨by rw [HC.out, HA.out]; rfl, HB0.out _⟩
  have e13 : (kind == 13) = false := by simpa using h
  clear h
  by_cases h : (kind == 14) = true
  · obtain rfl : kind = 14 := by simpa using h
    clear h h2 e7 e6 e8 e9 e10 e11 e12 e13
    have HC : Hid (accB ls 14 xs = (allK xs 0 || allK xs 1)) := rfl
    cases hA : allK xs 0 with
    | true =>
      have HA := Lib.hid hA
      go_enter Tryd.func83, Tryd.ntmps83
      go_wp2_with fail
      refine (implAllOf ka kc xs 0 _ (HK.out _ (HB0.out _))).mono ?_
      rw [hA]
      rintro e w2 ⟨rfl, rfl⟩
      clear hA
      go_wp2_with fail
      go_ret
      exact ⟨by rw [HC.out, HA.out]; rfl, HB0.out _⟩
    | false =>
      have HA := Lib.hid hA
      go_enter Tryd.func83, Tryd.ntmps83
      go_wp2_with fail
      refine (implAllOf ka kc xs 0 _ (HK.out _ (HB0.out _))).mono ?_
      rw [hA]
      rintro e w2 ⟨rfl, rfl⟩
      clear hA
      go_wp2_with fail
      refine (implAllOf ka kc xs 1 _ (HK.out _ (HB0.out _))).mono ?_
      rintro e w2 ⟨rfl, rfl⟩
      go_wp2_with fail
      go_ret
      exact ⟨by rw [HC.out, HA.out]; rfl, HB0.out _⟩
  have e14 : (kind == 14) = false := by simpa using h
  clear h
  by_cases h : (kind == 15) = true
  · obtain rfl : kind = 15 := by simpa using h
    clear h h2 e7 e6 e8 e9 e10 e11 e12 e13 e14
    have HC : Hid (accB ls 15 xs = (allK xs 0 || allK xs 1)) := rfl
    cases hA : allK xs 0 with
    | true =>
      have HA := Lib.hid hA
      go_enter Tryd.func83, Tryd.ntmps83
      go_wp2_with fail
      refine (implAllOf ka kc xs 0 _ (HK.out _ (HB0.out _))).mono ?_
      rw [hA]
      rintro e w2 ⟨rfl, rfl⟩
      clear hA
      go_wp2_with fail
      go_ret
      exact ⟨by rw [HC.out, HA.out]; rfl, HB0.out _⟩
    | false =>
      have HA := Lib.hid hA
      go_enter Tryd.func83, Tryd.ntmps83
      go_wp2_with fail
      refine (implAllOf ka kc xs 0 _ (HK.out _ (HB0.out _))).mono ?_
      rw [hA]
      rintro e w2 ⟨rfl, rfl⟩
      clear hA
      go_wp2_with fail
      refine (implAllOf ka kc xs 1 _ (HK.out _ (HB0.out _))).mono ?_
      rintro e w2 ⟨rfl, rfl⟩
      go_wp2_with fail
      go_ret
      exact ⟨by rw [HC.out, HA.out]; rfl, HB0.out _⟩
  have e15 : (kind == 15) = false := by simpa using h
  clear h
  have HC : Hid (accB ls kind xs = allK xs 0) := by unfold Hid accB; rw [e7, e6, e8, e9, e10, e11, e12, e13, e14, e15]; rfl
  clear h2
  go_enter Tryd.func83, Tryd.ntmps83
  go_wp2_with fail
  refine (implAllOf ka kc xs 0 _ (HK.out _ (HB0.out _))).mono ?_
  rintro e w2 ⟨rfl, rfl⟩
  go_wp2_with fail
  go_ret
  exact ⟨by rw [HC.out]; rfl, HB0.out _⟩

end Go.Proofs.YtefjjcoaeanagaaDoor
