/- Expressions: how many nodes are read from so many words; how much a right expression holds. -/
/- The program's names: impl.NameOk. -/
/- The model's names: spec.NameOk. -/
/- The model's own look at an expression: spec.l04Kids, spec.l04Shape, spec.ExprOk. -/
/- impl.nodeOk: what one node asks for. -/
/- impl.eachNode with (*impl.nodeWalk).check. -/
import Derived.Test.YtgnillmhpockkaaGreatDoorMExprF
import Derived.Test.YtgnillmhpockkaaGreatDoorMMem
import Derived.Test.YtgnillmhpockkaaGreatDoorMBytes1
import Derived.Test.YtgnillmhpockkaaGreatDoorMLexImpl5
import Derived.IntWalk
import Derived.Test.YtgnillmhpockkaaGreatDoorMLexSpec4
import Derived.Test.YtgnillmhpockkaaGreatDoorMDrawQuote
import Derived.Deep.RegionHeld3
import Derived.BigQuiet
import Derived.Test.YtgnillmhpockkaaGreatDoorMExWalk
namespace Go.Proofs.YtgnillmhpockkaaGreatDoor

theorem nodes_leaf (k : Int) (t : List UInt8) (n : Int) : (leaf k t n).nodes = 1 := by
  rw [Ex.nodes_eq]; rfl

theorem nodes_one (k : Int) (e : Ex) : (node k [e]).nodes = 1 + e.nodes := by
  rw [Ex.nodes_eq]; show 1 + nodesL [e] = _; rw [nodesL, nodesL]; omega

theorem nodes_two (k : Int) (e q : Ex) : (node k [e, q]).nodes = 1 + e.nodes + q.nodes := by
  rw [Ex.nodes_eq]; show 1 + nodesL [e, q] = _; rw [nodesL, nodesL, nodesL]; omega

theorem tkW_len {ts : List W} {k : Int} {t : List UInt8} (h : tkW ts k t = true) : ts.length = ts.tail.length + 1 := by
  cases ts with
  | nil => simp [tkW] at h
  | cons x r => simp

theorem leafI_nodes {ts : List W} {e : Ex} {r : List W} (h : leafI ts = some (e, r)) : e.nodes = 1 ∧ r.length + 1 = ts.length := by
  cases ts with
  | nil => simp [leafI] at h
  | cons x q =>
    rw [leafI] at h
    split at h
    · split at h
      · rename_i e' hw
        cases h
        refine ⟨?_, rfl⟩
        unfold wordLeafI at hw
        (repeat' split at hw) <;> first | (cases hw; done) | (cases hw; exact nodes_leaf _ _ _)
      · cases h
    · (repeat' split at h) <;> first | (cases h; done) | (cases h; exact ⟨nodes_leaf _ _ _, rfl⟩)

theorem opI_len {r : List W} {k : Int} {r' : List W} (h : opI r = some (k, r')) : r'.length + 1 ≤ r.length := by
  cases r with
  | nil => simp [opI] at h
  | cons x q =>
    rw [opI] at h
    split at h
    · split at h
      · cases h; simp
      · cases h
    · split at h
      · cases h; simp
      · cases h

theorem nodes_all : ∀ f : Nat, (∀ n ts e s r, operandI f n ts = some (e, s, r) → e.nodes + r.length ≤ ts.length) ∧ (∀ n ts e s r, exprI f n ts = some (e, s, r) → e.nodes + r.length ≤ ts.length) ∧
    (∀ n e s r e' s' r', extI f n e s r = (e', s', r') → e'.nodes + r'.length ≤ e.nodes + r.length)
  | 0 => ⟨fun n ts e s r h => (by rw [operandI] at h; cases h), fun n ts e s r h => (by rw [exprI] at h; cases h), fun n e s r e' s' r' h => (by rw [extI] at h; cases h; exact Nat.le_refl _)⟩
  | f + 1 => by
    obtain ⟨h1, h2, h3⟩ := nodes_all f
    refine ⟨fun n ts e s r h => ?_, fun n ts e s r h => ?_, fun n e s r e' s' r' h => ?_⟩
    · rw [operandI] at h
      split at h
      · rename_i ht
        have hl := tkW_len ht
        split at h
        · rename_i e1 s1 r1 hx
          have := h2 _ _ _ _ _ hx
          split at h
          · cases h
            have : r1.tail.length ≤ r1.length := by simp
            omega
          · cases h
        · cases h
      · split at h
        · rename_i ht
          have hl := tkW_len ht.2
          split at h
          · rename_i e1 s1 r1 hx
            have := h2 _ _ _ _ _ hx
            cases h
            rw [nodes_one]
            omega
          · cases h
        · split at h
          · rename_i e1 r1 hx
            have := leafI_nodes hx
            cases h
            omega
          · cases h
    · rw [exprI] at h
      split at h
      · rename_i e1 s1 r1 hx
        have a1 := h1 _ _ _ _ _ hx
        have a2 := h3 n e1 s1 r1 e s r (Option.some.inj h)
        omega
      · cases h
    · rw [extI] at h
      split at h
      · cases h; exact Nat.le_refl _
      · rename_i k r1 hx
        have hl := opI_len hx
        split at h
        · cases h; exact Nat.le_refl _
        · split at h
          · have := h3 _ _ _ _ _ _ _ h
            rw [nodes_one] at this
            omega
          · split at h
            · cases h; exact Nat.le_refl _
            · rename_i q s2 r2 hq
              have a1 := h2 _ _ _ _ _ hq
              have a2 := h3 _ _ _ _ _ _ _ h
              rw [nodes_two] at a2
              omega

theorem node1_text {k : Int} {t : ByteArray} {n : Int} {m : Nat} (h : node1 k t n m = true) : t.size ≤ 100 := by
  unfold node1 at h
  rw [Bool.and_eq_true, Bool.and_eq_true] at h
  have h2 := h.1.2
  have hs : t.data.toList.length = t.size := by simp
  split at h2
  · unfold nameB at h2
    simp only [Bool.and_eq_true, decide_eq_true_eq] at h2
    omega
  · split at h2
    · simpa using h2
    · have := txt_empty h2
      rw [this]
      exact Nat.zero_le _

mutual
theorem shape_wt : (e : Ex) → shapeE e = true → e.wt + 1 ≤ 101 * e.nodes
  | .mk k t n kids => by
    intro h
    rw [shapeE, Bool.and_eq_true] at h
    rw [Ex.wt, Ex.nodes]
    have h1 := node1_text h.1
    have h2 := shapeL_wt kids h.2
    omega
theorem shapeL_wt : (l : List Ex) → shapeL l = true → l.length + wtL l ≤ 101 * nodesL l
  | [] => by intro _; rw [wtL, nodesL]; exact Nat.le_refl _
  | e :: r => by
    intro h
    rw [shapeL, Bool.and_eq_true] at h
    rw [List.length_cons, wtL, nodesL]
    have h1 := shape_wt e h.1
    have h2 := shapeL_wt r h.2
    omega
end

end Go.Proofs.YtgnillmhpockkaaGreatDoor

namespace Go.Proofs.YtgnillmhpockkaaGreatDoor
open Go.RowKit

theorem implNameOk (s : ByteArray) (w : World) (v : Bool) (hv : nameB s.data.toList = v) :
    Calls Tryz.prog 12 #[.string s] w fun e w' => e = .returned (.bool v) ∧ w = w' := by
  go_enter Tryz.func12, Tryz.ntmps12
  go_wp2_with fail
  refine (implNameFits s _ v hv).mono ?_
  rintro e w' ⟨rfl, rfl⟩
  go_wp2_with fail
  go_ret
  exact ⟨rfl, rfl⟩

end Go.Proofs.YtgnillmhpockkaaGreatDoor

namespace Go.Proofs.YtgnillmhpockkaaGreatDoor
open Go.RowKit

theorem specNameOk (s : ByteArray) (w : World) (hs : s.size ≤ 1048576) (v : Bool) (hv : nameB s.data.toList = v) :
    Calls Tryz.prog 13 #[.string s] w fun e w' => e = .returned (.bool v) ∧ w = w' := by
  subst hv
  go_enter Tryz.func13, Tryz.ntmps13
  go_wp2_with fail
  refine (specName s _ hs).mono ?_
  rintro e w' ⟨rfl, rfl⟩
  go_wp2_with fail
  go_ret
  exact ⟨rfl, rfl⟩

end Go.Proofs.YtgnillmhpockkaaGreatDoor

namespace Go.Proofs.YtgnillmhpockkaaGreatDoor
open Go.RowKit

set_option maxHeartbeats 1000000 in
theorem specKids (k : Int) (w : World) (v : Int) (hv : kidsK k = v) :
    Calls Tryz.prog 80 #[.int .i64 k] w fun e w' => e = .returned (.int .i64 v) ∧ w = w' := by
  unfold kidsK at hv
  by_cases h1 : k < 0 ∨ 18 < k
  · rw [if_pos h1] at hv
    subst hv
    have H1 : Hid (inI k 0 18 = false) := by unfold Hid inI; simp; omega
    clear h1
    go_enter Tryz.func80, Tryz.ntmps80
    go_wp2_with (go_at_call 38; refine (specInIs _ 0 18 _ false H1.out).mono ?_; rintro e w' ⟨rfl, rfl⟩)
    go_ret
    exact ⟨rfl, rfl⟩
  · rw [if_neg h1] at hv
    have H1 : Hid (inI k 0 18 = true) := by unfold Hid inI; simp; omega
    by_cases h5 : k ≤ 5
    · rw [if_pos h5] at hv
      subst hv
      clear h1
      go_enter Tryz.func80, Tryz.ntmps80
      go_wp2_with (go_at_call 38; refine (specInIs _ 0 18 _ true H1.out).mono ?_; rintro e w' ⟨rfl, rfl⟩)
      go_ret
      exact ⟨rfl, rfl⟩
    · rw [if_neg h5] at hv
      by_cases h7 : k ≤ 7
      · rw [if_pos h7] at hv
        subst hv
        clear h1
        go_enter Tryz.func80, Tryz.ntmps80
        go_wp2_with (go_at_call 38; refine (specInIs _ 0 18 _ true H1.out).mono ?_; rintro e w' ⟨rfl, rfl⟩)
        go_ret
        exact ⟨rfl, rfl⟩
      · rw [if_neg h7] at hv
        subst hv
        clear h1
        go_enter Tryz.func80, Tryz.ntmps80
        go_wp2_with (go_at_call 38; refine (specInIs _ 0 18 _ true H1.out).mono ?_; rintro e w' ⟨rfl, rfl⟩)
        go_ret
        exact ⟨rfl, rfl⟩

theorem specKidsQ (k : Int) (w : World) (v : Int) (hv : kidsK k = v) :
    Calls Tryz.prog 80 #[.int .i64 k] w fun e w' => e = .returned (.int .i64 v) ∧ w' = w := (specKids k w v hv).mono fun _ _ h => ⟨h.1, h.2.symm⟩

def ShapeP (d : Nat) : Prop := ∀ (k : Int) (t : ByteArray) (n : Int) (kids : List Ex) (a : Option Addr) (c : Nat) (w : World), t.size ≤ 1048576 → wtL kids ≤ 1048576 → KidsAt w d a c kids →
  Calls Tryz.prog 56 #[.agg #[.int .i64 k, .string t, .int .i64 n, .slice a kids.length c]] w fun x w' => x = .returned (.bool (shapeE (.mk k t n kids))) ∧ Below w.heap.size w w'

theorem shape_eq (k : Int) (t : ByteArray) (n : Int) (kids : List Ex) : shapeE (.mk k t n kids) = (node1 k t n kids.length && shapeL kids) := by rw [shapeE]

theorem shapeL_drop (l : List Ex) (k : Nat) (h : k < l.length) : shapeL (l.drop k) = (shapeE l[k] && shapeL (l.drop (k + 1))) := by
  rw [List.drop_eq_getElem_cons h, shapeL]

theorem Ex.eta (e : Ex) : e = .mk e.kind e.text e.num e.kids := by cases e; rfl

/-- The cells of the argument's own box. -/
structure BoxK (w : World) (k : Int) (t : ByteArray) (n : Int) (a : Option Addr) (l c : Nat) (w1 : World) : Prop where
  lt : w.heap.size < w1.heap.size
  c0 : w1.cell? ⟨w.heap.size, 0, none⟩ = some (.int .i64 k)
  c1 : w1.cell? ⟨w.heap.size, 1, none⟩ = some (.string t)
  c2 : w1.cell? ⟨w.heap.size, 2, none⟩ = some (.int .i64 n)
  c3 : w1.cell? ⟨w.heap.size, 3, none⟩ = some (.slice a l c)
  bel : Below w.heap.size w w1

theorem boxK_new (w : World) (k : Int) (t : ByteArray) (n : Int) (a : Option Addr) (l c : Nat) (T : TypeId) : BoxK w k t n a l c (w.alloc (.cells #[.int .i64 k, .string t, .int .i64 n, .slice a l c] T)) :=
  ⟨by simp, by simp [go_sem], by simp [go_sem], by simp [go_sem], by simp [go_sem], (Below.refl _ _).alloc (Nat.le_refl _) _⟩

theorem BoxK.below {w w1 w2 : World} {k : Int} {t : ByteArray} {n : Int} {a : Option Addr} {l c : Nat} (h : BoxK w k t n a l c w1) (hb : Below w1.heap.size w1 w2) : BoxK w k t n a l c w2 :=
  ⟨Nat.lt_of_lt_of_le h.lt hb.size, (hb.cell (p := ⟨w.heap.size, 0, none⟩) h.lt).trans h.c0, (hb.cell (p := ⟨w.heap.size, 1, none⟩) h.lt).trans h.c1, (hb.cell (p := ⟨w.heap.size, 2, none⟩) h.lt).trans h.c2, (hb.cell (p := ⟨w.heap.size, 3, none⟩) h.lt).trans h.c3, h.bel.trans (hb.mono h.bel.size)⟩

theorem BoxK.drewN {w w1 : World} {k : Int} {t : ByteArray} {n : Int} {a : Option Addr} {l c : Nat} (h : BoxK w k t n a l c w1) (m : Nat) : BoxK w k t n a l c (w1.drewN m) := h.below (below_drewN (Below.refl _ _) m)

set_option maxRecDepth 100000 in
set_option maxHeartbeats 4000000 in
theorem specShape : ∀ d, ShapeP d
  | 0 => fun _ _ _ _ _ _ _ _ _ h => h.elim
  | d + 1 => by
    intro k t n kids a c w ht hwt hk
    have ih := specShape d
    have hl := hk.len
    have HK := Lib.hid (fun w' hb => hk.below (w' := w') hb)
    have HSE := Lib.hid (shape_eq k t n kids)
    have HBX := Lib.hid (fun T m => (boxK_new w k t n a kids.length c T).drewN m)
    have ht9 : t.size ≤ 9223372036854775807 := by omega
    clear hk
    by_cases hlen : (kids.length : Int) = kidsK k
    · have hin : 0 ≤ k ∧ k ≤ 18 := by unfold kidsK at hlen; split at hlen <;> omega
      have hne : (((kids.length : Int)) != kidsK k) = false := by simp; exact hlen
      have HLn := Lib.hid hlen
      by_cases k0 : k = 0
      · subst k0
        generalize hkk : kidsK 0 = m at hne
        cases hnm : nameB t.data.toList with
        | false =>
          have HNM := Lib.hid hnm
          have HN1 : Hid (node1 0 t n kids.length = false) := by unfold Hid node1; rw [if_pos rfl, hnm]; simp
          clear hnm
          go_enter Tryz.func56, Tryz.ntmps56
          go_wp2_with fail
          go_quiet ((go_at_call 80; exact Calls.quiet_of_same (specKidsQ 0 _ _ hkk)))
          have BX := HBX.out 32 nq
          generalize World.drewN (w.alloc (.cells #[.int .i64 0, .string t, .int .i64 n, .slice a kids.length c] 32)) nq = W1 at BX ⊢
          obtain ⟨hW1, c0, c1, c2, c3, bW1⟩ := BX
          go_wp2_with (go_at_call 13; refine (specNameOk t _ ht _ HNM.out).mono ?_; rintro e w1 ⟨rfl, rfl⟩)
          go_ret
          exact ⟨by rw [HSE.out, HN1.out]; rfl, bW1⟩
        | true =>
          have HNM := Lib.hid hnm
          by_cases hn0 : n = 0
          · subst hn0
            have HN1 : Hid (node1 0 t 0 kids.length = true) := by unfold Hid node1; rw [if_pos rfl, hnm, decide_eq_true HLn.out]; rfl
            clear hnm
            go_enter Tryz.func56, Tryz.ntmps56
            go_wp2_with fail
            go_quiet ((go_at_call 80; exact Calls.quiet_of_same (specKidsQ 0 _ _ hkk)))
            have BX := HBX.out 32 nq
            generalize World.drewN (w.alloc (.cells #[.int .i64 0, .string t, .int .i64 0, .slice a kids.length c] 32)) nq = W1 at BX ⊢
            obtain ⟨hW1, c0, c1, c2, c3, bW1⟩ := BX
            go_wp2_with (go_at_call 13; refine (specNameOk t _ ht _ HNM.out).mono ?_; rintro e w1 ⟨rfl, rfl⟩)
            go_loopw [3] (fun i wr => ∃ j : Nat, j ≤ kids.length ∧ i = .int .i64 j ∧ Hid (BoxK w 0 t 0 a kids.length c wr) ∧ Hid (shapeL kids = shapeL (kids.drop j))) (fun i _ => kids.length - (intOf i).toNat)
            case atStart => exact ⟨0, Nat.zero_le _, rfl, ⟨hW1, c0, c1, c2, c3, bW1⟩, rfl⟩
            case round =>
              obtain ⟨j, hj, rfl, BX2, HD⟩ := hrel
              obtain ⟨hW2, c0', c1', c2', c3', bW2⟩ := BX2.out
              by_cases hlt : j < kids.length
              · obtain ⟨b, off, rfl, hbl, d0, d1, d2, hfit, a', c', d3, hkid⟩ := (HK.out _ bW2).spot hlt
                have HT := Lib.hid (shapeL_drop kids j hlt)
                have HX := Lib.hid hkid
                have HG := Lib.hid (wtL_get hlt)
                have HE := Lib.hid (Ex.eta kids[j])
                have HW := Lib.hid (Ex.wt_eq kids[j])
                clear hkid
                go_wp2_with fail
                refine (ih kids[j].kind kids[j].text kids[j].num kids[j].kids a' c' _ (by have := HG.out; have := HW.out; omega) (by have := HG.out; have := HW.out; omega) HX.out).mono ?_
                rw [← HE.out]
                rintro x w2 ⟨rfl, hb2⟩
                have BX3 := Lib.hid (BX2.out.below hb2)
                clear d0 d1 d2 d3 c0' c1' c2' c3' hb2
                cases hs : shapeE kids[j] with
                | true =>
                  have HS := Lib.hid hs
                  clear hs
                  go_wp2_with fail
                  go_roundw
                  case rel => exact ⟨j + 1, by omega, by go_num, BX3, by unfold Hid; rw [HD.out, HT.out, HS.out, Bool.true_and]⟩
                  case measure => simp [intOf]; omega
                | false =>
                  have HS := Lib.hid hs
                  clear hs
                  go_wp2_with fail
                  go_ret
                  exact ⟨by rw [HSE.out, HD.out, HT.out, HS.out]; simp, BX3.out.bel⟩
              · obtain rfl : j = kids.length := by omega
                go_wp2_with fail
                go_ret
                exact ⟨by rw [HSE.out, HN1.out, HD.out, List.drop_length]; rfl, bW2⟩
          · have HN1 : Hid (node1 0 t n kids.length = false) := by unfold Hid node1; rw [if_neg (show ¬ (0 : Int) = 1 by omega), decide_eq_false hn0]; simp
            have hnb : (n != 0) = true := by simp; exact hn0
            clear hnm hn0
            go_enter Tryz.func56, Tryz.ntmps56
            go_wp2_with fail
            go_quiet ((go_at_call 80; exact Calls.quiet_of_same (specKidsQ 0 _ _ hkk)))
            have BX := HBX.out 32 nq
            generalize World.drewN (w.alloc (.cells #[.int .i64 0, .string t, .int .i64 n, .slice a kids.length c] 32)) nq = W1 at BX ⊢
            obtain ⟨hW1, c0, c1, c2, c3, bW1⟩ := BX
            go_wp2_with (go_at_call 13; refine (specNameOk t _ ht _ HNM.out).mono ?_; rintro e w1 ⟨rfl, rfl⟩)
            go_ret
            exact ⟨by rw [HSE.out, HN1.out]; rfl, bW1⟩
      by_cases k1 : k = 1
      · subst k1
        generalize hkk : kidsK 1 = m at hne
        cases htx : t.toList.isEmpty with
        | false =>
          have htb : (!t.toList.isEmpty) = true := by rw [htx]; rfl
          have HN1 : Hid (node1 1 t n kids.length = false) := by unfold Hid node1; rw [if_neg (by omega), if_neg (by omega), htx]; simp
          clear htx
          go_enter Tryz.func56, Tryz.ntmps56
          go_wp2_with fail
          go_quiet ((go_at_call 80; exact Calls.quiet_of_same (specKidsQ 1 _ _ hkk)))
          have BX := HBX.out 32 nq
          generalize World.drewN (w.alloc (.cells #[.int .i64 1, .string t, .int .i64 n, .slice a kids.length c] 32)) nq = W1 at BX ⊢
          obtain ⟨hW1, c0, c1, c2, c3, bW1⟩ := BX
          go_wp2_with fail
          go_ret
          exact ⟨by rw [HSE.out, HN1.out]; rfl, bW1⟩
        | true =>
          have htb : (!t.toList.isEmpty) = false := by rw [htx]; rfl
          cases hin1 : inI n 0 999999999 with
          | true =>
            have HIN := Lib.hid hin1
            have HN1 : Hid (node1 1 t n kids.length = true) := by unfold Hid node1; rw [if_neg (by omega), if_neg (by omega), if_pos rfl, htx, decide_eq_true HLn.out]; unfold inI at hin1; simpa using hin1
            clear htx hin1
            go_enter Tryz.func56, Tryz.ntmps56
            go_wp2_with fail
            go_quiet ((go_at_call 80; exact Calls.quiet_of_same (specKidsQ 1 _ _ hkk)))
            have BX := HBX.out 32 nq
            generalize World.drewN (w.alloc (.cells #[.int .i64 1, .string t, .int .i64 n, .slice a kids.length c] 32)) nq = W1 at BX ⊢
            obtain ⟨hW1, c0, c1, c2, c3, bW1⟩ := BX
            go_wp2_with (go_at_call 38; refine (specInIs _ 0 999999999 _ _ HIN.out).mono ?_; rintro e w1 ⟨rfl, rfl⟩)
            go_loopw [3] (fun i wr => ∃ j : Nat, j ≤ kids.length ∧ i = .int .i64 j ∧ Hid (BoxK w 1 t n a kids.length c wr) ∧ Hid (shapeL kids = shapeL (kids.drop j))) (fun i _ => kids.length - (intOf i).toNat)
            case atStart => exact ⟨0, Nat.zero_le _, rfl, ⟨hW1, c0, c1, c2, c3, bW1⟩, rfl⟩
            case round =>
              obtain ⟨j, hj, rfl, BX2, HD⟩ := hrel
              obtain ⟨hW2, c0', c1', c2', c3', bW2⟩ := BX2.out
              by_cases hlt : j < kids.length
              · obtain ⟨b, off, rfl, hbl, d0, d1, d2, hfit, a', c', d3, hkid⟩ := (HK.out _ bW2).spot hlt
                have HT := Lib.hid (shapeL_drop kids j hlt)
                have HX := Lib.hid hkid
                have HG := Lib.hid (wtL_get hlt)
                have HE := Lib.hid (Ex.eta kids[j])
                have HW := Lib.hid (Ex.wt_eq kids[j])
                clear hkid
                go_wp2_with fail
                refine (ih kids[j].kind kids[j].text kids[j].num kids[j].kids a' c' _ (by have := HG.out; have := HW.out; omega) (by have := HG.out; have := HW.out; omega) HX.out).mono ?_
                rw [← HE.out]
                rintro x w2 ⟨rfl, hb2⟩
                have BX3 := Lib.hid (BX2.out.below hb2)
                clear d0 d1 d2 d3 c0' c1' c2' c3' hb2
                cases hs : shapeE kids[j] with
                | true =>
                  have HS := Lib.hid hs
                  clear hs
                  go_wp2_with fail
                  go_roundw
                  case rel => exact ⟨j + 1, by omega, by go_num, BX3, by unfold Hid; rw [HD.out, HT.out, HS.out, Bool.true_and]⟩
                  case measure => simp [intOf]; omega
                | false =>
                  have HS := Lib.hid hs
                  clear hs
                  go_wp2_with fail
                  go_ret
                  exact ⟨by rw [HSE.out, HD.out, HT.out, HS.out]; simp, BX3.out.bel⟩
              · obtain rfl : j = kids.length := by omega
                go_wp2_with fail
                go_ret
                exact ⟨by rw [HSE.out, HN1.out, HD.out, List.drop_length]; rfl, bW2⟩
          | false =>
            have HIN := Lib.hid hin1
            have HN1 : Hid (node1 1 t n kids.length = false) := by unfold Hid node1; rw [if_neg (by omega), if_neg (by omega), if_pos rfl, show decide (0 ≤ n ∧ n ≤ 999999999) = false from decide_eq_false (by intro h; rw [show inI n 0 999999999 = true by unfold inI; simp; exact h] at hin1; cases hin1)]; simp
            clear htx hin1
            go_enter Tryz.func56, Tryz.ntmps56
            go_wp2_with fail
            go_quiet ((go_at_call 80; exact Calls.quiet_of_same (specKidsQ 1 _ _ hkk)))
            have BX := HBX.out 32 nq
            generalize World.drewN (w.alloc (.cells #[.int .i64 1, .string t, .int .i64 n, .slice a kids.length c] 32)) nq = W1 at BX ⊢
            obtain ⟨hW1, c0, c1, c2, c3, bW1⟩ := BX
            go_wp2_with (go_at_call 38; refine (specInIs _ 0 999999999 _ _ HIN.out).mono ?_; rintro e w1 ⟨rfl, rfl⟩)
            go_ret
            exact ⟨by rw [HSE.out, HN1.out]; rfl, bW1⟩
      by_cases k2 : k = 2
      · subst k2
        generalize hkk : kidsK 2 = m at hne
        by_cases htx : t.size ≤ 100
        · by_cases hn0 : n = 0
          · subst hn0
            have HN1 : Hid (node1 2 t 0 kids.length = true) := by unfold Hid node1; rw [if_neg (by omega), if_pos rfl, if_neg (by omega), decide_eq_true htx, decide_eq_true HLn.out]; rfl
            go_enter Tryz.func56, Tryz.ntmps56
            go_wp2_with fail
            go_quiet ((go_at_call 80; exact Calls.quiet_of_same (specKidsQ 2 _ _ hkk)))
            have BX := HBX.out 32 nq
            generalize World.drewN (w.alloc (.cells #[.int .i64 2, .string t, .int .i64 0, .slice a kids.length c] 32)) nq = W1 at BX ⊢
            obtain ⟨hW1, c0, c1, c2, c3, bW1⟩ := BX
            go_wp2_with fail
            go_loopw [3] (fun i wr => ∃ j : Nat, j ≤ kids.length ∧ i = .int .i64 j ∧ Hid (BoxK w 2 t 0 a kids.length c wr) ∧ Hid (shapeL kids = shapeL (kids.drop j))) (fun i _ => kids.length - (intOf i).toNat)
            case atStart => exact ⟨0, Nat.zero_le _, rfl, ⟨hW1, c0, c1, c2, c3, bW1⟩, rfl⟩
            case round =>
              obtain ⟨j, hj, rfl, BX2, HD⟩ := hrel
              obtain ⟨hW2, c0', c1', c2', c3', bW2⟩ := BX2.out
              by_cases hlt : j < kids.length
              · obtain ⟨b, off, rfl, hbl, d0, d1, d2, hfit, a', c', d3, hkid⟩ := (HK.out _ bW2).spot hlt
                have HT := Lib.hid (shapeL_drop kids j hlt)
                have HX := Lib.hid hkid
                have HG := Lib.hid (wtL_get hlt)
                have HE := Lib.hid (Ex.eta kids[j])
                have HW := Lib.hid (Ex.wt_eq kids[j])
                clear hkid
                go_wp2_with fail
                refine (ih kids[j].kind kids[j].text kids[j].num kids[j].kids a' c' _ (by have := HG.out; have := HW.out; omega) (by have := HG.out; have := HW.out; omega) HX.out).mono ?_
                rw [← HE.out]
                rintro x w2 ⟨rfl, hb2⟩
                have BX3 := Lib.hid (BX2.out.below hb2)
                clear d0 d1 d2 d3 c0' c1' c2' c3' hb2
                cases hs : shapeE kids[j] with
                | true =>
                  have HS := Lib.hid hs
                  clear hs
                  go_wp2_with fail
                  go_roundw
                  case rel => exact ⟨j + 1, by omega, by go_num, BX3, by unfold Hid; rw [HD.out, HT.out, HS.out, Bool.true_and]⟩
                  case measure => simp [intOf]; omega
                | false =>
                  have HS := Lib.hid hs
                  clear hs
                  go_wp2_with fail
                  go_ret
                  exact ⟨by rw [HSE.out, HD.out, HT.out, HS.out]; simp, BX3.out.bel⟩
              · obtain rfl : j = kids.length := by omega
                go_wp2_with fail
                go_ret
                exact ⟨by rw [HSE.out, HN1.out, HD.out, List.drop_length]; rfl, bW2⟩
          · have HN1 : Hid (node1 2 t n kids.length = false) := by unfold Hid node1; rw [if_neg (show ¬ (2 : Int) = 1 by omega), decide_eq_false hn0]; simp
            have hnb : (n != 0) = true := by simp; exact hn0
            clear hn0
            go_enter Tryz.func56, Tryz.ntmps56
            go_wp2_with fail
            go_quiet ((go_at_call 80; exact Calls.quiet_of_same (specKidsQ 2 _ _ hkk)))
            have BX := HBX.out 32 nq
            generalize World.drewN (w.alloc (.cells #[.int .i64 2, .string t, .int .i64 n, .slice a kids.length c] 32)) nq = W1 at BX ⊢
            obtain ⟨hW1, c0, c1, c2, c3, bW1⟩ := BX
            go_wp2_with fail
            go_ret
            exact ⟨by rw [HSE.out, HN1.out]; rfl, bW1⟩
        · have HN1 : Hid (node1 2 t n kids.length = false) := by unfold Hid node1; rw [if_neg (by omega), if_pos rfl, decide_eq_false htx]; simp
          go_enter Tryz.func56, Tryz.ntmps56
          go_wp2_with fail
          go_quiet ((go_at_call 80; exact Calls.quiet_of_same (specKidsQ 2 _ _ hkk)))
          have BX := HBX.out 32 nq
          generalize World.drewN (w.alloc (.cells #[.int .i64 2, .string t, .int .i64 n, .slice a kids.length c] 32)) nq = W1 at BX ⊢
          obtain ⟨hW1, c0, c1, c2, c3, bW1⟩ := BX
          go_wp2_with fail
          go_ret
          exact ⟨by rw [HSE.out, HN1.out]; rfl, bW1⟩
      have kb0 : (k == 0) = false := by simp; exact k0
      have kb1 : (k == 1) = false := by simp; exact k1
      have kb2 : (k == 2) = false := by simp; exact k2
      have kb3 : (k != 1) = true := by simp; exact k1
      generalize hkk : kidsK k = m at hne
      cases htx : t.toList.isEmpty with
      | false =>
        have htb : (!t.toList.isEmpty) = true := by rw [htx]; rfl
        have HN1 : Hid (node1 k t n kids.length = false) := by unfold Hid node1; rw [if_neg k0, if_neg k2, htx]; simp
        clear htx k0 k1 k2
        go_enter Tryz.func56, Tryz.ntmps56
        go_wp2_with fail
        go_quiet ((go_at_call 80; exact Calls.quiet_of_same (specKidsQ k _ _ hkk)))
        have BX := HBX.out 32 nq
        generalize World.drewN (w.alloc (.cells #[.int .i64 k, .string t, .int .i64 n, .slice a kids.length c] 32)) nq = W1 at BX ⊢
        obtain ⟨hW1, c0, c1, c2, c3, bW1⟩ := BX
        go_wp2_with fail
        go_ret
        exact ⟨by rw [HSE.out, HN1.out]; rfl, bW1⟩
      | true =>
        have htb : (!t.toList.isEmpty) = false := by rw [htx]; rfl
        by_cases hn0 : n = 0
        · subst hn0
          have HN1 : Hid (node1 k t 0 kids.length = true) := by unfold Hid node1; rw [if_neg k0, if_neg k2, if_neg k1, htx, decide_eq_true HLn.out]; rfl
          clear htx k0 k1 k2
          go_enter Tryz.func56, Tryz.ntmps56
          go_wp2_with fail
          go_quiet ((go_at_call 80; exact Calls.quiet_of_same (specKidsQ k _ _ hkk)))
          have BX := HBX.out 32 nq
          generalize World.drewN (w.alloc (.cells #[.int .i64 k, .string t, .int .i64 0, .slice a kids.length c] 32)) nq = W1 at BX ⊢
          obtain ⟨hW1, c0, c1, c2, c3, bW1⟩ := BX
          go_wp2_with fail
          go_loopw [3] (fun i wr => ∃ j : Nat, j ≤ kids.length ∧ i = .int .i64 j ∧ Hid (BoxK w k t 0 a kids.length c wr) ∧ Hid (shapeL kids = shapeL (kids.drop j))) (fun i _ => kids.length - (intOf i).toNat)
          case atStart => exact ⟨0, Nat.zero_le _, rfl, ⟨hW1, c0, c1, c2, c3, bW1⟩, rfl⟩
          case round =>
            obtain ⟨j, hj, rfl, BX2, HD⟩ := hrel
            obtain ⟨hW2, c0', c1', c2', c3', bW2⟩ := BX2.out
            by_cases hlt : j < kids.length
            · obtain ⟨b, off, rfl, hbl, d0, d1, d2, hfit, a', c', d3, hkid⟩ := (HK.out _ bW2).spot hlt
              have HT := Lib.hid (shapeL_drop kids j hlt)
              have HX := Lib.hid hkid
              have HG := Lib.hid (wtL_get hlt)
              have HE := Lib.hid (Ex.eta kids[j])
              have HW := Lib.hid (Ex.wt_eq kids[j])
              clear hkid
              go_wp2_with fail
              refine (ih kids[j].kind kids[j].text kids[j].num kids[j].kids a' c' _ (by have := HG.out; have := HW.out; omega) (by have := HG.out; have := HW.out; omega) HX.out).mono ?_
              rw [← HE.out]
              rintro x w2 ⟨rfl, hb2⟩
              have BX3 := Lib.hid (BX2.out.below hb2)
              clear d0 d1 d2 d3 c0' c1' c2' c3' hb2
              cases hs : shapeE kids[j] with
              | true =>
                have HS := Lib.hid hs
                clear hs
                go_wp2_with fail
                go_roundw
                case rel => exact ⟨j + 1, by omega, by go_num, BX3, by unfold Hid; rw [HD.out, HT.out, HS.out, Bool.true_and]⟩
                case measure => simp [intOf]; omega
              | false =>
                have HS := Lib.hid hs
                clear hs
                go_wp2_with fail
                go_ret
                exact ⟨by rw [HSE.out, HD.out, HT.out, HS.out]; simp, BX3.out.bel⟩
            · obtain rfl : j = kids.length := by omega
              go_wp2_with fail
              go_ret
              exact ⟨by rw [HSE.out, HN1.out, HD.out, List.drop_length]; rfl, bW2⟩
        · have HN1 : Hid (node1 k t n kids.length = false) := by unfold Hid node1; rw [if_neg k1, decide_eq_false hn0]; simp
          have hnb : (n != 0) = true := by simp; exact hn0
          clear htx hn0 k0 k1 k2
          go_enter Tryz.func56, Tryz.ntmps56
          go_wp2_with fail
          go_quiet ((go_at_call 80; exact Calls.quiet_of_same (specKidsQ k _ _ hkk)))
          have BX := HBX.out 32 nq
          generalize World.drewN (w.alloc (.cells #[.int .i64 k, .string t, .int .i64 n, .slice a kids.length c] 32)) nq = W1 at BX ⊢
          obtain ⟨hW1, c0, c1, c2, c3, bW1⟩ := BX
          go_wp2_with fail
          go_ret
          exact ⟨by rw [HSE.out, HN1.out]; rfl, bW1⟩
    · have HN1 : Hid (node1 k t n kids.length = false) := by
        unfold Hid node1; rw [decide_eq_false hlen]; rfl
      have hne : (((kids.length : Int)) != kidsK k) = true := by simp; exact hlen
      clear hlen
      generalize hkk : kidsK k = m at hne
      go_enter Tryz.func56, Tryz.ntmps56
      go_wp2_with fail
      go_quiet ((go_at_call 80; exact Calls.quiet_of_same (specKidsQ k _ _ hkk)))
      have BX := HBX.out 32 nq
      generalize World.drewN (w.alloc (.cells #[.int .i64 k, .string t, .int .i64 n, .slice a kids.length c] 32)) nq = W1 at BX ⊢
      obtain ⟨hW1, c0, c1, c2, c3, bW1⟩ := BX
      go_wp2_with fail
      go_ret
      exact ⟨by rw [HSE.out, HN1.out]; rfl, bW1⟩

end Go.Proofs.YtgnillmhpockkaaGreatDoor

namespace Go.Proofs.YtgnillmhpockkaaGreatDoor
open Go.RowKit

theorem fm_kids : ∀ i, i < 19 → (fm i).kids = kidsK (i : Int) := by decide
theorem fm_strength : ∀ i, i < 19 → (fm i).strength = (bindsK (i : Int) : Int) := by decide

set_option maxRecDepth 100000 in
set_option maxHeartbeats 2000000 in
theorem implNodeOk (k : Int) (t : ByteArray) (n : Int) (a : Option Addr) (l c : Nat) (w : World) (hF : FormsAt w) (ht : t.size ≤ maxLen) (hl : l ≤ 9223372036854775807) (v : Bool) (hv : node1 k t n l = v) :
    Calls Tryz.prog 88 #[.agg #[.int .i64 k, .string t, .int .i64 n, .slice a l c]] w fun x w' => x = .returned (.bool v) ∧ Below w.heap.size w w' := by
  have HBX := Lib.hid (fun T => boxK_new w k t n a l c T)
  have HBD := Lib.hid (fun T m => (boxK_new w k t n a l c T).drewN m)
  have ht9 : t.size ≤ 9223372036854775807 := by unfold maxLen at ht; omega
  by_cases h0 : k < 0
  · have HN : Hid (v = false) := by
      unfold Hid; rw [← hv]; unfold node1
      rw [decide_eq_false (by unfold kidsK; rw [if_pos (.inl h0)]; omega)]; rfl
    have hd0 : decide (k < 0) = true := decide_eq_true h0
    clear hv hF
    go_enter Tryz.func88, Tryz.ntmps88
    go_wp2_with fail
    go_quiet (fail)
    go_wp2_with fail
    go_ret
    exact ⟨by rw [HN.out]; rfl, (HBD.out _ _).bel⟩
  · by_cases h19 : 19 ≤ k
    · have HN : Hid (v = false) := by
        unfold Hid; rw [← hv]; unfold node1
        rw [decide_eq_false (by unfold kidsK; rw [if_pos (.inr (by omega))]; omega)]; rfl
      have hd0 : decide (k < 0) = false := decide_eq_false h0
      have hd1 : decide (19 ≤ k) = true := decide_eq_true h19
      clear hv hF
      go_enter Tryz.func88, Tryz.ntmps88
      go_wp2_with fail
      go_quiet (fail)
      go_wp2_with fail
      go_ret
      exact ⟨by rw [HN.out]; rfl, (HBD.out _ _).bel⟩
    · obtain ⟨i, rfl⟩ : ∃ i : Nat, k = i := ⟨k.toNat, by omega⟩
      have hi : i < 19 := by omega
      have hd0 : decide ((i : Int) < 0) = false := decide_eq_false h0
      have hd1 : decide (19 ≤ (i : Int)) = false := decide_eq_false h19
      have hb0 : (0 : Int) ≤ (i : Int) := by omega
      have hb1 : (i : Int) < 19 := by omega
      have HG : Hid (∀ o, (w.alloc o).cell? ⟨0, i * 4, none⟩ = some (.int .i64 (kidsK i))) := fun o => by
        rw [← fm_kids i hi]
        exact ((hF.below ((Below.refl w.heap.size w).alloc (Nat.le_refl _) o) hF.1).2 i hi).1
      have hg := HG.out
      have hkk : ∃ m, kidsK (i : Int) = m := ⟨_, rfl⟩
      obtain ⟨m, hkk⟩ := hkk
      have HV := Lib.hid hv
      rw [hkk] at hg
      clear hF h0 h19 hv
      by_cases hlm : (l : Int) = m
      · have hne : ((l : Int) != m) = false := by simp; exact hlm
        by_cases k0 : i = 0
        · subst k0
          have HE : Hid (v = (nameB t.data.toList && decide (n = 0))) := by unfold Hid; rw [← HV.out]; unfold node1; rw [hkk, decide_eq_true hlm, if_pos (by omega), if_neg (by omega)]; rfl
          cases hnm : nameB t.data.toList with
          | false =>
            rw [hnm] at HE
            have HNM := Lib.hid hnm
            clear hnm HV
            have hn0 : ∃ q, (n == 0) = q ∧ decide (n = 0) = q := ⟨_, rfl, rfl⟩
            obtain ⟨q, hq1, hq2⟩ := hn0
            rw [hq2] at HE
            clear hq2
            have hg1 := hg (.cells #[.int .i64 (0 : Int), .string t, .int .i64 n, .slice a l c] 32)
            clear hg
            go_enter Tryz.func88, Tryz.ntmps88
            go_wp2_with fail
            go_quiet (fail)
            have BX := HBD.out 32 nq
            generalize World.drewN (w.alloc (.cells #[.int .i64 0, .string t, .int .i64 n, .slice a l c] 32)) nq = W1 at BX ⊢
            obtain ⟨hW1, c0, c1, c2, c3, bW1⟩ := BX
            clear hg1
            go_wp2_with (go_at_call 12; refine (implNameOk t _ _ HNM.out).mono ?_; rintro e w1 ⟨rfl, rfl⟩)
            go_ret
            exact ⟨by rw [HE.out]; rfl, bW1⟩
          | true =>
            rw [hnm] at HE
            have HNM := Lib.hid hnm
            clear hnm HV
            have hn0 : ∃ q, (n == 0) = q ∧ decide (n = 0) = q := ⟨_, rfl, rfl⟩
            obtain ⟨q, hq1, hq2⟩ := hn0
            rw [hq2] at HE
            clear hq2
            have hg1 := hg (.cells #[.int .i64 (0 : Int), .string t, .int .i64 n, .slice a l c] 32)
            clear hg
            go_enter Tryz.func88, Tryz.ntmps88
            go_wp2_with fail
            go_quiet (fail)
            have BX := HBD.out 32 nq
            generalize World.drewN (w.alloc (.cells #[.int .i64 0, .string t, .int .i64 n, .slice a l c] 32)) nq = W1 at BX ⊢
            obtain ⟨hW1, c0, c1, c2, c3, bW1⟩ := BX
            clear hg1
            go_wp2_with (go_at_call 12; refine (implNameOk t _ _ HNM.out).mono ?_; rintro e w1 ⟨rfl, rfl⟩)
            go_ret
            exact ⟨by rw [HE.out]; rfl, bW1⟩
        by_cases k1 : i = 1
        · subst k1
          have HE : Hid (v = (t.toList.isEmpty && (decide (0 ≤ n) && decide (n ≤ 999999999)))) := by unfold Hid; rw [← HV.out]; unfold node1; rw [hkk, decide_eq_true hlm, if_neg (by omega), if_neg (by omega), if_pos (by omega), Bool.decide_and]; rfl
          cases htx : t.toList.isEmpty with
          | false =>
            rw [htx] at HE
            clear HV
            have hg1 := hg (.cells #[.int .i64 (1 : Int), .string t, .int .i64 n, .slice a l c] 32)
            clear hg
            go_enter Tryz.func88, Tryz.ntmps88
            go_wp2_with fail
            go_quiet (fail)
            have BX := HBD.out 32 nq
            generalize World.drewN (w.alloc (.cells #[.int .i64 1, .string t, .int .i64 n, .slice a l c] 32)) nq = W1 at BX ⊢
            obtain ⟨hW1, c0, c1, c2, c3, bW1⟩ := BX
            clear hg1
            go_wp2_with fail
            go_ret
            exact ⟨by rw [HE.out]; rfl, bW1⟩
          | true =>
            rw [htx] at HE
            clear HV
            by_cases h1 : ¬ 0 ≤ n
            · rw [decide_eq_false h1] at HE
              have hg1 := hg (.cells #[.int .i64 (1 : Int), .string t, .int .i64 n, .slice a l c] 32)
              clear hg
              go_enter Tryz.func88, Tryz.ntmps88
              go_wp2_with fail
              go_quiet (fail)
              have BX := HBD.out 32 nq
              generalize World.drewN (w.alloc (.cells #[.int .i64 1, .string t, .int .i64 n, .slice a l c] 32)) nq = W1 at BX ⊢
              obtain ⟨hW1, c0, c1, c2, c3, bW1⟩ := BX
              clear hg1
              go_wp2_with fail
              go_ret
              exact ⟨by rw [HE.out]; rfl, bW1⟩
            · have h1 : 0 ≤ n := by omega
              rw [decide_eq_true h1] at HE
              have hg1 := hg (.cells #[.int .i64 (1 : Int), .string t, .int .i64 n, .slice a l c] 32)
              clear hg
              go_enter Tryz.func88, Tryz.ntmps88
              go_wp2_with fail
              go_quiet (fail)
              have BX := HBD.out 32 nq
              generalize World.drewN (w.alloc (.cells #[.int .i64 1, .string t, .int .i64 n, .slice a l c] 32)) nq = W1 at BX ⊢
              obtain ⟨hW1, c0, c1, c2, c3, bW1⟩ := BX
              clear hg1
              go_wp2_with fail
              go_ret
              exact ⟨by rw [HE.out]; rfl, bW1⟩
        by_cases k2 : i = 2
        · subst k2
          have HE : Hid (v = (decide (t.size ≤ 100) && decide (n = 0))) := by unfold Hid; rw [← HV.out]; unfold node1; rw [hkk, decide_eq_true hlm, if_neg (by omega), if_pos (by omega), if_neg (by omega)]; rfl
          have hn0 : ∃ q, (n == 0) = q ∧ decide (n = 0) = q := ⟨_, rfl, rfl⟩
          obtain ⟨q, hq1, hq2⟩ := hn0
          rw [hq2] at HE
          clear hq2
          by_cases htx : t.size ≤ 100
          · rw [decide_eq_true htx] at HE
            clear HV
            have hg1 := hg (.cells #[.int .i64 (2 : Int), .string t, .int .i64 n, .slice a l c] 32)
            clear hg
            go_enter Tryz.func88, Tryz.ntmps88
            go_wp2_with fail
            go_quiet (fail)
            have BX := HBD.out 32 nq
            generalize World.drewN (w.alloc (.cells #[.int .i64 2, .string t, .int .i64 n, .slice a l c] 32)) nq = W1 at BX ⊢
            obtain ⟨hW1, c0, c1, c2, c3, bW1⟩ := BX
            clear hg1
            go_wp2_with fail
            go_ret
            exact ⟨by rw [HE.out]; rfl, bW1⟩
          · rw [decide_eq_false htx] at HE
            clear HV
            have hg1 := hg (.cells #[.int .i64 (2 : Int), .string t, .int .i64 n, .slice a l c] 32)
            clear hg
            go_enter Tryz.func88, Tryz.ntmps88
            go_wp2_with fail
            go_quiet (fail)
            have BX := HBD.out 32 nq
            generalize World.drewN (w.alloc (.cells #[.int .i64 2, .string t, .int .i64 n, .slice a l c] 32)) nq = W1 at BX ⊢
            obtain ⟨hW1, c0, c1, c2, c3, bW1⟩ := BX
            clear hg1
            go_wp2_with fail
            go_ret
            exact ⟨by rw [HE.out]; rfl, bW1⟩
        have HE : Hid (v = (t.toList.isEmpty && decide (n = 0))) := by unfold Hid; rw [← HV.out]; unfold node1; rw [hkk, decide_eq_true hlm, if_neg (by omega), if_neg (by omega), if_neg (by omega)]; rfl
        have kb0 : ((i : Int) == 0) = false := by simp; omega
        have kb1 : ((i : Int) == 1) = false := by simp; omega
        have kb2 : ((i : Int) == 2) = false := by simp; omega
        have hn0 : ∃ q, (n == 0) = q ∧ decide (n = 0) = q := ⟨_, rfl, rfl⟩
        obtain ⟨q, hq1, hq2⟩ := hn0
        rw [hq2] at HE
        clear hq2 k0 k1 k2
        cases htx : t.toList.isEmpty with
        | false =>
          rw [htx] at HE
          clear HV
          have hg1 := hg (.cells #[.int .i64 (i : Int), .string t, .int .i64 n, .slice a l c] 32)
          clear hg
          go_enter Tryz.func88, Tryz.ntmps88
          go_wp2_with fail
          go_quiet (fail)
          have BX := HBD.out 32 nq
          generalize World.drewN (w.alloc (.cells #[.int .i64 (i : Int), .string t, .int .i64 n, .slice a l c] 32)) nq = W1 at BX ⊢
          obtain ⟨hW1, c0, c1, c2, c3, bW1⟩ := BX
          clear hg1
          go_wp2_with fail
          go_ret
          exact ⟨by rw [HE.out]; rfl, bW1⟩
        | true =>
          rw [htx] at HE
          clear HV
          have hg1 := hg (.cells #[.int .i64 (i : Int), .string t, .int .i64 n, .slice a l c] 32)
          clear hg
          go_enter Tryz.func88, Tryz.ntmps88
          go_wp2_with fail
          go_quiet (fail)
          have BX := HBD.out 32 nq
          generalize World.drewN (w.alloc (.cells #[.int .i64 (i : Int), .string t, .int .i64 n, .slice a l c] 32)) nq = W1 at BX ⊢
          obtain ⟨hW1, c0, c1, c2, c3, bW1⟩ := BX
          clear hg1
          go_wp2_with fail
          go_ret
          exact ⟨by rw [HE.out]; rfl, bW1⟩
      · have hne : ((l : Int) != m) = true := by simp; exact hlm
        have HE : Hid (v = false) := by unfold Hid; rw [← HV.out]; unfold node1; rw [hkk, decide_eq_false hlm]; rfl
        clear HV
        have hg1 := hg (.cells #[.int .i64 (i : Int), .string t, .int .i64 n, .slice a l c] 32)
        clear hg
        go_enter Tryz.func88, Tryz.ntmps88
        go_wp2_with fail
        go_quiet (fail)
        have BX := HBD.out 32 nq
        generalize World.drewN (w.alloc (.cells #[.int .i64 (i : Int), .string t, .int .i64 n, .slice a l c] 32)) nq = W1 at BX ⊢
        obtain ⟨hW1, c0, c1, c2, c3, bW1⟩ := BX
        clear hg1
        go_wp2_with fail
        go_ret
        exact ⟨by rw [HE.out]; rfl, bW1⟩

end Go.Proofs.YtgnillmhpockkaaGreatDoor

namespace Go.Proofs.YtgnillmhpockkaaGreatDoor
open Go.RowKit

set_option maxHeartbeats 2000000 in
theorem eachCheck {wb : Nat} {chk : Ex → Bool} {lim : Nat} {pc : List PanicEntry} {J : World → Prop} (hsee : Sees J 54 wb chk lim pc) (e : Ex) (a : Option Addr) (c d m : Nat) (w : World) (hJ : ∀ w', w.grownBy w' (some wb) → J w') (hfit : e.fit) (hk : KidsQ (fun b => b ≠ wb) w d a c e.kids)
    (hwb : wb < w.heap.size) (hm : w.cell? ⟨wb, 0, none⟩ = some (.int .i64 m)) (hz : w.frozen? ⟨wb, 0, none⟩ = false) (hn : m + e.nodes ≤ 1073741824) :
    Calls Tryz.prog 53 #[.agg #[.int .i64 e.kind, .string e.text, .int .i64 e.num, .slice a e.kids.length c], .func (.func 54) #[.pointer (some ⟨wb, 0, none⟩)] #[]] w (EachP w wb chk lim pc e m) := by
  obtain ⟨i0, hi0, hz0, hz1, hz2⟩ := info_parts Tryz.infoKidsS
  have HST := Lib.hid (WInv.start hfit hk hwb hm hz)
  clear hk hfit hm hz
  go_enter Tryz.func53, Tryz.ntmps53
  go_wp2_with fail
  go_loopw [4] (fun v wr => ∃ ps mm, WInv w wb ps v mm wr ∧ mm + sumP ps = m + e.nodes ∧ e.all chk = allP chk ps ∧ (m < mm → mm ≤ lim)) (fun _ wr => m + e.nodes - cellN wr wb)
  case atStart => exact ⟨_, m, HST.out _ rfl, by simp [sumP, nodesL], by simp [allP, allL], fun h => absurd h (Nat.lt_irrefl _)⟩
  case round =>
    obtain ⟨ps, mm, hI, hsum, hall, hlim⟩ := hrel
    rcases List.eq_nil_or_concat ps with rfl | ⟨qs, ⟨pa, pcp, pk⟩, rfl⟩
    · obtain ⟨a0, c0, rfl⟩ := hI.form
      have HI := Lib.hid hI
      have HS := Lib.hid hsum
      have HA := Lib.hid hall
      clear hI hsum hall
      go_wp2_with fail
      refine bodyPost_end (results_none rfl _ _ _) rfl ?_
      have hmm : mm = m + e.nodes := by have := HS.out; simpa [sumP] using this
      subst hmm
      have hall : e.all chk = true := by rw [HA.out]; rfl
      have hnp := Ex.nodes_eq e
      have hle := hlim (by omega)
      exact ⟨HI.out.grown, by rw [hall, decide_eq_true hle]; rfl, fun _ _ => HI.out.cell⟩
    · obtain ⟨g, cap, rfl, hcap, hcapm, hcell, hI2, hpk, d2, hk2⟩ := WInv.pop (by simpa using hI)
      unfold Pd.v at hcell
      simp only at hcell hpk hk2
      unfold maxLen at hcapm
      have HI := Lib.hid hI2
      have HK2 := Lib.hid hk2
      rw [List.concat_eq_append, sumP_snoc] at hsum
      rw [List.concat_eq_append, allP_snoc] at hall
      have HS := Lib.hid hsum
      have HA := Lib.hid hall
      clear hI hI2 hk2 hsum hall
      go_wp2_with fail
      go_loopw [4, 27] (fun v i wr => ∃ (ps : List Pd) (k : Nat), i = .int .i64 k ∧ k ≤ pk.length ∧ WInv w wb ps v (mm + k) wr ∧ KidsQ (InQ w wb) wr d2 pa pcp pk ∧ mm + k + sumP ps + nodesL (pk.drop k) = m + e.nodes ∧ e.all chk = (allP chk ps && allL chk (pk.drop k)) ∧ (m < mm + k → mm + k ≤ lim)) (fun _ i _ => pk.length - (intOf i).toNat)
      case atStart => exact ⟨qs, 0, rfl, Nat.zero_le _, HI.out, HK2.out, by have := HS.out; simp only [List.drop_zero] at this ⊢; omega, HA.out, hlim⟩
      case round =>
        obtain ⟨ps, k, rfl, hk, hI3, hk3, hsum3, hall3, hlim3⟩ := hrel
        obtain ⟨a0, c0, rfl⟩ := hI3.form
        by_cases hlt : k < pk.length
        · obtain ⟨d3, rfl⟩ : ∃ q, d2 = q + 1 := ⟨d2 - 1, by cases d2 with | zero => exact hk3.elim | succ n => omega⟩
          obtain ⟨b, off, rfl, hq, hbl, hc0, hc1, hc2, hfit, a', c', hc3, hkid⟩ := hk3.spot hlt
          have hxl := hkid.at.len
          have hmb : mm + k ≤ 1073741824 := by omega
          have HI3 := Lib.hid hI3
          have HK3 := Lib.hid hk3
          have HX := Lib.hid hkid
          have HS3 := Lib.hid hsum3
          have HA3 := Lib.hid hall3
          have hsz3 := hI3.size
          clear hI3 hsum3 hall3 hk3 hkid
          go_wp2_with fail
          refine (hsee pk[k] a' c' d3 (mm + k) _ (hJ _ (HI3.out.alloc _).grown) hfit ((HX.out.at.below ((Below.refl _ _).alloc (Nat.le_refl _) _))) (HI3.out.alloc _).cell (HI3.out.alloc _).frozen hmb).mono ?_
          rintro x w2 ⟨hg2, hc, hz, rfl⟩
          have hI4 := (HI3.out.alloc _).next hg2 (.inr rfl) hc hz
          have hbox : w2.cell? ⟨wr.heap.size, 3, none⟩ = some (.slice a' pk[k].kids.length c') := hg2.cell (a := ⟨wr.heap.size, 3, none⟩) (by simp [go_sem]) (by intro h; have h' := Option.some.inj h; simp only at h'; omega)
          have hkeep : KidsQ (InQ w wb) w2 (d3 + 1) (some ⟨b, off, none⟩) pcp pk ∧ KidsQ (InQ w wb) w2 d3 a' c' pk[k].kids := by
            have hb1 := (Below.refl wr.heap.size wr).alloc (Nat.le_refl _) (.cells #[.int .i64 pk[k].kind, .string pk[k].text, .int .i64 pk[k].num, .slice a' pk[k].kids.length c'] 32)
            have hg1 : wr.grownBy _ none := ⟨hb1.os, hb1.tape, hb1.output, hb1.size, fun k hk _ => hb1.block k hk⟩
            have hI5 := HI3.out.alloc (.cells #[.int .i64 pk[k].kind, .string pk[k].text, .int .i64 pk[k].num, .slice a' pk[k].kids.length c'] 32)
            exact ⟨kids_grown hI5.size hg2 (by rintro b h; cases h; exact .inl rfl) hI5.lt (kids_grown HI3.out.size hg1 (by simp) HI3.out.lt HK3.out), kids_grown hI5.size hg2 (by rintro b h; cases h; exact .inl rfl) hI5.lt (kids_grown HI3.out.size hg1 (by simp) HI3.out.lt HX.out)⟩
          have HI4 := Lib.hid hI4
          have HKP := Lib.hid hkeep
          have HDN := Lib.hid (nodesL_drop pk k hlt)
          have HDA := Lib.hid (allL_drop chk pk k hlt)
          have HNE := Lib.hid (Ex.nodes_eq pk[k])
          have HAE := Lib.hid (Ex.all_eq chk pk[k])
          have hsz4 := hI4.size
          clear hI4 hkeep hg2 hc0 hc1 hc2 hc3
          cases hgd : (chk pk[k] && decide (mm + k + 1 ≤ lim)) with
          | false =>
            have HG := Lib.hid hgd
            clear hgd
            simp only [SeeX, Bool.false_eq_true, if_false]
            have HF : Hid ((e.all chk && decide (m + e.nodes ≤ lim)) = false) := by
              have h1 := HG.out; have h2 := HA3.out; have h3 := HDA.out; have h4 := HAE.out; have h5 := HS3.out; have h6 := HDN.out; have h7 := HNE.out
              unfold Hid
              rw [h2, h3, h4]
              rw [Bool.and_eq_false_iff] at h1
              rcases h1 with h1 | h1
              · simp [h1]
              · have : decide (m + e.nodes ≤ lim) = false := by simp at h1 ⊢; omega
                rw [this]; simp
            go_wp2_with fail
            refine ⟨rfl, HI4.out.grown, by rw [HF.out]; rfl, fun h1 h2 => ?_⟩
            have := HF.out
            rw [h1, decide_eq_true h2] at this
            cases this
          | true =>
            have HG := Lib.hid hgd
            clear hgd
            have hle : mm + k + 1 ≤ lim := by have := HG.out; simp at this; exact this.2
            have hck : chk pk[k] = true := by have := HG.out; simp at this; exact this.1
            simp only [SeeX, if_true]
            have hpl : ps.length + 1 ≤ 1073741824 := by
              have h5 := HS3.out; have h6 := HDN.out; have h7 := HNE.out
              have h8 := sumP_len ps (fun p hp => (HI4.out.kids p hp).1)
              omega
            have HE : Hid (mm + (k + 1) + (sumP ps + nodesL pk[k].kids) + nodesL (pk.drop (k + 1)) = m + e.nodes ∧ e.all chk = (allP chk ps && allL chk pk[k].kids && allL chk (pk.drop (k + 1)))) := by
              have h2 := HA3.out; have h3 := HDA.out; have h4 := HAE.out; have h5 := HS3.out; have h6 := HDN.out; have h7 := HNE.out
              refine ⟨by omega, ?_⟩
              rw [h2, h3, h4, hck]
              simp [Bool.and_assoc]
            by_cases hpos : 0 < pk[k].kids.length
            · go_wp2_with (at_builtin; refine wpPush rfl (.tmp 38) (.tmp 41) rfl a0 c0 ⟨a', c', pk[k].kids⟩ d3 _ HI4.out hpos HKP.out.2 hpl rfl rfl rfl ?_; intro a6 c6 w6 HI6)
              go_roundw
              case rel =>
                refine ⟨ps ++ [⟨a', c', pk[k].kids⟩], k + 1, by go_num, by omega, ?_, ?_, ?_, ?_, by omega⟩
                · exact HI6.out.1
                · exact kids_grown HI4.out.size HI6.out.2 (fun b hb => .inr (HI4.out.row.lt b hb).1) HI4.out.lt HKP.out.1
                · rw [sumP_snoc]; exact HE.out.1
                · rw [allP_snoc]; exact HE.out.2
              case measure => simp [intOf]; omega
            · have h0 : pk[k].kids = [] := List.eq_nil_of_length_eq_zero (by omega)
              have hl0 : pk[k].kids.length = 0 := by rw [h0]; rfl
              go_wp2_with fail
              go_roundw
              case rel =>
                refine ⟨ps, k + 1, by go_num, by omega, HI4.out, HKP.out.1, ?_, ?_, by omega⟩
                · have := HE.out.1; rw [h0] at this; simpa [nodesL] using this
                · have := HE.out.2; rw [h0] at this; simpa [allL] using this
              case measure => simp [intOf]; omega
        · obtain rfl : k = pk.length := by omega
          have HI3 := Lib.hid hI3
          have HS3 := Lib.hid hsum3
          have HA3 := Lib.hid hall3
          clear hI3 hsum3 hall3 hk3
          go_wp2_with fail
          go_roundw
          case rel => exact ⟨ps, mm + pk.length, HI3.out, by have := HS3.out; simpa [nodesL] using this, by have := HA3.out; simpa [allL] using this, hlim3⟩
          case measure =>
            have h1 := HI3.out.cellN
            have h2 := HI.out.cellN
            have h3 := HS3.out
            rw [h1, h2]
            omega

end Go.Proofs.YtgnillmhpockkaaGreatDoor
