/- impl.nodeOk: what one node asks for. -/
/- impl.eachNode: a walk over all nodes of an expression, for any function that sees them. -/
/- impl.eachNode with (*impl.nodeWalk).check. -/
/- impl.eachNode with (*impl.nodeWalk).count. -/
/- impl.Nodes counts the nodes. -/
import Derived.Test.YtpdcmmhhgnackaaGreatDoorMExTo
import Derived.Test.YtpdcmmhhgnackaaGreatDoorMNameImpl
import Derived.BigQuiet
import Derived.Test.YtpdcmmhhgnackaaGreatDoorMMem
import Derived.Deep.RegionHeld3
import Derived.Deep.Light
import Derived.Deep.Upon
namespace Go.Proofs.YtpdcmmhhgnackaaGreatDoor
open Go.RowKit

theorem fm_kids : ∀ i, i < 19 → (fm i).kids = kidsK (i : Int) := by decide
theorem fm_strength : ∀ i, i < 19 → (fm i).strength = (bindsK (i : Int) : Int) := by decide

set_option maxRecDepth 100000 in
set_option maxHeartbeats 2000000 in
theorem implNodeOk (k : Int) (t : ByteArray) (n : Int) (a : Option Addr) (l c : Nat) (w : World) (hF : FormsAt w) (ht : t.size ≤ maxLen) (hl : l ≤ 9223372036854775807) (v : Bool) (hv : node1 k t n l = v) :
    Calls Tryz.prog 139 #[.agg #[.int .i64 k, .string t, .int .i64 n, .slice a l c]] w fun x w' => x = .returned (.bool v) ∧ Below w.heap.size w w' := by
  have HBX := Lib.hid (fun T => boxK_new w k t n a l c T)
  have HBD := Lib.hid (fun T m => (boxK_new w k t n a l c T).drewN m)
  have ht9 : t.size ≤ 9223372036854775807 := by unfold maxLen at ht; omega
  by_cases h0 : k < 0
  · have HN : Hid (v = false) := by
      unfold Hid; rw [← hv]; unfold node1
      rw [decide_eq_false (by unfold kidsK; rw [if_pos (.inl h0)]; omega)]; rfl
    have hd0 : decide (k < 0) = true := decide_eq_true h0
    clear hv hF
    go_enter Tryz.func139, Tryz.ntmps139
    go_wp2_with fail
    go_quiet (fail)
    go_wp2_with fail
    go_ret
    exact ⟨by rw [HN.out]; rfl, (HBD.out _ _).bel⟩
  · by_cases h19 : 19 ≤ k
    · have HN : Hid (v = false) := by
        unfold Hid; rw [← hv]; unfold node1
        rw [decide_eq_false (by unfold kidsK; rw [if_pos (.inr (by omega))]; omega)]; rfl
      have hd0 : decide (k < 0) = false := decide_eq_false h0
      have hd1 : decide (19 ≤ k) = true := decide_eq_true h19
      clear hv hF
      go_enter Tryz.func139, Tryz.ntmps139
      go_wp2_with fail
      go_quiet (fail)
      go_wp2_with fail
      go_ret
      exact ⟨by rw [HN.out]; rfl, (HBD.out _ _).bel⟩
    · obtain ⟨i, rfl⟩ : ∃ i : Nat, k = i := ⟨k.toNat, by omega⟩
      have hi : i < 19 := by omega
      have hd0 : decide ((i : Int) < 0) = false := decide_eq_false h0
      have hd1 : decide (19 ≤ (i : Int)) = false := decide_eq_false h19
      have hb0 : (0 : Int) ≤ (i : Int) := by omega
      have hb1 : (i : Int) < 19 := by omega
      have HG : Hid (∀ o, (w.alloc o).cell? ⟨1, i * 4, none⟩ = some (.int .i64 (kidsK i))) := fun o => by
        rw [← fm_kids i hi]
        exact ((hF.below ((Below.refl w.heap.size w).alloc (Nat.le_refl _) o) hF.1).2 i hi).1
      have hg := HG.out
      have hkk : ∃ m, kidsK (i : Int) = m := ⟨_, rfl⟩
      obtain ⟨m, hkk⟩ := hkk
      have HV := Lib.hid hv
      rw [hkk] at hg
      clear hF h0 h19 hv
      by_cases hlm : (l : Int) = m
      · have hne : ((l : Int) != m) = false := by simp; exact hlm
        by_cases k0 : i = 0
        · subst k0
          have HE : Hid (v = (nameB t.data.toList && decide (n = 0))) := by unfold Hid; rw [← HV.out]; unfold node1; rw [hkk, decide_eq_true hlm, if_pos (by omega), if_neg (by omega)]; rfl
          cases hnm : nameB t.data.toList with
          | false =>
            rw [hnm] at HE
            have HNM := Lib.hid hnm
            clear hnm HV
            have hn0 : ∃ q, (n == 0) = q ∧ decide (n = 0) = q := ⟨_, rfl, rfl⟩
            obtain ⟨q, hq1, hq2⟩ := hn0
            rw [hq2] at HE
            clear hq2
            have hg1 := hg (.cells #[.int .i64 (0 : Int), .string t, .int .i64 n, .slice a l c] 66)
            clear hg
            go_enter Tryz.func139, Tryz.ntmps139
            go_wp2_with fail
            go_quiet (fail)
            have BX := HBD.out 66 nq
            generalize World.drewN (w.alloc (.cells #[.int .i64 0, .string t, .int .i64 n, .slice a l c] 66)) nq = W1 at BX ⊢
            obtain ⟨hW1, c0, c1, c2, c3, bW1⟩ := BX
            clear hg1
            go_wp2_with (go_at_call 72; refine (implNameOk t _ _ HNM.out).mono ?_; rintro e w1 ⟨rfl, rfl⟩)
            go_ret
            exact ⟨by rw [HE.out]; rfl, bW1⟩
          | true =>
            rw [hnm] at HE
            have HNM := Lib.hid hnm
            clear hnm HV
            have hn0 : ∃ q, (n == 0) = q ∧ decide (n = 0) = q := ⟨_, rfl, rfl⟩
            obtain ⟨q, hq1, hq2⟩ := hn0
            rw [hq2] at HE
            clear hq2
            have hg1 := hg (.cells #[.int .i64 (0 : Int), .string t, .int .i64 n, .slice a l c] 66)
            clear hg
            go_enter Tryz.func139, Tryz.ntmps139
            go_wp2_with fail
            go_quiet (fail)
            have BX := HBD.out 66 nq
            generalize World.drewN (w.alloc (.cells #[.int .i64 0, .string t, .int .i64 n, .slice a l c] 66)) nq = W1 at BX ⊢
            obtain ⟨hW1, c0, c1, c2, c3, bW1⟩ := BX
            clear hg1
            go_wp2_with (go_at_call 72; refine (implNameOk t _ _ HNM.out).mono ?_; rintro e w1 ⟨rfl, rfl⟩)
            go_ret
            exact ⟨by rw [HE.out]; rfl, bW1⟩
        by_cases k1 : i = 1
        · subst k1
          have HE : Hid (v = (t.toList.isEmpty && (decide (0 ≤ n) && decide (n ≤ 999999999)))) := by unfold Hid; rw [← HV.out]; unfold node1; rw [hkk, decide_eq_true hlm, if_neg (by omega), if_neg (by omega), if_pos (by omega), Bool.decide_and]; rfl
          cases htx : t.toList.isEmpty with
          | false =>
            rw [htx] at HE
            clear HV
            have hg1 := hg (.cells #[.int .i64 (1 : Int), .string t, .int .i64 n, .slice a l c] 66)
            clear hg
            go_enter Tryz.func139, Tryz.ntmps139
            go_wp2_with fail
            go_quiet (fail)
            have BX := HBD.out 66 nq
            generalize World.drewN (w.alloc (.cells #[.int .i64 1, .string t, .int .i64 n, .slice a l c] 66)) nq = W1 at BX ⊢
            obtain ⟨hW1, c0, c1, c2, c3, bW1⟩ := BX
            clear hg1
            go_wp2_with fail
            go_ret
            exact ⟨by rw [HE.out]; rfl, bW1⟩
          | true =>
            rw [htx] at HE
            clear HV
            by_cases h1 : ¬ 0 ≤ n
            · rw [decide_eq_false h1] at HE
              have hg1 := hg (.cells #[.int .i64 (1 : Int), .string t, .int .i64 n, .slice a l c] 66)
              clear hg
              go_enter Tryz.func139, Tryz.ntmps139
              go_wp2_with fail
              go_quiet (fail)
              have BX := HBD.out 66 nq
              generalize World.drewN (w.alloc (.cells #[.int .i64 1, .string t, .int .i64 n, .slice a l c] 66)) nq = W1 at BX ⊢
              obtain ⟨hW1, c0, c1, c2, c3, bW1⟩ := BX
              clear hg1
              go_wp2_with fail
              go_ret
              exact ⟨by rw [HE.out]; rfl, bW1⟩
            · have h1 : 0 ≤ n := by omega
              rw [decide_eq_true h1] at HE
              have hg1 := hg (.cells #[.int .i64 (1 : Int), .string t, .int .i64 n, .slice a l c] 66)
              clear hg
              go_enter Tryz.func139, Tryz.ntmps139
              go_wp2_with fail
              go_quiet (fail)
              have BX := HBD.out 66 nq
              generalize World.drewN (w.alloc (.cells #[.int .i64 1, .string t, .int .i64 n, .slice a l c] 66)) nq = W1 at BX ⊢
              obtain ⟨hW1, c0, c1, c2, c3, bW1⟩ := BX
              clear hg1
              go_wp2_with fail
              go_ret
              exact ⟨by rw [HE.out]; rfl, bW1⟩
        by_cases k2 : i = 2
        · subst k2
          have HE : Hid (v = (decide (t.size ≤ 100) && decide (n = 0))) := by unfold Hid; rw [← HV.out]; unfold node1; rw [hkk, decide_eq_true hlm, if_neg (by omega), if_pos (by omega), if_neg (by omega)]; rfl
          have hn0 : ∃ q, (n == 0) = q ∧ decide (n = 0) = q := ⟨_, rfl, rfl⟩
          obtain ⟨q, hq1, hq2⟩ := hn0
          rw [hq2] at HE
          clear hq2
          by_cases htx : t.size ≤ 100
          · rw [decide_eq_true htx] at HE
            clear HV
            have hg1 := hg (.cells #[.int .i64 (2 : Int), .string t, .int .i64 n, .slice a l c] 66)
            clear hg
            go_enter Tryz.func139, Tryz.ntmps139
            go_wp2_with fail
            go_quiet (fail)
            have BX := HBD.out 66 nq
            generalize World.drewN (w.alloc (.cells #[.int .i64 2, .string t, .int .i64 n, .slice a l c] 66)) nq = W1 at BX ⊢
            obtain ⟨hW1, c0, c1, c2, c3, bW1⟩ := BX
            clear hg1
            go_wp2_with fail
            go_ret
            exact ⟨by rw [HE.out]; rfl, bW1⟩
          · rw [decide_eq_false htx] at HE
            clear HV
            have hg1 := hg (.cells #[.int .i64 (2 : Int), .string t, .int .i64 n, .slice a l c] 66)
            clear hg
            go_enter Tryz.func139, Tryz.ntmps139
            go_wp2_with fail
            go_quiet (fail)
            have BX := HBD.out 66 nq
            generalize World.drewN (w.alloc (.cells #[.int .i64 2, .string t, .int .i64 n, .slice a l c] 66)) nq = W1 at BX ⊢
            obtain ⟨hW1, c0, c1, c2, c3, bW1⟩ := BX
            clear hg1
            go_wp2_with fail
            go_ret
            exact ⟨by rw [HE.out]; rfl, bW1⟩
        have HE : Hid (v = (t.toList.isEmpty && decide (n = 0))) := by unfold Hid; rw [← HV.out]; unfold node1; rw [hkk, decide_eq_true hlm, if_neg (by omega), if_neg (by omega), if_neg (by omega)]; rfl
        have kb0 : ((i : Int) == 0) = false := by simp; omega
        have kb1 : ((i : Int) == 1) = false := by simp; omega
        have kb2 : ((i : Int) == 2) = false := by simp; omega
        have hn0 : ∃ q, (n == 0) = q ∧ decide (n = 0) = q := ⟨_, rfl, rfl⟩
        obtain ⟨q, hq1, hq2⟩ := hn0
        rw [hq2] at HE
        clear hq2 k0 k1 k2
        cases htx : t.toList.isEmpty with
        | false =>
          rw [htx] at HE
          clear HV
          have hg1 := hg (.cells #[.int .i64 (i : Int), .string t, .int .i64 n, .slice a l c] 66)
          clear hg
          go_enter Tryz.func139, Tryz.ntmps139
          go_wp2_with fail
          go_quiet (fail)
          have BX := HBD.out 66 nq
          generalize World.drewN (w.alloc (.cells #[.int .i64 (i : Int), .string t, .int .i64 n, .slice a l c] 66)) nq = W1 at BX ⊢
          obtain ⟨hW1, c0, c1, c2, c3, bW1⟩ := BX
          clear hg1
          go_wp2_with fail
          go_ret
          exact ⟨by rw [HE.out]; rfl, bW1⟩
        | true =>
          rw [htx] at HE
          clear HV
          have hg1 := hg (.cells #[.int .i64 (i : Int), .string t, .int .i64 n, .slice a l c] 66)
          clear hg
          go_enter Tryz.func139, Tryz.ntmps139
          go_wp2_with fail
          go_quiet (fail)
          have BX := HBD.out 66 nq
          generalize World.drewN (w.alloc (.cells #[.int .i64 (i : Int), .string t, .int .i64 n, .slice a l c] 66)) nq = W1 at BX ⊢
          obtain ⟨hW1, c0, c1, c2, c3, bW1⟩ := BX
          clear hg1
          go_wp2_with fail
          go_ret
          exact ⟨by rw [HE.out]; rfl, bW1⟩
      · have hne : ((l : Int) != m) = true := by simp; exact hlm
        have HE : Hid (v = false) := by unfold Hid; rw [← HV.out]; unfold node1; rw [hkk, decide_eq_false hlm]; rfl
        clear HV
        have hg1 := hg (.cells #[.int .i64 (i : Int), .string t, .int .i64 n, .slice a l c] 66)
        clear hg
        go_enter Tryz.func139, Tryz.ntmps139
        go_wp2_with fail
        go_quiet (fail)
        have BX := HBD.out 66 nq
        generalize World.drewN (w.alloc (.cells #[.int .i64 (i : Int), .string t, .int .i64 n, .slice a l c] 66)) nq = W1 at BX ⊢
        obtain ⟨hW1, c0, c1, c2, c3, bW1⟩ := BX
        clear hg1
        go_wp2_with fail
        go_ret
        exact ⟨by rw [HE.out]; rfl, bW1⟩

end Go.Proofs.YtpdcmmhhgnackaaGreatDoor

namespace Go.Proofs.YtpdcmmhhgnackaaGreatDoor
open Go.RowKit

/-- As KidsAt, and every block of the tree is one of q. -/
def KidsQ (q : Nat → Prop) (w : World) : Nat → Option Addr → Nat → List Ex → Prop
  | 0, _, _, _ => False
  | d + 1, a, c, kids => kids.length ≤ c ∧ c ≤ maxLen ∧ (a = none → c = 0) ∧
    (0 < kids.length → ∃ b off, a = some ⟨b, off, none⟩ ∧ q b ∧ b < w.heap.size ∧ ∀ (i : Nat) (h : i < kids.length), At1 w b (off + i * 4) kids[i] (fun a' c' => KidsQ q w d a' c' kids[i].kids))

theorem KidsQ.agree {q : Nat → Prop} {w w' : World} (hs : w.heap.size ≤ w'.heap.size) (hc : ∀ b, q b → b < w.heap.size → ∀ o, w'.cell? ⟨b, o, none⟩ = w.cell? ⟨b, o, none⟩) :
    ∀ {d : Nat} {a : Option Addr} {c : Nat} {kids : List Ex}, KidsQ q w d a c kids → KidsQ q w' d a c kids
  | 0, _, _, _, h => h
  | d + 1, a, c, kids, h => by
    obtain ⟨h1, h2, h3, h4⟩ := h
    refine ⟨h1, h2, h3, fun hp => ?_⟩
    obtain ⟨b, off, ha, hlo, hlt, hcs⟩ := h4 hp
    refine ⟨b, off, ha, hlo, Nat.lt_of_lt_of_le hlt hs, fun i hi => ?_⟩
    obtain ⟨c1, c2, c3, hf, a', c', c4, hk⟩ := hcs i hi
    have e := hc b hlo hlt
    exact ⟨(e _).trans c1, (e _).trans c2, (e _).trans c3, hf, a', c', (e _).trans c4, KidsQ.agree hs hc hk⟩

theorem KidsQ.imp {q q' : Nat → Prop} {w : World} (hq : ∀ b, q b → b < w.heap.size → q' b) : ∀ {d : Nat} {a : Option Addr} {c : Nat} {kids : List Ex}, KidsQ q w d a c kids → KidsQ q' w d a c kids
  | 0, _, _, _, h => h
  | d + 1, a, c, kids, h => by
    obtain ⟨h1, h2, h3, h4⟩ := h
    refine ⟨h1, h2, h3, fun hp => ?_⟩
    obtain ⟨b, off, ha, hlo, hlt, hcs⟩ := h4 hp
    exact ⟨b, off, ha, hq b hlo hlt, hlt, fun i hi => (hcs i hi).mono fun a' c' hk => KidsQ.imp hq hk⟩

theorem KidsAt.q {w : World} : ∀ {d : Nat} {a : Option Addr} {c : Nat} {kids : List Ex}, KidsAt w d a c kids → KidsQ (fun b => b < w.heap.size) w d a c kids
  | 0, _, _, _, h => h
  | d + 1, a, c, kids, h => by
    obtain ⟨h1, h2, h3, h4⟩ := h
    refine ⟨h1, h2, h3, fun hp => ?_⟩
    obtain ⟨b, off, ha, hlt, hcs⟩ := h4 hp
    exact ⟨b, off, ha, hlt, hlt, fun i hi => (hcs i hi).mono fun a' c' hk => hk.q⟩

theorem KidsQ.at {q : Nat → Prop} {w : World} : ∀ {d : Nat} {a : Option Addr} {c : Nat} {kids : List Ex}, KidsQ q w d a c kids → KidsAt w d a c kids
  | 0, _, _, _, h => h
  | d + 1, a, c, kids, h => by
    obtain ⟨h1, h2, h3, h4⟩ := h
    refine ⟨h1, h2, h3, fun hp => ?_⟩
    obtain ⟨b, off, ha, _, hlt, hcs⟩ := h4 hp
    exact ⟨b, off, ha, hlt, fun i hi => (hcs i hi).mono fun a' c' hk => hk.at⟩

theorem KidsQ.spot {q : Nat → Prop} {w : World} {d : Nat} {a : Option Addr} {c : Nat} {kids : List Ex} (h : KidsQ q w (d + 1) a c kids) {i : Nat} (hi : i < kids.length) :
    ∃ b off, a = some ⟨b, off, none⟩ ∧ q b ∧ b < w.heap.size ∧ At1 w b (off + i * 4) kids[i] (fun a' c' => KidsQ q w d a' c' kids[i].kids) := by
  obtain ⟨_, _, _, h4⟩ := h
  obtain ⟨b, off, ha, hq, hlt, hc⟩ := h4 (by omega)
  exact ⟨b, off, ha, hq, hlt, hc i hi⟩

mutual
/-- Every node is right. -/
def Ex.all (chk : Ex → Bool) : Ex → Bool
  | .mk k t n kids => chk (.mk k t n kids) && allL chk kids
def allL (chk : Ex → Bool) : List Ex → Bool
  | [] => true
  | e :: r => e.all chk && allL chk r
end

theorem Ex.all_eq (chk : Ex → Bool) (e : Ex) : e.all chk = (chk e && allL chk e.kids) := by
  cases e; rw [Ex.all]; rfl

theorem allL_drop (chk : Ex → Bool) (l : List Ex) (k : Nat) (h : k < l.length) : allL chk (l.drop k) = (l[k].all chk && allL chk (l.drop (k + 1))) := by
  rw [List.drop_eq_getElem_cons h, allL]

theorem nodesL_drop (l : List Ex) (k : Nat) (h : k < l.length) : nodesL (l.drop k) = l[k].nodes + nodesL (l.drop (k + 1)) := by
  rw [List.drop_eq_getElem_cons h, nodesL]

/-- A list of kids that waits. -/
structure Pd where
  a : Option Addr
  c : Nat
  kids : List Ex

def Pd.v (p : Pd) : Value := .slice p.a p.kids.length p.c
def sumP (ps : List Pd) : Nat := (ps.map fun p => nodesL p.kids).sum
def allP (chk : Ex → Bool) (ps : List Pd) : Bool := ps.all fun p => allL chk p.kids

theorem sumP_snoc (ps : List Pd) (p : Pd) : sumP (ps ++ [p]) = sumP ps + nodesL p.kids := by simp [sumP]
theorem allP_snoc (chk : Ex → Bool) (ps : List Pd) (p : Pd) : allP chk (ps ++ [p]) = (allP chk ps && allL chk p.kids) := by simp [allP]

theorem nodesL_len : (l : List Ex) → l.length ≤ nodesL l
  | [] => by simp [nodesL]
  | e :: r => by rw [nodesL, List.length_cons]; have := nodesL_len r; have := Ex.nodes_eq e; omega

theorem sumP_len (ps : List Pd) (h : ∀ p ∈ ps, 0 < p.kids.length) : ps.length ≤ sumP ps := by
  induction ps with
  | nil => simp
  | cons p r ih =>
    have h1 := h p (List.mem_cons_self ..)
    have h2 := nodesL_len p.kids
    have h3 := ih fun q hq => h q (List.mem_cons_of_mem _ hq)
    simp only [sumP, List.map_cons, List.sum_cons, List.length_cons] at h3 ⊢
    omega

def SeeX (good : Bool) (pc : List PanicEntry) : Ending := if good then .returned (.tuple #[]) else .panicked pc

/-- How a function sees one node: it counts in the cell of block wb, and panics with pv where the node is not right. -/
def Sees (J : World → Prop) (k wb : Nat) (chk : Ex → Bool) (lim : Nat) (pc : List PanicEntry) : Prop := ∀ (e : Ex) (a : Option Addr) (c d m : Nat) (w : World), J w → e.fit → KidsAt w d a c e.kids →
  w.cell? ⟨wb, 0, none⟩ = some (.int .i64 m) → w.frozen? ⟨wb, 0, none⟩ = false → m ≤ 1073741824 →
  Calls Tryz.prog k #[.pointer (some ⟨wb, 0, none⟩), .agg #[.int .i64 e.kind, .string e.text, .int .i64 e.num, .slice a e.kids.length c]] w fun x w' =>
    w.grownBy w' (some wb) ∧ w'.cell? ⟨wb, 0, none⟩ = some (.int .i64 (m + 1 : Nat)) ∧ w'.frozen? ⟨wb, 0, none⟩ = false ∧
    x = SeeX (chk e && decide (m + 1 ≤ lim)) pc

/-- What a walk over all nodes answers. -/
def EachP (w : World) (wb : Nat) (chk : Ex → Bool) (lim : Nat) (pc : List PanicEntry) (e : Ex) (m : Nat) (x : Ending) (w' : World) : Prop :=
  w.grownBy w' (some wb) ∧ x = SeeX (e.all chk && decide (m + e.nodes ≤ lim)) pc ∧ (e.all chk = true → m + e.nodes ≤ lim → w'.cell? ⟨wb, 0, none⟩ = some (.int .i64 (m + e.nodes : Nat)))

theorem Tryz.infoKidsS : (Tryz.prog.info? 30).map (fun i => (i.zero, i.size, i.bytes)) = some (some (.slice none 0 0), 1, 24) := by kernel_rfl

/-- Where the trees lie that the walk reads. -/
def InQ (w : World) (wb b : Nat) : Prop := b = w.heap.size + 1 ∨ (b < w.heap.size ∧ b ≠ wb)

/-- What waits, and what has been counted. -/
structure WInv (w : World) (wb : Nat) (ps : List Pd) (v : Value) (mm : Nat) (wr : World) : Prop where
  row : wr.ownsRow (w.heap.size + 2) 30 1 v ps.length (ps.map Pd.v)
  kids : ∀ p ∈ ps, 0 < p.kids.length ∧ ∃ d, KidsQ (InQ w wb) wr d p.a p.c p.kids
  grown : w.grownBy wr (some wb)
  size : w.heap.size + 2 < wr.heap.size
  lt : wb < w.heap.size
  cell : wr.cell? ⟨wb, 0, none⟩ = some (.int .i64 mm)
  frozen : wr.frozen? ⟨wb, 0, none⟩ = false

theorem cell_grown {w w' : World} {row : Option Nat} (hg : w.grownBy w' row) {b : Nat} (hb : b < w.heap.size) (hne : row ≠ some b) (o : Nat) : w'.cell? ⟨b, o, none⟩ = w.cell? ⟨b, o, none⟩ :=
  hg.cell_far ⟨b, o, none⟩ hb (fun h => hne h.symm)

theorem kids_grown {w wr w2 : World} {wb : Nat} {row : Option Nat} (hsz : w.heap.size + 2 < wr.heap.size) (hg : wr.grownBy w2 row) (hrow : ∀ b, row = some b → b = wb ∨ w.heap.size + 2 ≤ b) (hwb : wb < w.heap.size) {d : Nat} {a : Option Addr} {c : Nat} {kids : List Ex}
    (h : KidsQ (InQ w wb) wr d a c kids) : KidsQ (InQ w wb) w2 d a c kids := by
  refine h.agree hg.size fun b hq hb o => cell_grown hg hb ?_ o
  intro e
  rcases hrow b e with h1 | h1
  · rcases hq with h2 | h2 <;> omega
  · rcases hq with h2 | h2 <;> omega

theorem WInv.next {w wr w2 : World} {wb mm mm' : Nat} {ps : List Pd} {v : Value} {row : Option Nat} (h : WInv w wb ps v mm wr) (hg : wr.grownBy w2 row) (hrow : row = none ∨ row = some wb) (hc : w2.cell? ⟨wb, 0, none⟩ = some (.int .i64 mm')) (hz : w2.frozen? ⟨wb, 0, none⟩ = false) : WInv w wb ps v mm' w2 := by
  have hl := h.lt
  refine ⟨h.row.kept hg ?_, fun p hp => ⟨(h.kids p hp).1, ?_⟩, ?_, Nat.lt_of_lt_of_le h.size hg.size, h.lt, hc, hz⟩
  · cases ho : v.ownBlock with
    | none => exact .inl rfl
    | some g =>
      right
      have := (h.row.lt g ho).1
      rcases hrow with rfl | rfl
      · simp
      · intro e; cases e; omega
  · obtain ⟨d, hk⟩ := (h.kids p hp).2
    exact ⟨d, kids_grown h.size hg (by rintro b rfl; rcases hrow with h1 | h1 <;> cases h1; exact .inl rfl) h.lt hk⟩
  · exact h.grown.andThen hg (by rintro j rfl; rcases hrow with h1 | h1 <;> cases h1; exact .inr rfl)

theorem WInv.alloc {w wr : World} {wb mm : Nat} {ps : List Pd} {v : Value} (h : WInv w wb ps v mm wr) (o : Obj) : WInv w wb ps v mm (wr.alloc o) := by
  have hlt : wb < wr.heap.size := Nat.lt_of_lt_of_le h.lt h.grown.size
  have hb : Below wr.heap.size wr (wr.alloc o) := (Below.refl _ _).alloc (Nat.le_refl _) o
  have hg : wr.grownBy (wr.alloc o) none := ⟨hb.os, hb.tape, hb.output, hb.size, fun k hk _ => hb.block k hk⟩
  exact h.next hg (.inl rfl) ((hg.cell_far ⟨wb, 0, none⟩ hlt (by simp)).trans h.cell) ((hg.frozen_far ⟨wb, 0, none⟩ hlt (by simp)).trans h.frozen)

theorem WInv.push {w wr w2 : World} {wb mm : Nat} {ps : List Pd} {v v' : Value} (h : WInv w wb ps v mm wr) (p : Pd) (hp : 0 < p.kids.length) {d : Nat} (hk : KidsQ (InQ w wb) wr d p.a p.c p.kids)
    (hrow : w2.ownsRow (w.heap.size + 2) 30 1 v' (ps.length + 1) (ps.map Pd.v ++ [p.v])) (hg : wr.grownBy w2 v.ownBlock) : WInv w wb (ps ++ [p]) v' mm w2 := by
  have hl := h.lt
  have hlt : wb < wr.heap.size := Nat.lt_of_lt_of_le h.lt h.grown.size
  have hown : ∀ b, v.ownBlock = some b → w.heap.size + 2 ≤ b := fun b hb => (h.row.lt b hb).1
  have hne : some wb ≠ v.ownBlock := fun e => by have := hown wb e.symm; omega
  refine ⟨by simpa using hrow, fun q hq => ?_, ?_, Nat.lt_of_lt_of_le h.size hg.size, h.lt, (hg.cell_far ⟨wb, 0, none⟩ hlt hne).trans h.cell, (hg.frozen_far ⟨wb, 0, none⟩ hlt hne).trans h.frozen⟩
  · rcases List.mem_append.1 hq with hq | hq
    · obtain ⟨d, hk⟩ := (h.kids q hq).2
      exact ⟨(h.kids q hq).1, d, kids_grown h.size hg (fun b hb => .inr (hown b hb)) h.lt hk⟩
    · rw [List.mem_singleton] at hq
      subst hq
      exact ⟨hp, d, kids_grown h.size hg (fun b hb => .inr (hown b hb)) h.lt hk⟩
  · exact h.grown.andThen hg fun j hj => .inl (by have := hown j hj; omega)

theorem WInv.form {w wr : World} {wb mm : Nat} {ps : List Pd} {v : Value} (h : WInv w wb ps v mm wr) : ∃ a c, v = .slice a ps.length c := by
  rcases h.row.2 with ⟨hv, hn⟩ | ⟨g, cap, cur, hv, _⟩
  · exact ⟨none, 0, by rw [hv, hn]⟩
  · exact ⟨_, _, hv⟩

theorem WInv.pop {w wr : World} {wb mm : Nat} {ps : List Pd} {p : Pd} {v : Value} (h : WInv w wb (ps ++ [p]) v mm wr) :
    ∃ g cap, v = .slice (some ⟨g, 0, none⟩) (ps.length + 1) cap ∧ ps.length + 1 ≤ cap ∧ cap ≤ maxLen ∧ wr.cell? ⟨g, ps.length, none⟩ = some p.v ∧ WInv w wb ps (.slice (some ⟨g, 0, none⟩) ps.length cap) mm wr ∧ 0 < p.kids.length ∧ ∃ d, KidsQ (InQ w wb) wr d p.a p.c p.kids := by
  obtain ⟨hp, hk⟩ := h.kids p (List.mem_append_right _ (List.mem_singleton.2 rfl))
  have hr := h.row
  rcases h.row.2 with ⟨_, hn⟩ | ⟨g, cap, cur, hv, hB, hg, hnc, hcm, hcs, ht⟩
  · simp at hn
  · subst hv
    refine ⟨g, cap, by simp, by simpa using hnc, hcm, ?_, ⟨?_, fun q hq => h.kids q (List.mem_append_left _ hq), h.grown, h.size, h.lt, h.cell, h.frozen⟩, hp, hk⟩
    · rw [hr.cellAt ps.length (by simp)]
      simp
    · refine ⟨by simp, .inr ⟨g, cap, cur, rfl, hB, hg, by simp at hnc; omega, hcm, hcs, ?_⟩⟩
      have := congrArg (List.take (ps.length * 1)) ht
      simpa [List.take_take, Nat.min_eq_left] using this

/-- One list put behind those that wait. -/
theorem wpPush {w wr : World} {wb mm : Nat} {ps : List Pd} {ops : Array Oper} {rest : List Oper} {o : Oper} {A : Act} {Q : Exit → Act → World → Prop} (hgd : o.guard = none) (s x : Operand)
    (ho : o.op = .call { callee := .builtin .append, args := #[s, x], argTypes := #[152, 152] }) (a0 : Option Addr) (c0 : Nat) (p : Pd) (d : Nat) (o1 : Obj)
    (hI : WInv w wb ps (.slice a0 ps.length c0) mm wr) (hp : 0 < p.kids.length) (hk : KidsQ (InQ w wb) wr d p.a p.c p.kids) (hn : ps.length + 1 ≤ 1073741824)
    (hs : A.eval s = .slice a0 ps.length c0) (hx : A.eval x = .slice (some ⟨wr.heap.size, 0, none⟩) 1 1) (ho1 : o1 = .cells #[.slice p.a p.kids.length p.c] 30)
    (h : ∀ a' c' w', Hid (WInv w wb (ps ++ [p]) (.slice a' (ps.length + 1) c') mm w' ∧ wr.grownBy w' (Value.slice a0 ps.length c0).ownBlock) → wpList Tryz.prog ops Q rest (A.put o.dst (.slice a' (ps.length + 1) c')) w') :
    wpList Tryz.prog ops Q (o :: rest) A (wr.alloc o1) := by
  subst ho1
  obtain ⟨i0, hi0, hz0, hz1, hz2⟩ := info_parts Tryz.infoKidsS
  have hI2 := hI.alloc (.cells #[.slice p.a p.kids.length p.c] 30)
  refine wpList_append_own_at _ hgd s x 152 ho (w.heap.size + 2) 30 i0 (.slice none 0 0) 1 24 Tryz.underlying152 hi0 hz0 hz1 hz2 rfl (by decide) (.slice a0 ps.length c0) ps.length (ps.map Pd.v) hs hI2.row
    ⟨wr.heap.size, 0, none⟩ 1 1 [p.v] hx rfl ?_ (fun u hu => by simp at hu; subst hu; rfl) (by unfold maxLen; omega) (by omega) (by have := hI2.size; omega) ?_
  · intro j u hu
    cases j with
    | zero => simp at hu; subst hu; simp [go_sem, Addr.add, Pd.v]
    | succ j => simp at hu
  · intro v' w' hown' hg _ _
    have hb : Below wr.heap.size wr (wr.alloc (.cells #[.slice p.a p.kids.length p.c] 30)) := (Below.refl _ _).alloc (Nat.le_refl _) _
    have hg0 : wr.grownBy (wr.alloc (.cells #[.slice p.a p.kids.length p.c] 30)) none := ⟨hb.os, hb.tape, hb.output, hb.size, fun k hk _ => hb.block k hk⟩
    have hk2 := kids_grown hI.size hg0 (by simp) hI.lt hk
    obtain ⟨a', c', rfl⟩ : ∃ a' c', v' = .slice a' (ps.length + 1) c' := by
      rcases hown'.2 with ⟨_, h0⟩ | ⟨g', cap, cur, rfl, _⟩
      · omega
      · exact ⟨_, _, rfl⟩
    exact h a' c' w' ⟨hI2.push p hp hk2 hown' hg, (hg0.but _).trans hg⟩

def cellN (wr : World) (wb : Nat) : Nat := match wr.cell? ⟨wb, 0, none⟩ with | some v => (intOf v).toNat | none => 0

theorem WInv.cellN {w wr : World} {wb mm : Nat} {ps : List Pd} {v : Value} (h : WInv w wb ps v mm wr) : cellN wr wb = mm := by
  unfold Go.Proofs.YtpdcmmhhgnackaaGreatDoor.cellN
  rw [h.cell]
  simp [intOf]

theorem WInv.start {w : World} {wb m : Nat} {e : Ex} {a : Option Addr} {c d : Nat} (hfit : e.fit) (hk : KidsQ (fun b => b ≠ wb) w d a c e.kids) (hwb : wb < w.heap.size) (hm : w.cell? ⟨wb, 0, none⟩ = some (.int .i64 m)) (hz : w.frozen? ⟨wb, 0, none⟩ = false) (o : Obj) {W : World}
    (hW : W = ((w.alloc o).alloc (.cells #[.int .i64 e.kind, .string e.text, .int .i64 e.num, .slice a e.kids.length c] 66)).alloc (.cells #[.slice (some ⟨w.heap.size + 1, 0, none⟩) 1 1] 30)) :
    WInv w wb [⟨some ⟨w.heap.size + 1, 0, none⟩, 1, [e]⟩] (.slice (some ⟨w.heap.size + 1 + 1, 0, none⟩) 1 1) m W := by
  have hb : Below w.heap.size w W := by
    subst hW
    exact (((Below.refl _ _).alloc (Nat.le_refl _) _).alloc (by simp) _).alloc (by simp; omega) _
  have hg : w.grownBy W none := ⟨hb.os, hb.tape, hb.output, hb.size, fun k hk _ => hb.block k hk⟩
  have hsz : W.heap.size = w.heap.size + 3 := by subst hW; simp
  refine ⟨?_, fun p hp => ?_, hg.but _, by omega, hwb, (hg.cell_far ⟨wb, 0, none⟩ hwb (by simp)).trans hm, (hg.frozen_far ⟨wb, 0, none⟩ hwb (by simp)).trans hz⟩
  · subst hW
    have := World.ownsRow_lit (base := w.heap.size + 2) (e := 30) (size := 1) ((w.alloc o).alloc (.cells #[.int .i64 e.kind, .string e.text, .int .i64 e.num, .slice a e.kids.length c] 66)) #[.slice (some ⟨w.heap.size + 1, 0, none⟩) 1 1] 1 (by simp) (by unfold maxLen; omega) rfl
    simpa [Pd.v] using this
  · rw [List.mem_singleton] at hp
    subst hp
    refine ⟨by simp, d + 1, by simp, by show 1 ≤ maxLen; unfold maxLen; omega, (fun h => by cases h), fun _ => ⟨w.heap.size + 1, 0, rfl, .inl rfl, by omega, fun i hi => ?_⟩⟩
    have : i = 0 := by simpa using hi
    subst this
    have hk' : KidsQ (InQ w wb) W d a c e.kids := (hk.imp (q' := InQ w wb) fun b h1 h2 => .inr ⟨h2, h1⟩).agree hb.size fun b _ h o => hb.cell (p := ⟨b, o, none⟩) h
    refine ⟨?_, ?_, ?_, hfit, a, c, ?_, hk'⟩ <;> subst hW <;> simp [go_sem]

end Go.Proofs.YtpdcmmhhgnackaaGreatDoor

namespace Go.Proofs.YtpdcmmhhgnackaaGreatDoor
open Go.RowKit

set_option maxHeartbeats 2000000 in
theorem eachCheck {wb : Nat} {chk : Ex → Bool} {lim : Nat} {pc : List PanicEntry} {J : World → Prop} (hsee : Sees J 117 wb chk lim pc) (e : Ex) (a : Option Addr) (c d m : Nat) (w : World) (hJ : ∀ w', w.grownBy w' (some wb) → J w') (hfit : e.fit) (hk : KidsQ (fun b => b ≠ wb) w d a c e.kids)
    (hwb : wb < w.heap.size) (hm : w.cell? ⟨wb, 0, none⟩ = some (.int .i64 m)) (hz : w.frozen? ⟨wb, 0, none⟩ = false) (hn : m + e.nodes ≤ 1073741824) :
    Calls Tryz.prog 116 #[.agg #[.int .i64 e.kind, .string e.text, .int .i64 e.num, .slice a e.kids.length c], .func (.func 117) #[.pointer (some ⟨wb, 0, none⟩)] #[]] w (EachP w wb chk lim pc e m) := by
  obtain ⟨i0, hi0, hz0, hz1, hz2⟩ := info_parts Tryz.infoKidsS
  have HST := Lib.hid (WInv.start hfit hk hwb hm hz)
  clear hk hfit hm hz
  go_enter Tryz.func116, Tryz.ntmps116
  go_wp2_with fail
  go_loopw [4] (fun v wr => ∃ ps mm, WInv w wb ps v mm wr ∧ mm + sumP ps = m + e.nodes ∧ e.all chk = allP chk ps ∧ (m < mm → mm ≤ lim)) (fun _ wr => m + e.nodes - cellN wr wb)
  case atStart => exact ⟨_, m, HST.out _ rfl, by simp [sumP, nodesL], by simp [allP, allL], fun h => absurd h (Nat.lt_irrefl _)⟩
  case round =>
    obtain ⟨ps, mm, hI, hsum, hall, hlim⟩ := hrel
    rcases List.eq_nil_or_concat ps with rfl | ⟨qs, ⟨pa, pcp, pk⟩, rfl⟩
    · obtain ⟨a0, c0, rfl⟩ := hI.form
      have HI := Lib.hid hI
      have HS := Lib.hid hsum
      have HA := Lib.hid hall
      clear hI hsum hall
      go_wp2_with fail
      refine bodyPost_end (results_none rfl _ _ _) rfl ?_
      have hmm : mm = m + e.nodes := by have := HS.out; simpa [sumP] using this
      subst hmm
      have hall : e.all chk = true := by rw [HA.out]; rfl
      have hnp := Ex.nodes_eq e
      have hle := hlim (by omega)
      exact ⟨HI.out.grown, by rw [hall, decide_eq_true hle]; rfl, fun _ _ => HI.out.cell⟩
    · obtain ⟨g, cap, rfl, hcap, hcapm, hcell, hI2, hpk, d2, hk2⟩ := WInv.pop (by simpa using hI)
      unfold Pd.v at hcell
      simp only at hcell hpk hk2
      unfold maxLen at hcapm
      have HI := Lib.hid hI2
      have HK2 := Lib.hid hk2
      rw [List.concat_eq_append, sumP_snoc] at hsum
      rw [List.concat_eq_append, allP_snoc] at hall
      have HS := Lib.hid hsum
      have HA := Lib.hid hall
      clear hI hI2 hk2 hsum hall
      go_wp2_with fail
      go_loopw [4, 27] (fun v i wr => ∃ (ps : List Pd) (k : Nat), i = .int .i64 k ∧ k ≤ pk.length ∧ WInv w wb ps v (mm + k) wr ∧ KidsQ (InQ w wb) wr d2 pa pcp pk ∧ mm + k + sumP ps + nodesL (pk.drop k) = m + e.nodes ∧ e.all chk = (allP chk ps && allL chk (pk.drop k)) ∧ (m < mm + k → mm + k ≤ lim)) (fun _ i _ => pk.length - (intOf i).toNat)
      case atStart => exact ⟨qs, 0, rfl, Nat.zero_le _, HI.out, HK2.out, by have := HS.out; simp only [List.drop_zero] at this ⊢; omega, HA.out, hlim⟩
      case round =>
        obtain ⟨ps, k, rfl, hk, hI3, hk3, hsum3, hall3, hlim3⟩ := hrel
        obtain ⟨a0, c0, rfl⟩ := hI3.form
        by_cases hlt : k < pk.length
        · obtain ⟨d3, rfl⟩ : ∃ q, d2 = q + 1 := ⟨d2 - 1, by cases d2 with | zero => exact hk3.elim | succ n => omega⟩
          obtain ⟨b, off, rfl, hq, hbl, hc0, hc1, hc2, hfit, a', c', hc3, hkid⟩ := hk3.spot hlt
          have hxl := hkid.at.len
          have hmb : mm + k ≤ 1073741824 := by omega
          have HI3 := Lib.hid hI3
          have HK3 := Lib.hid hk3
          have HX := Lib.hid hkid
          have HS3 := Lib.hid hsum3
          have HA3 := Lib.hid hall3
          have hsz3 := hI3.size
          clear hI3 hsum3 hall3 hk3 hkid
          go_wp2_with fail
          refine (hsee pk[k] a' c' d3 (mm + k) _ (hJ _ (HI3.out.alloc _).grown) hfit ((HX.out.at.below ((Below.refl _ _).alloc (Nat.le_refl _) _))) (HI3.out.alloc _).cell (HI3.out.alloc _).frozen hmb).mono ?_
          rintro x w2 ⟨hg2, hc, hz, rfl⟩
          have hI4 := (HI3.out.alloc _).next hg2 (.inr rfl) hc hz
          have hbox : w2.cell? ⟨wr.heap.size, 3, none⟩ = some (.slice a' pk[k].kids.length c') := hg2.cell (a := ⟨wr.heap.size, 3, none⟩) (by simp [go_sem]) (by intro h; have h' := Option.some.inj h; simp only at h'; omega)
          have hkeep : KidsQ (InQ w wb) w2 (d3 + 1) (some ⟨b, off, none⟩) pcp pk ∧ KidsQ (InQ w wb) w2 d3 a' c' pk[k].kids := by
            have hb1 := (Below.refl wr.heap.size wr).alloc (Nat.le_refl _) (.cells #[.int .i64 pk[k].kind, .string pk[k].text, .int .i64 pk[k].num, .slice a' pk[k].kids.length c'] 66)
            have hg1 : wr.grownBy _ none := ⟨hb1.os, hb1.tape, hb1.output, hb1.size, fun k hk _ => hb1.block k hk⟩
            have hI5 := HI3.out.alloc (.cells #[.int .i64 pk[k].kind, .string pk[k].text, .int .i64 pk[k].num, .slice a' pk[k].kids.length c'] 66)
            exact ⟨kids_grown hI5.size hg2 (by rintro b h; cases h; exact .inl rfl) hI5.lt (kids_grown HI3.out.size hg1 (by simp) HI3.out.lt HK3.out), kids_grown hI5.size hg2 (by rintro b h; cases h; exact .inl rfl) hI5.lt (kids_grown HI3.out.size hg1 (by simp) HI3.out.lt HX.out)⟩
          have HI4 := Lib.hid hI4
          have HKP := Lib.hid hkeep
          have HDN := Lib.hid (nodesL_drop pk k hlt)
          have HDA := Lib.hid (allL_drop chk pk k hlt)
          have HNE := Lib.hid (Ex.nodes_eq pk[k])
          have HAE := Lib.hid (Ex.all_eq chk pk[k])
          have hsz4 := hI4.size
          clear hI4 hkeep hg2 hc0 hc1 hc2 hc3
          cases hgd : (chk pk[k] && decide (mm + k + 1 ≤ lim)) with
          | false =>
            have HG := Lib.hid hgd
            clear hgd
            simp only [SeeX, Bool.false_eq_true, if_false]
            have HF : Hid ((e.all chk && decide (m + e.nodes ≤ lim)) = false) := by
              have h1 := HG.out; have h2 := HA3.out; have h3 := HDA.out; have h4 := HAE.out; have h5 := HS3.out; have h6 := HDN.out; have h7 := HNE.out
              unfold Hid
              rw [h2, h3, h4]
              rw [Bool.and_eq_false_iff] at h1
              rcases h1 with h1 | h1
              · simp [h1]
              · have : decide (m + e.nodes ≤ lim) = false := by simp at h1 ⊢; omega
                rw [this]; simp
            go_wp2_with fail
            refine ⟨rfl, HI4.out.grown, by rw [HF.out]; rfl, fun h1 h2 => ?_⟩
            have := HF.out
            rw [h1, decide_eq_true h2] at this
            cases this
          | true =>
            have HG := Lib.hid hgd
            clear hgd
            have hle : mm + k + 1 ≤ lim := by have := HG.out; simp at this; exact this.2
            have hck : chk pk[k] = true := by have := HG.out; simp at this; exact this.1
            simp only [SeeX, if_true]
            have hpl : ps.length + 1 ≤ 1073741824 := by
              have h5 := HS3.out; have h6 := HDN.out; have h7 := HNE.out
              have h8 := sumP_len ps (fun p hp => (HI4.out.kids p hp).1)
              omega
            have HE : Hid (mm + (k + 1) + (sumP ps + nodesL pk[k].kids) + nodesL (pk.drop (k + 1)) = m + e.nodes ∧ e.all chk = (allP chk ps && allL chk pk[k].kids && allL chk (pk.drop (k + 1)))) := by
              have h2 := HA3.out; have h3 := HDA.out; have h4 := HAE.out; have h5 := HS3.out; have h6 := HDN.out; have h7 := HNE.out
              refine ⟨by omega, ?_⟩
              rw [h2, h3, h4, hck]
              simp [Bool.and_assoc]
            by_cases hpos : 0 < pk[k].kids.length
            · go_wp2_with (at_builtin; refine wpPush rfl (.tmp 38) (.tmp 41) rfl a0 c0 ⟨a', c', pk[k].kids⟩ d3 _ HI4.out hpos HKP.out.2 hpl rfl rfl rfl ?_; intro a6 c6 w6 HI6)
              go_roundw
              case rel =>
                refine ⟨ps ++ [⟨a', c', pk[k].kids⟩], k + 1, by go_num, by omega, ?_, ?_, ?_, ?_, by omega⟩
                · exact HI6.out.1
                · exact kids_grown HI4.out.size HI6.out.2 (fun b hb => .inr (HI4.out.row.lt b hb).1) HI4.out.lt HKP.out.1
                · rw [sumP_snoc]; exact HE.out.1
                · rw [allP_snoc]; exact HE.out.2
              case measure => simp [intOf]; omega
            · have h0 : pk[k].kids = [] := List.eq_nil_of_length_eq_zero (by omega)
              have hl0 : pk[k].kids.length = 0 := by rw [h0]; rfl
              go_wp2_with fail
              go_roundw
              case rel =>
                refine ⟨ps, k + 1, by go_num, by omega, HI4.out, HKP.out.1, ?_, ?_, by omega⟩
                · have := HE.out.1; rw [h0] at this; simpa [nodesL] using this
                · have := HE.out.2; rw [h0] at this; simpa [allL] using this
              case measure => simp [intOf]; omega
        · obtain rfl : k = pk.length := by omega
          have HI3 := Lib.hid hI3
          have HS3 := Lib.hid hsum3
          have HA3 := Lib.hid hall3
          clear hI3 hsum3 hall3 hk3
          go_wp2_with fail
          go_roundw
          case rel => exact ⟨ps, mm + pk.length, HI3.out, by have := HS3.out; simpa [nodesL] using this, by have := HA3.out; simpa [allL] using this, hlim3⟩
          case measure =>
            have h1 := HI3.out.cellN
            have h2 := HI.out.cellN
            have h3 := HS3.out
            rw [h1, h2]
            omega

end Go.Proofs.YtpdcmmhhgnackaaGreatDoor

namespace Go.Proofs.YtpdcmmhhgnackaaGreatDoor
open Go.RowKit

set_option maxHeartbeats 2000000 in
theorem eachCount {wb : Nat} {chk : Ex → Bool} {lim : Nat} {pc : List PanicEntry} {J : World → Prop} (hsee : Sees J 138 wb chk lim pc) (e : Ex) (a : Option Addr) (c d m : Nat) (w : World) (hJ : ∀ w', w.grownBy w' (some wb) → J w') (hfit : e.fit) (hk : KidsQ (fun b => b ≠ wb) w d a c e.kids)
    (hwb : wb < w.heap.size) (hm : w.cell? ⟨wb, 0, none⟩ = some (.int .i64 m)) (hz : w.frozen? ⟨wb, 0, none⟩ = false) (hn : m + e.nodes ≤ 1073741824) :
    Calls Tryz.prog 116 #[.agg #[.int .i64 e.kind, .string e.text, .int .i64 e.num, .slice a e.kids.length c], .func (.func 138) #[.pointer (some ⟨wb, 0, none⟩)] #[]] w (EachP w wb chk lim pc e m) := by
  obtain ⟨i0, hi0, hz0, hz1, hz2⟩ := info_parts Tryz.infoKidsS
  have HST := Lib.hid (WInv.start hfit hk hwb hm hz)
  clear hk hfit hm hz
  go_enter Tryz.func116, Tryz.ntmps116
  go_wp2_with fail
  go_loopw [4] (fun v wr => ∃ ps mm, WInv w wb ps v mm wr ∧ mm + sumP ps = m + e.nodes ∧ e.all chk = allP chk ps ∧ (m < mm → mm ≤ lim)) (fun _ wr => m + e.nodes - cellN wr wb)
  case atStart => exact ⟨_, m, HST.out _ rfl, by simp [sumP, nodesL], by simp [allP, allL], fun h => absurd h (Nat.lt_irrefl _)⟩
  case round =>
    obtain ⟨ps, mm, hI, hsum, hall, hlim⟩ := hrel
    rcases List.eq_nil_or_concat ps with rfl | ⟨qs, ⟨pa, pcp, pk⟩, rfl⟩
    · obtain ⟨a0, c0, rfl⟩ := hI.form
      have HI := Lib.hid hI
      have HS := Lib.hid hsum
      have HA := Lib.hid hall
      clear hI hsum hall
      go_wp2_with fail
      refine bodyPost_end (results_none rfl _ _ _) rfl ?_
      have hmm : mm = m + e.nodes := by have := HS.out; simpa [sumP] using this
      subst hmm
      have hall : e.all chk = true := by rw [HA.out]; rfl
      have hnp := Ex.nodes_eq e
      have hle := hlim (by omega)
      exact ⟨HI.out.grown, by rw [hall, decide_eq_true hle]; rfl, fun _ _ => HI.out.cell⟩
    · obtain ⟨g, cap, rfl, hcap, hcapm, hcell, hI2, hpk, d2, hk2⟩ := WInv.pop (by simpa using hI)
      unfold Pd.v at hcell
      simp only at hcell hpk hk2
      unfold maxLen at hcapm
      have HI := Lib.hid hI2
      have HK2 := Lib.hid hk2
      rw [List.concat_eq_append, sumP_snoc] at hsum
      rw [List.concat_eq_append, allP_snoc] at hall
      have HS := Lib.hid hsum
      have HA := Lib.hid hall
      clear hI hI2 hk2 hsum hall
      go_wp2_with fail
      go_loopw [4, 27] (fun v i wr => ∃ (ps : List Pd) (k : Nat), i = .int .i64 k ∧ k ≤ pk.length ∧ WInv w wb ps v (mm + k) wr ∧ KidsQ (InQ w wb) wr d2 pa pcp pk ∧ mm + k + sumP ps + nodesL (pk.drop k) = m + e.nodes ∧ e.all chk = (allP chk ps && allL chk (pk.drop k)) ∧ (m < mm + k → mm + k ≤ lim)) (fun _ i _ => pk.length - (intOf i).toNat)
      case atStart => exact ⟨qs, 0, rfl, Nat.zero_le _, HI.out, HK2.out, by have := HS.out; simp only [List.drop_zero] at this ⊢; omega, HA.out, hlim⟩
      case round =>
        obtain ⟨ps, k, rfl, hk, hI3, hk3, hsum3, hall3, hlim3⟩ := hrel
        obtain ⟨a0, c0, rfl⟩ := hI3.form
        by_cases hlt : k < pk.length
        · obtain ⟨d3, rfl⟩ : ∃ q, d2 = q + 1 := ⟨d2 - 1, by cases d2 with | zero => exact hk3.elim | succ n => omega⟩
          obtain ⟨b, off, rfl, hq, hbl, hc0, hc1, hc2, hfit, a', c', hc3, hkid⟩ := hk3.spot hlt
          have hxl := hkid.at.len
          have hmb : mm + k ≤ 1073741824 := by omega
          have HI3 := Lib.hid hI3
          have HK3 := Lib.hid hk3
          have HX := Lib.hid hkid
          have HS3 := Lib.hid hsum3
          have HA3 := Lib.hid hall3
          have hsz3 := hI3.size
          clear hI3 hsum3 hall3 hk3 hkid
          go_wp2_with fail
          refine (hsee pk[k] a' c' d3 (mm + k) _ (hJ _ (HI3.out.alloc _).grown) hfit ((HX.out.at.below ((Below.refl _ _).alloc (Nat.le_refl _) _))) (HI3.out.alloc _).cell (HI3.out.alloc _).frozen hmb).mono ?_
          rintro x w2 ⟨hg2, hc, hz, rfl⟩
          have hI4 := (HI3.out.alloc _).next hg2 (.inr rfl) hc hz
          have hbox : w2.cell? ⟨wr.heap.size, 3, none⟩ = some (.slice a' pk[k].kids.length c') := hg2.cell (a := ⟨wr.heap.size, 3, none⟩) (by simp [go_sem]) (by intro h; have h' := Option.some.inj h; simp only at h'; omega)
          have hkeep : KidsQ (InQ w wb) w2 (d3 + 1) (some ⟨b, off, none⟩) pcp pk ∧ KidsQ (InQ w wb) w2 d3 a' c' pk[k].kids := by
            have hb1 := (Below.refl wr.heap.size wr).alloc (Nat.le_refl _) (.cells #[.int .i64 pk[k].kind, .string pk[k].text, .int .i64 pk[k].num, .slice a' pk[k].kids.length c'] 66)
            have hg1 : wr.grownBy _ none := ⟨hb1.os, hb1.tape, hb1.output, hb1.size, fun k hk _ => hb1.block k hk⟩
            have hI5 := HI3.out.alloc (.cells #[.int .i64 pk[k].kind, .string pk[k].text, .int .i64 pk[k].num, .slice a' pk[k].kids.length c'] 66)
            exact ⟨kids_grown hI5.size hg2 (by rintro b h; cases h; exact .inl rfl) hI5.lt (kids_grown HI3.out.size hg1 (by simp) HI3.out.lt HK3.out), kids_grown hI5.size hg2 (by rintro b h; cases h; exact .inl rfl) hI5.lt (kids_grown HI3.out.size hg1 (by simp) HI3.out.lt HX.out)⟩
          have HI4 := Lib.hid hI4
          have HKP := Lib.hid hkeep
          have HDN := Lib.hid (nodesL_drop pk k hlt)
          have HDA := Lib.hid (allL_drop chk pk k hlt)
          have HNE := Lib.hid (Ex.nodes_eq pk[k])
          have HAE := Lib.hid (Ex.all_eq chk pk[k])
          have hsz4 := hI4.size
          clear hI4 hkeep hg2 hc0 hc1 hc2 hc3
          cases hgd : (chk pk[k] && decide (mm + k + 1 ≤ lim)) with
          | false =>
            have HG := Lib.hid hgd
            clear hgd
            simp only [SeeX, Bool.false_eq_true, if_false]
            have HF : Hid ((e.all chk && decide (m + e.nodes ≤ lim)) = false) := by
              have h1 := HG.out; have h2 := HA3.out; have h3 := HDA.out; have h4 := HAE.out; have h5 := HS3.out; have h6 := HDN.out; have h7 := HNE.out
              unfold Hid
              rw [h2, h3, h4]
              rw [Bool.and_eq_false_iff] at h1
              rcases h1 with h1 | h1
              · simp [h1]
              · have : decide (m + e.nodes ≤ lim) = false := by simp at h1 ⊢; omega
                rw [this]; simp
            go_wp2_with fail
            refine ⟨rfl, HI4.out.grown, by rw [HF.out]; rfl, fun h1 h2 => ?_⟩
            have := HF.out
            rw [h1, decide_eq_true h2] at this
            cases this
          | true =>
            have HG := Lib.hid hgd
            clear hgd
            have hle : mm + k + 1 ≤ lim := by have := HG.out; simp at this; exact this.2
            have hck : chk pk[k] = true := by have := HG.out; simp at this; exact this.1
            simp only [SeeX, if_true]
            have hpl : ps.length + 1 ≤ 1073741824 := by
              have h5 := HS3.out; have h6 := HDN.out; have h7 := HNE.out
              have h8 := sumP_len ps (fun p hp => (HI4.out.kids p hp).1)
              omega
            have HE : Hid (mm + (k + 1) + (sumP ps + nodesL pk[k].kids) + nodesL (pk.drop (k + 1)) = m + e.nodes ∧ e.all chk = (allP chk ps && allL chk pk[k].kids && allL chk (pk.drop (k + 1)))) := by
              have h2 := HA3.out; have h3 := HDA.out; have h4 := HAE.out; have h5 := HS3.out; have h6 := HDN.out; have h7 := HNE.out
              refine ⟨by omega, ?_⟩
              rw [h2, h3, h4, hck]
              simp [Bool.and_assoc]
            by_cases hpos : 0 < pk[k].kids.length
            · go_wp2_with (at_builtin; refine wpPush rfl (.tmp 38) (.tmp 41) rfl a0 c0 ⟨a', c', pk[k].kids⟩ d3 _ HI4.out hpos HKP.out.2 hpl rfl rfl rfl ?_; intro a6 c6 w6 HI6)
              go_roundw
              case rel =>
                refine ⟨ps ++ [⟨a', c', pk[k].kids⟩], k + 1, by go_num, by omega, ?_, ?_, ?_, ?_, by omega⟩
                · exact HI6.out.1
                · exact kids_grown HI4.out.size HI6.out.2 (fun b hb => .inr (HI4.out.row.lt b hb).1) HI4.out.lt HKP.out.1
                · rw [sumP_snoc]; exact HE.out.1
                · rw [allP_snoc]; exact HE.out.2
              case measure => simp [intOf]; omega
            · have h0 : pk[k].kids = [] := List.eq_nil_of_length_eq_zero (by omega)
              have hl0 : pk[k].kids.length = 0 := by rw [h0]; rfl
              go_wp2_with fail
              go_roundw
              case rel =>
                refine ⟨ps, k + 1, by go_num, by omega, HI4.out, HKP.out.1, ?_, ?_, by omega⟩
                · have := HE.out.1; rw [h0] at this; simpa [nodesL] using this
                · have := HE.out.2; rw [h0] at this; simpa [allL] using this
              case measure => simp [intOf]; omega
        · obtain rfl : k = pk.length := by omega
          have HI3 := Lib.hid hI3
          have HS3 := Lib.hid hsum3
          have HA3 := Lib.hid hall3
          clear hI3 hsum3 hall3 hk3
          go_wp2_with fail
          go_roundw
          case rel => exact ⟨ps, mm + pk.length, HI3.out, by have := HS3.out; simpa [nodesL] using this, by have := HA3.out; simpa [allL] using this, hlim3⟩
          case measure =>
            have h1 := HI3.out.cellN
            have h2 := HI.out.cellN
            have h3 := HS3.out
            rw [h1, h2]
            omega

end Go.Proofs.YtpdcmmhhgnackaaGreatDoor

namespace Go.Proofs.YtpdcmmhhgnackaaGreatDoor
open Go.RowKit

theorem grownBy_alloc (w : World) (o : Obj) (row : Option Nat) : w.grownBy (w.alloc o) row := by
  have hb : Below w.heap.size w (w.alloc o) := (Below.refl _ _).alloc (Nat.le_refl _) o
  exact ⟨hb.os, hb.tape, hb.output, hb.size, fun k hk _ => hb.block k hk⟩

theorem setCell_grown (w : World) (b o : Nat) (v : Value) : w.grownBy (w.setCell ⟨b, o, none⟩ v) (some b) := by
  refine ⟨rfl, rfl, rfl, by simp, fun k hk hne => ?_⟩
  exact World.heap_setCells_other w b o [v] hk (fun h => hne (by rw [h]))

/-- What the count turns. -/
theorem count_grown {w : World} {wb m : Nat} (hc : w.cell? ⟨wb, 0, none⟩ = some (.int .i64 m)) (hz : w.frozen? ⟨wb, 0, none⟩ = false) (o : Obj) {v : Value} (hv : v = .int .i64 (m + 1 : Nat)) {w' : World} (hw : w' = (w.setCell ⟨wb, 0, none⟩ v).alloc o) :
    w.grownBy w' (some wb) ∧ w'.cell? ⟨wb, 0, none⟩ = some (.int .i64 (m + 1 : Nat)) ∧ w'.frozen? ⟨wb, 0, none⟩ = false := by
  subst hv hw
  have hlt := World.block_lt_of_cell? w ⟨wb, 0, none⟩ hc
  have hg1 := setCell_grown w wb 0 (.int .i64 (m + 1 : Nat))
  have hg2 := grownBy_alloc (w.setCell ⟨wb, 0, none⟩ (.int .i64 (m + 1 : Nat))) o none
  have hlt2 : wb < (w.setCell ⟨wb, 0, none⟩ (.int .i64 (m + 1 : Nat))).heap.size := by simpa using hlt
  exact ⟨hg1.trans (hg2.but _), (hg2.cell_far ⟨wb, 0, none⟩ hlt2 (by simp)).trans (World.cell?_setCell_same _ _ _ hc), (hg2.frozen_far ⟨wb, 0, none⟩ hlt2 (by simp)).trans (by rw [World.frozen?_setCell]; exact hz)⟩

set_option maxHeartbeats 1000000 in
theorem countSees (wb : Nat) : Sees (fun _ => True) 138 wb (fun _ => true) 1073741825 [] := by
  intro e a c d m w _ hfit hk hc hz hm
  have hlt := World.block_lt_of_cell? w ⟨wb, 0, none⟩ hc
  have H := Lib.hid (count_grown hc hz)
  clear hk hfit
  go_enter Tryz.func138, Tryz.ntmps138
  go_wp2_with fail
  refine bodyPost_end (results_none rfl _ _ _) rfl ?_
  obtain ⟨h1, h2, h3⟩ := H.out _ (by go_num) rfl
  exact ⟨h1, h2, h3, by first | rfl | (rw [decide_eq_true (by omega)]; rfl)⟩

theorem allTrue : (∀ e : Ex, e.all (fun _ => true) = true) := by
  intro e
  induction hn : e.nodes using Nat.strongRecOn generalizing e with
  | ind n ih =>
    rw [Ex.all_eq, Bool.true_and]
    have hne := Ex.nodes_eq e
    have key : ∀ l : List Ex, nodesL l < n → allL (fun _ => true) l = true := by
      intro l
      induction l with
      | nil => intro _; rfl
      | cons x r ihl =>
        intro h
        rw [nodesL] at h
        rw [allL, ih x.nodes (by omega) x rfl, ihl (by omega)]
        rfl
    exact key e.kids (by omega)

end Go.Proofs.YtpdcmmhhgnackaaGreatDoor
