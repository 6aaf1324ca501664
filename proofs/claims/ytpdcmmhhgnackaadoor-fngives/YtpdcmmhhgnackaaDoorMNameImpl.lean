/- The program's names: impl.NameOk. -/
/- impl.nodeOk: what one node asks for. -/
/- impl.eachNode with (*impl.nodeWalk).check. -/
/- impl.eachNode with (*impl.nodeWalk).count. -/
/- impl.Nodes counts the nodes. -/
/- impl.ExprOk: the walk over the nodes leaves by a panic where one is not right. -/
/- impl.Gives. -/
import Derived.Test.YtpdcmmhhgnackaaDoorMLexM
import Derived.Test.YtpdcmmhhgnackaaDoorMDrawPick
import Derived.Test.YtpdcmmhhgnackaaDoorMShelf
import Derived.IntWalk
import Derived.Test.YtpdcmmhhgnackaaDoorMAccJ
import Derived.BigQuiet
import Derived.Test.YtpdcmmhhgnackaaDoorMMem
import Derived.Deep.Upon
import Derived.Defers
import Derived.Recover
import Derived.Test.YtpdcmmhhgnackaaDoorMDat
namespace Go.Proofs.YtpdcmmhhgnackaaDoor
open Go.RowKit

theorem index_lt (l : List UInt8) (c : UInt8) : -1 ≤ Lib.indexByte l c ∧ (Lib.indexByte l c < 0 ↔ l.contains c = false) := by
  induction l with
  | nil => simp [Lib.indexByte]
  | cons b r ih =>
    rw [Lib.indexByte]
    by_cases h : b = c
    · subst h; simp
    · have hb : (b == c) = false := by simpa using h
      rw [hb]
      simp only [Bool.false_eq_true, if_false]
      have hc : (b :: r).contains c = r.contains c := by
        rw [List.contains_cons]
        have : (c == b) = false := by simpa using fun e => h e.symm
        rw [this]; rfl
      rw [hc]
      by_cases h1 : Lib.indexByte r c = -1
      · rw [if_pos (by simpa using h1)]
        exact ⟨by omega, by rw [← ih.2]; omega⟩
      · rw [if_neg (by simpa using h1)]
        exact ⟨by omega, by rw [← ih.2]; omega⟩

theorem name_eq (s : ByteArray) : nameB s.data.toList = (!s.toList.isEmpty && (decide ((s.size : Int) ≤ 40) && decide (Lib.indexByte s.data.toList 0 < 0))) := by
  have hl : s.data.toList.length = s.size := by simp
  have hi := (index_lt s.data.toList 0).2
  rw [Bool.eq_iff_iff]
  unfold nameB
  simp only [Bool.and_eq_true, decide_eq_true_eq, Bool.not_eq_true', Lib.toList_data]
  rw [hi, hl]
  constructor
  · rintro ⟨⟨h1, h2⟩, h3⟩
    refine ⟨?_, by omega, h3⟩
    rw [List.isEmpty_eq_false_iff]
    intro e
    rw [e] at hl
    simp at hl
    omega
  · rintro ⟨h1, h2, h3⟩
    rw [List.isEmpty_eq_false_iff] at h1
    have : 0 < s.data.toList.length := List.length_pos_iff.2 h1
    exact ⟨⟨by omega, by omega⟩, h3⟩

set_option maxHeartbeats 1000000 in
theorem implNameFits (s : ByteArray) (w : World) (v : Bool) (hv : nameB s.data.toList = v) :
    Calls Tryd.prog 129 #[.string s] w fun e w' => e = .returned (.bool v) ∧ w = w' := by
  rw [name_eq] at hv
  have HI : Hid (∀ W, Calls Tryd.prog 148 #[.string s, .int .u8 0] W fun e w' => e = .returned (.int .i64 (Lib.indexByte s.data.toList 0)) ∧ W = w') := fun W =>
    (Tryd.strings_IndexByte s 0 W).mono fun e w' ⟨he, hw⟩ => ⟨he, hw.symm⟩
  generalize Lib.indexByte s.data.toList 0 = ix at hv HI
  cases h1 : s.toList.isEmpty with
  | true =>
    have hse : s.toList = [] := List.isEmpty_iff.1 h1
    have hv' : v = false := by rw [← hv, h1]; rfl
    have HV := Lib.hid hv'
    have hn : (!(s.toList == [])) = false := by rw [hse]; rfl
    clear hv hv' hse
    go_enter Tryd.func129, Tryd.ntmps129
    go_wp2_with fail
    go_ret
    exact ⟨by rw [HV.out]; rfl, rfl⟩
  | false =>
    by_cases h2 : (s.size : Int) ≤ 40
    · have hv' : v = decide (ix < 0) := by rw [← hv, h1]; simp [h2]
      have HV := Lib.hid hv'
      have hn : (!(s.toList == [])) = true := by
        have : s.toList ≠ [] := by intro e; rw [e] at h1; cases h1
        simpa using this
      clear hv hv'
      go_enter Tryd.func129, Tryd.ntmps129
      go_wp2_with fail
      refine (HI.out _).mono ?_
      rintro e w1 ⟨rfl, rfl⟩
      go_wp2_with fail
      go_ret
      exact ⟨by rw [HV.out]; rfl, rfl⟩
    · have hv' : v = false := by rw [← hv, h1]; simp [h2]
      have HV := Lib.hid hv'
      have ht : decide ((s.size : Int) ≤ 40) = false := by simpa using h2
      have hn : (!(s.toList == [])) = true := by
        have : s.toList ≠ [] := by intro e; rw [e] at h1; cases h1
        simpa using this
      clear hv hv'
      go_enter Tryd.func129, Tryd.ntmps129
      go_wp2_with fail
      go_ret
      exact ⟨by rw [HV.out]; rfl, rfl⟩

theorem implNameOk (s : ByteArray) (w : World) (v : Bool) (hv : nameB s.data.toList = v) :
    Calls Tryd.prog 98 #[.string s] w fun e w' => e = .returned (.bool v) ∧ w = w' := by
  go_enter Tryd.func98, Tryd.ntmps98
  go_wp2_with fail
  refine (implNameFits s _ v hv).mono ?_
  rintro e w' ⟨rfl, rfl⟩
  go_wp2_with fail
  go_ret
  exact ⟨rfl, rfl⟩

end Go.Proofs.YtpdcmmhhgnackaaDoor

namespace Go.Proofs.YtpdcmmhhgnackaaDoor
open Go.RowKit

theorem fm_kids : ∀ i, i < 19 → (fm i).kids = kidsK (i : Int) := by decide
theorem fm_strength : ∀ i, i < 19 → (fm i).strength = (bindsK (i : Int) : Int) := by decide

set_option maxRecDepth 100000 in
set_option maxHeartbeats 2000000 in
theorem implNodeOk (k : Int) (t : ByteArray) (n : Int) (a : Option Addr) (l c : Nat) (w : World) (hF : FormsAt w) (ht : t.size ≤ maxLen) (hl : l ≤ 9223372036854775807) (v : Bool) (hv : node1 k t n l = v) :
    Calls Tryd.prog 112 #[.agg #[.int .i64 k, .string t, .int .i64 n, .slice a l c]] w fun x w' => x = .returned (.bool v) ∧ Below w.heap.size w w' := by
  have HBX := Lib.hid (fun T => boxK_new w k t n a l c T)
  have HBD := Lib.hid (fun T m => (boxK_new w k t n a l c T).drewN m)
  have ht9 : t.size ≤ 9223372036854775807 := by unfold maxLen at ht; omega
  by_cases h0 : k < 0
  · have HN : Hid (v = false) := by
      unfold Hid; rw [← hv]; unfold node1
      rw [decide_eq_false (by unfold kidsK; rw [if_pos (.inl h0)]; omega)]; rfl
    have hd0 : decide (k < 0) = true := decide_eq_true h0
    clear hv hF
    go_enter Tryd.func112, Tryd.ntmps112
    go_wp2_with fail
    go_quiet (fail)
    go_wp2_with fail
    go_ret
    exact ⟨by rw [HN.out]; rfl, (HBD.out _ _).bel⟩
  · by_cases h19 : 19 ≤ k
    · have HN : Hid (v = false) := by
        unfold Hid; rw [← hv]; unfold node1
        rw [decide_eq_false (by unfold kidsK; rw [if_pos (.inr (by omega))]; omega)]; rfl
      have hd0 : decide (k < 0) = false := decide_eq_false h0
      have hd1 : decide (19 ≤ k) = true := decide_eq_true h19
      clear hv hF
      go_enter Tryd.func112, Tryd.ntmps112
      go_wp2_with fail
      go_quiet (fail)
      go_wp2_with fail
      go_ret
      exact ⟨by rw [HN.out]; rfl, (HBD.out _ _).bel⟩
    · obtain ⟨i, rfl⟩ : ∃ i : Nat, k = i := ⟨k.toNat, by omega⟩
      have hi : i < 19 := by omega
      have hd0 : decide ((i : Int) < 0) = false := decide_eq_false h0
      have hd1 : decide (19 ≤ (i : Int)) = false := decide_eq_false h19
      have hb0 : (0 : Int) ≤ (i : Int) := by omega
      have hb1 : (i : Int) < 19 := by omega
      have HG : Hid (∀ o, (w.alloc o).cell? ⟨1, i * 4, none⟩ = some (.int .i64 (kidsK i))) := fun o => by
        rw [← fm_kids i hi]
        exact ((hF.below ((Below.refl w.heap.size w).alloc (Nat.le_refl _) o) hF.1).2 i hi).1
      have hg := HG.out
      have hkk : ∃ m, kidsK (i : Int) = m := ⟨_, rfl⟩
      obtain ⟨m, hkk⟩ := hkk
      have HV := Lib.hid hv
      rw [hkk] at hg
      clear hF h0 h19 hv
      by_cases hlm : (l : Int) = m
      · have hne : ((l : Int) != m) = false := by simp; exact hlm
        by_cases k0 : i = 0
        · subst k0
          have HE : Hid (v = (nameB t.data.toList && decide (n = 0))) := by unfold Hid; rw [← HV.out]; unfold node1; rw [hkk, decide_eq_true hlm, if_pos (by omega), if_neg (by omega)]; rfl
          cases hnm : nameB t.data.toList with
          | false =>
            rw [hnm] at HE
            have HNM := Lib.hid hnm
            clear hnm HV
            have hn0 : ∃ q, (n == 0) = q ∧ decide (n = 0) = q := ⟨_, rfl, rfl⟩
            obtain ⟨q, hq1, hq2⟩ := hn0
            rw [hq2] at HE
            clear hq2
            have hg1 := hg (.cells #[.int .i64 (0 : Int), .string t, .int .i64 n, .slice a l c] 26)
            clear hg
            go_enter Tryd.func112, Tryd.ntmps112
            go_wp2_with fail
            go_quiet (fail)
            have BX := HBD.out 26 nq
            generalize World.drewN (w.alloc (.cells #[.int .i64 0, .string t, .int .i64 n, .slice a l c] 26)) nq = W1 at BX ⊢
            obtain ⟨hW1, c0, c1, c2, c3, bW1⟩ := BX
            clear hg1
            go_wp2_with (go_at_call 98; refine (implNameOk t _ _ HNM.out).mono ?_; rintro e w1 ⟨rfl, rfl⟩)
            go_ret
            exact ⟨by rw [HE.out]; rfl, bW1⟩
          | true =>
            rw [hnm] at HE
            have HNM := Lib.hid hnm
            clear hnm HV
            have hn0 : ∃ q, (n == 0) = q ∧ decide (n = 0) = q := ⟨_, rfl, rfl⟩
            obtain ⟨q, hq1, hq2⟩ := hn0
            rw [hq2] at HE
            clear hq2
            have hg1 := hg (.cells #[.int .i64 (0 : Int), .string t, .int .i64 n, .slice a l c] 26)
            clear hg
            go_enter Tryd.func112, Tryd.ntmps112
            go_wp2_with fail
            go_quiet (fail)
            have BX := HBD.out 26 nq
            generalize World.drewN (w.alloc (.cells #[.int .i64 0, .string t, .int .i64 n, .slice a l c] 26)) nq = W1 at BX ⊢
            obtain ⟨hW1, c0, c1, c2, c3, bW1⟩ := BX
            clear hg1
            go_wp2_with (go_at_call 98; refine (implNameOk t _ _ HNM.out).mono ?_; rintro e w1 ⟨rfl, rfl⟩)
            go_ret
            exact ⟨by rw [HE.out]; rfl, bW1⟩
        by_cases k1 : i = 1
        · subst k1
          have HE : Hid (v = (t.toList.isEmpty && (decide (0 ≤ n) && decide (n ≤ 999999999)))) := by unfold Hid; rw [← HV.out]; unfold node1; rw [hkk, decide_eq_true hlm, if_neg (by omega), if_neg (by omega), if_pos (by omega), Bool.decide_and]; rfl
          cases htx : t.toList.isEmpty with
          | false =>
            rw [htx] at HE
            clear HV
            have hg1 := hg (.cells #[.int .i64 (1 : Int), .string t, .int .i64 n, .slice a l c] 26)
            clear hg
            go_enter Tryd.func112, Tryd.ntmps112
            go_wp2_with fail
            go_quiet (fail)
            have BX := HBD.out 26 nq
            generalize World.drewN (w.alloc (.cells #[.int .i64 1, .string t, .int .i64 n, .slice a l c] 26)) nq = W1 at BX ⊢
            obtain ⟨hW1, c0, c1, c2, c3, bW1⟩ := BX
            clear hg1
            go_wp2_with fail
            go_ret
            exact ⟨by rw [HE.out]; rfl, bW1⟩
          | true =>
            rw [htx] at HE
            clear HV
            by_cases h1 : ¬ 0 ≤ n
            · rw [decide_eq_false h1] at HE
              have hg1 := hg (.cells #[.int .i64 (1 : Int), .string t, .int .i64 n, .slice a l c] 26)
              clear hg
              go_enter Tryd.func112, Tryd.ntmps112
              go_wp2_with fail
              go_quiet (fail)
              have BX := HBD.out 26 nq
              generalize World.drewN (w.alloc (.cells #[.int .i64 1, .string t, .int .i64 n, .slice a l c] 26)) nq = W1 at BX ⊢
              obtain ⟨hW1, c0, c1, c2, c3, bW1⟩ := BX
              clear hg1
              go_wp2_with fail
              go_ret
              exact ⟨by rw [HE.out]; rfl, bW1⟩
            · have h1 : 0 ≤ n := by omega
              rw [decide_eq_true h1] at HE
              have hg1 := hg (.cells #[.int .i64 (1 : Int), .string t, .int .i64 n, .slice a l c] 26)
              clear hg
              go_enter Tryd.func112, Tryd.ntmps112
              go_wp2_with fail
              go_quiet (fail)
              have BX := HBD.out 26 nq
              generalize World.drewN (w.alloc (.cells #[.int .i64 1, .string t, .int .i64 n, .slice a l c] 26)) nq = W1 at BX ⊢
              obtain ⟨hW1, c0, c1, c2, c3, bW1⟩ := BX
              clear hg1
              go_wp2_with fail
              go_ret
              exact ⟨by rw [HE.out]; rfl, bW1⟩
        by_cases k2 : i = 2
        · subst k2
          have HE : Hid (v = (decide (t.size ≤ 100) && decide (n = 0))) := by unfold Hid; rw [← HV.out]; unfold node1; rw [hkk, decide_eq_true hlm, if_neg (by omega), if_pos (by omega), if_neg (by omega)]; rfl
          have hn0 : ∃ q, (n == 0) = q ∧ decide (n = 0) = q := ⟨_, rfl, rfl⟩
          obtain ⟨q, hq1, hq2⟩ := hn0
          rw [hq2] at HE
          clear hq2
          by_cases htx : t.size ≤ 100
          · rw [decide_eq_true htx] at HE
            clear HV
            have hg1 := hg (.cells #[.int .i64 (2 : Int), .string t, .int .i64 n, .slice a l c] 26)
            clear hg
            go_enter Tryd.func112, Tryd.ntmps112
            go_wp2_with fail
            go_quiet (fail)
            have BX := HBD.out 26 nq
            generalize World.drewN (w.alloc (.cells #[.int .i64 2, .string t, .int .i64 n, .slice a l c] 26)) nq = W1 at BX ⊢
            obtain ⟨hW1, c0, c1, c2, c3, bW1⟩ := BX
            clear hg1
            go_wp2_with fail
            go_ret
            exact ⟨by rw [HE.out]; rfl, bW1⟩
          · rw [decide_eq_false htx] at HE
            clear HV
            have hg1 := hg (.cells #[.int .i64 (2 : Int), .string t, .int .i64 n, .slice a l c] 26)
            clear hg
            go_enter Tryd.func112, Tryd.ntmps112
            go_wp2_with fail
            go_quiet (fail)
            have BX := HBD.out 26 nq
            generalize World.drewN (w.alloc (.cells #[.int .i64 2, .string t, .int .i64 n, .slice a l c] 26)) nq = W1 at BX ⊢
            obtain ⟨hW1, c0, c1, c2, c3, bW1⟩ := BX
            clear hg1
            go_wp2_with fail
            go_ret
            exact ⟨by rw [HE.out]; rfl, bW1⟩
        have HE : Hid (v = (t.toList.isEmpty && decide (n = 0))) := by unfold Hid; rw [← HV.out]; unfold node1; rw [hkk, decide_eq_true hlm, if_neg (by omega), if_neg (by omega), if_neg (by omega)]; rfl
        have kb0 : ((i : Int) == 0) = false := by simp; omega
        have kb1 : ((i : Int) == 1) = false := by simp; omega
        have kb2 : ((i : Int) == 2) = false := by simp; omega
        have hn0 : ∃ q, (n == 0) = q ∧ decide (n = 0) = q := ⟨_, rfl, rfl⟩
        obtain ⟨q, hq1, hq2⟩ := hn0
        rw [hq2] at HE
        clear hq2 k0 k1 k2
        cases htx : t.toList.isEmpty with
        | false =>
          rw [htx] at HE
          clear HV
          have hg1 := hg (.cells #[.int .i64 (i : Int), .string t, .int .i64 n, .slice a l c] 26)
          clear hg
          go_enter Tryd.func112, Tryd.ntmps112
          go_wp2_with fail
          go_quiet (fail)
          have BX := HBD.out 26 nq
          generalize World.drewN (w.alloc (.cells #[.int .i64 (i : Int), .string t, .int .i64 n, .slice a l c] 26)) nq = W1 at BX ⊢
          obtain ⟨hW1, c0, c1, c2, c3, bW1⟩ := BX
          clear hg1
          go_wp2_with fail
          go_ret
          exact ⟨by rw [HE.out]; rfl, bW1⟩
        | true =>
          rw [htx] at HE
          clear HV
          have hg1 := hg (.cells #[.int .i64 (i : Int), .string t, .int .i64 n, .slice a l c] 26)
          clear hg
          go_enter Tryd.func112, Tryd.ntmps112
          go_wp2_with fail
          go_quiet (fail)
          have BX := HBD.out 26 nq
          generalize World.drewN (w.alloc (.cells #[.int .i64 (i : Int), .string t, .int .i64 n, .slice a l c] 26)) nq = W1 at BX ⊢
          obtain ⟨hW1, c0, c1, c2, c3, bW1⟩ := BX
          clear hg1
          go_wp2_with fail
          go_ret
          exact ⟨by rw [HE.out]; rfl, bW1⟩
      · have hne : ((l : Int) != m) = true := by simp; exact hlm
        have HE : Hid (v = false) := by unfold Hid; rw [← HV.out]; unfold node1; rw [hkk, decide_eq_false hlm]; rfl
        clear HV
        have hg1 := hg (.cells #[.int .i64 (i : Int), .string t, .int .i64 n, .slice a l c] 26)
        clear hg
        go_enter Tryd.func112, Tryd.ntmps112
        go_wp2_with fail
        go_quiet (fail)
        have BX := HBD.out 26 nq
        generalize World.drewN (w.alloc (.cells #[.int .i64 (i : Int), .string t, .int .i64 n, .slice a l c] 26)) nq = W1 at BX ⊢
        obtain ⟨hW1, c0, c1, c2, c3, bW1⟩ := BX
        clear hg1
        go_wp2_with fail
        go_ret
        exact ⟨by rw [HE.out]; rfl, bW1⟩

end Go.Proofs.YtpdcmmhhgnackaaDoor

namespace Go.Proofs.YtpdcmmhhgnackaaDoor
open Go.RowKit

set_option maxHeartbeats 2000000 in
theorem eachCheck {wb : Nat} {chk : Ex → Bool} {lim : Nat} {pc : List PanicEntry} {J : World → Prop} (hsee : Sees J 70 wb chk lim pc) (e : Ex) (a : Option Addr) (c d m : Nat) (w : World) (hJ : ∀ w', w.grownBy w' (some wb) → J w') (hfit : e.fit) (hk : KidsQ (fun b => b ≠ wb) w d a c e.kids)
    (hwb : wb < w.heap.size) (hm : w.cell? ⟨wb, 0, none⟩ = some (.int .i64 m)) (hz : w.frozen? ⟨wb, 0, none⟩ = false) (hn : m + e.nodes ≤ 1073741824) :
    Calls Tryd.prog 31 #[.agg #[.int .i64 e.kind, .string e.text, .int .i64 e.num, .slice a e.kids.length c], .func (.func 70) #[.pointer (some ⟨wb, 0, none⟩)] #[]] w (EachP w wb chk lim pc e m) := by
  obtain ⟨i0, hi0, hz0, hz1, hz2⟩ := info_parts Tryd.infoKidsS
  have HST := Lib.hid (WInv.start hfit hk hwb hm hz)
  clear hk hfit hm hz
  go_enter Tryd.func31, Tryd.ntmps31
  go_wp2_with fail
  go_loopw [4] (fun v wr => ∃ ps mm, WInv w wb ps v mm wr ∧ mm + sumP ps = m + e.nodes ∧ e.all chk = allP chk ps ∧ (m < mm → mm ≤ lim)) (fun _ wr => m + e.nodes - cellN wr wb)
  case atStart => exact ⟨_, m, HST.out _ rfl, by simp [sumP, nodesL], by simp [allP, allL], fun h => absurd h (Nat.lt_irrefl _)⟩
  case round =>
    obtain ⟨ps, mm, hI, hsum, hall, hlim⟩ := hrel
    rcases List.eq_nil_or_concat ps with rfl | ⟨qs, ⟨pa, pcp, pk⟩, rfl⟩
    · obtain ⟨a0, c0, rfl⟩ := hI.form
      have HI := Lib.hid hI
      have HS := Lib.hid hsum
      have HA := Lib.hid hall
      clear hI hsum hall
      go_wp2_with fail
      refine bodyPost_end (results_none rfl _ _ _) rfl ?_
      have hmm : mm = m + e.nodes := by have := HS.out; simpa [sumP] using this
      subst hmm
      have hall : e.all chk = true := by rw [HA.out]; rfl
      have hnp := Ex.nodes_eq e
      have hle := hlim (by omega)
      exact ⟨HI.out.grown, by rw [hall, decide_eq_true hle]; rfl, fun _ _ => HI.out.cell⟩
    · obtain ⟨g, cap, rfl, hcap, hcapm, hcell, hI2, hpk, d2, hk2⟩ := WInv.pop (by simpa using hI)
      unfold Pd.v at hcell
      simp only at hcell hpk hk2
      unfold maxLen at hcapm
      have HI := Lib.hid hI2
      have HK2 := Lib.hid hk2
      rw [List.concat_eq_append, sumP_snoc] at hsum
      rw [List.concat_eq_append, allP_snoc] at hall
      have HS := Lib.hid hsum
      have HA := Lib.hid hall
      clear hI hI2 hk2 hsum hall
      go_wp2_with fail
      go_loopw [4, 27] (fun v i wr => ∃ (ps : List Pd) (k : Nat), i = .int .i64 k ∧ k ≤ pk.length ∧ WInv w wb ps v (mm + k) wr ∧ KidsQ (InQ w wb) wr d2 pa pcp pk ∧ mm + k + sumP ps + nodesL (pk.drop k) = m + e.nodes ∧ e.all chk = (allP chk ps && allL chk (pk.drop k)) ∧ (m < mm + k → mm + k ≤ lim)) (fun _ i _ => pk.length - (intOf i).toNat)
      case atStart => exact ⟨qs, 0, rfl, Nat.zero_le _, HI.out, HK2.out, by have := HS.out; simp only [List.drop_zero] at this ⊢; omega, HA.out, hlim⟩
      case round =>
        obtain ⟨ps, k, rfl, hk, hI3, hk3, hsum3, hall3, hlim3⟩ := hrel
        obtain ⟨a0, c0, rfl⟩ := hI3.form
        by_cases hlt : k < pk.length
        · obtain ⟨d3, rfl⟩ : ∃ q, d2 = q + 1 := ⟨d2 - 1, by cases d2 with | zero => exact hk3.elim | succ n => omega⟩
          obtain ⟨b, off, rfl, hq, hbl, hc0, hc1, hc2, hfit, a', c', hc3, hkid⟩ := hk3.spot hlt
          have hxl := hkid.at.len
          have hmb : mm + k ≤ 1073741824 := by omega
          have HI3 := Lib.hid hI3
          have HK3 := Lib.hid hk3
          have HX := Lib.hid hkid
          have HS3 := Lib.hid hsum3
          have HA3 := Lib.hid hall3
          have hsz3 := hI3.size
          clear hI3 hsum3 hall3 hk3 hkid
          go_wp2_with fail
          refine (hsee pk[k] a' c' d3 (mm + k) _ (hJ _ (HI3.out.alloc _).grown) hfit ((HX.out.at.below ((Below.refl _ _).alloc (Nat.le_refl _) _))) (HI3.out.alloc _).cell (HI3.out.alloc _).frozen hmb).mono ?_
          rintro x w2 ⟨hg2, hc, hz, rfl⟩
          have hI4 := (HI3.out.alloc _).next hg2 (.inr rfl) hc hz
          have hbox : w2.cell? ⟨wr.heap.size, 3, none⟩ = some (.slice a' pk[k].kids.length c') := hg2.cell (a := ⟨wr.heap.size, 3, none⟩) (by simp [go_sem]) (by intro h; have h' := Option.some.inj h; simp only at h'; omega)
          have hkeep : KidsQ (InQ w wb) w2 (d3 + 1) (some ⟨b, off, none⟩) pcp pk ∧ KidsQ (InQ w wb) w2 d3 a' c' pk[k].kids := by
            have hb1 := (Below.refl wr.heap.size wr).alloc (Nat.le_refl _) (.cells #[.int .i64 pk[k].kind, .string pk[k].text, .int .i64 pk[k].num, .slice a' pk[k].kids.length c'] 26)
            have hg1 : wr.grownBy _ none := ⟨hb1.os, hb1.tape, hb1.output, hb1.size, fun k hk _ => hb1.block k hk⟩
            have hI5 := HI3.out.alloc (.cells #[.int .i64 pk[k].kind, .string pk[k].text, .int .i64 pk[k].num, .slice a' pk[k].kids.length c'] 26)
            exact ⟨kids_grown hI5.size hg2 (by rintro b h; cases h; exact .inl rfl) hI5.lt (kids_grown HI3.out.size hg1 (by simp) HI3.out.lt HK3.out), kids_grown hI5.size hg2 (by rintro b h; cases h; exact .inl rfl) hI5.lt (kids_grown HI3.out.size hg1 (by simp) HI3.out.lt HX.out)⟩
          have HI4 := Lib.hid hI4
          have HKP := Lib.hid hkeep
          have HDN := Lib.hid (nodesL_drop pk k hlt)
          have HDA := Lib.hid (allL_drop chk pk k hlt)
          have HNE := Lib.hid (Ex.nodes_eq pk[k])
          have HAE := Lib.hid (Ex.all_eq chk pk[k])
          have hsz4 := hI4.size
          clear hI4 hkeep hg2 hc0 hc1 hc2 hc3
          cases hgd : (chk pk[k] && decide (mm + k + 1 ≤ lim)) with
          | false =>
            have HG := Lib.hid hgd
            clear hgd
            simp only [SeeX, Bool.false_eq_true, if_false]
            have HF : Hid ((e.all chk && decide (m + e.nodes ≤ lim)) = false) := by
              have h1 := HG.out; have h2 := HA3.out; have h3 := HDA.out; have h4 := HAE.out; have h5 := HS3.out; have h6 := HDN.out; have h7 := HNE.out
              unfold Hid
              rw [h2, h3, h4]
              rw [Bool.and_eq_false_iff] at h1
              rcases h1 with h1 | h1
              · simp [h1]
              · have : decide (m + e.nodes ≤ lim) = false := by simp at h1 ⊢; omega
                rw [this]; simp
            go_wp2_with fail
            refine ⟨rfl, HI4.out.grown, by rw [HF.out]; rfl, fun h1 h2 => ?_⟩
            have := HF.out
            rw [h1, decide_eq_true h2] at this
            cases this
          | true =>
            have HG := Lib.hid hgd
            clear hgd
            have hle : mm + k + 1 ≤ lim := by have := HG.out; simp at this; exact this.2
            have hck : chk pk[k] = true := by have := HG.out; simp at this; exact this.1
            simp only [SeeX, if_true]
            have hpl : ps.length + 1 ≤ 1073741824 := by
              have h5 := HS3.out; have h6 := HDN.out; have h7 := HNE.out
              have h8 := sumP_len ps (fun p hp => (HI4.out.kids p hp).1)
              omega
            have HE : Hid (mm + (k + 1) + (sumP ps + nodesL pk[k].kids) + nodesL (pk.drop (k + 1)) = m + e.nodes ∧ e.all chk = (allP chk ps && allL chk pk[k].kids && allL chk (pk.drop (k + 1)))) := by
              have h2 := HA3.out; have h3 := HDA.out; have h4 := HAE.out; have h5 := HS3.out; have h6 := HDN.out; have h7 := HNE.out
              refine ⟨by omega, ?_⟩
              rw [h2, h3, h4, hck]
              simp [Bool.and_assoc]
            by_cases hpos : 0 < pk[k].kids.length
            · go_wp2_with (at_builtin; refine wpPush rfl (.tmp 38) (.tmp 41) rfl a0 c0 ⟨a', c', pk[k].kids⟩ d3 _ HI4.out hpos HKP.out.2 hpl rfl rfl rfl ?_; intro a6 c6 w6 HI6)
              go_roundw
              case rel =>
                refine ⟨ps ++ [⟨a', c', pk[k].kids⟩], k + 1, by go_num, by omega, ?_, ?_, ?_, ?_, by omega⟩
                · exact HI6.out.1
                · exact kids_grown HI4.out.size HI6.out.2 (fun b hb => .inr (HI4.out.row.lt b hb).1) HI4.out.lt HKP.out.1
                · rw [sumP_snoc]; exact HE.out.1
                · rw [allP_snoc]; exact HE.out.2
              case measure => simp [intOf]; omega
            · have h0 : pk[k].kids = [] := List.eq_nil_of_length_eq_zero (by omega)
              have hl0 : pk[k].kids.length = 0 := by rw [h0]; rfl
              go_wp2_with fail
              go_roundw
              case rel =>
                refine ⟨ps, k + 1, by go_num, by omega, HI4.out, HKP.out.1, ?_, ?_, by omega⟩
                · have := HE.out.1; rw [h0] at this; simpa [nodesL] using this
                · have := HE.out.2; rw [h0] at this; simpa [allL] using this
              case measure => simp [intOf]; omega
        · obtain rfl : k = pk.length := by omega
          have HI3 := Lib.hid hI3
          have HS3 := Lib.hid hsum3
          have HA3 := Lib.hid hall3
          clear hI3 hsum3 hall3 hk3
          go_wp2_with fail
          go_roundw
          case rel => exact ⟨ps, mm + pk.length, HI3.out, by have := HS3.out; simpa [nodesL] using this, by have := HA3.out; simpa [allL] using this, hlim3⟩
          case measure =>
            have h1 := HI3.out.cellN
            have h2 := HI.out.cellN
            have h3 := HS3.out
            rw [h1, h2]
            omega

end Go.Proofs.YtpdcmmhhgnackaaDoor

namespace Go.Proofs.YtpdcmmhhgnackaaDoor
open Go.RowKit

set_option maxHeartbeats 2000000 in
theorem eachCount {wb : Nat} {chk : Ex → Bool} {lim : Nat} {pc : List PanicEntry} {J : World → Prop} (hsee : Sees J 111 wb chk lim pc) (e : Ex) (a : Option Addr) (c d m : Nat) (w : World) (hJ : ∀ w', w.grownBy w' (some wb) → J w') (hfit : e.fit) (hk : KidsQ (fun b => b ≠ wb) w d a c e.kids)
    (hwb : wb < w.heap.size) (hm : w.cell? ⟨wb, 0, none⟩ = some (.int .i64 m)) (hz : w.frozen? ⟨wb, 0, none⟩ = false) (hn : m + e.nodes ≤ 1073741824) :
    Calls Tryd.prog 31 #[.agg #[.int .i64 e.kind, .string e.text, .int .i64 e.num, .slice a e.kids.length c], .func (.func 111) #[.pointer (some ⟨wb, 0, none⟩)] #[]] w (EachP w wb chk lim pc e m) := by
  obtain ⟨i0, hi0, hz0, hz1, hz2⟩ := info_parts Tryd.infoKidsS
  have HST := Lib.hid (WInv.start hfit hk hwb hm hz)
  clear hk hfit hm hz
  go_enter Tryd.func31, Tryd.ntmps31
  go_wp2_with fail
  go_loopw [4] (fun v wr => ∃ ps mm, WInv w wb ps v mm wr ∧ mm + sumP ps = m + e.nodes ∧ e.all chk = allP chk ps ∧ (m < mm → mm ≤ lim)) (fun _ wr => m + e.nodes - cellN wr wb)
  case atStart => exact ⟨_, m, HST.out _ rfl, by simp [sumP, nodesL], by simp [allP, allL], fun h => absurd h (Nat.lt_irrefl _)⟩
  case round =>
    obtain ⟨ps, mm, hI, hsum, hall, hlim⟩ := hrel
    rcases List.eq_nil_or_concat ps with rfl | ⟨qs, ⟨pa, pcp, pk⟩, rfl⟩
    · obtain ⟨a0, c0, rfl⟩ := hI.form
      have HI := Lib.hid hI
      have HS := Lib.hid hsum
      have HA := Lib.hid hall
      clear hI hsum hall
      go_wp2_with fail
      refine bodyPost_end (results_none rfl _ _ _) rfl ?_
      have hmm : mm = m + e.nodes := by have := HS.out; simpa [sumP] using this
      subst hmm
      have hall : e.all chk = true := by rw [HA.out]; rfl
      have hnp := Ex.nodes_eq e
      have hle := hlim (by omega)
      exact ⟨HI.out.grown, by rw [hall, decide_eq_true hle]; rfl, fun _ _ => HI.out.cell⟩
    · obtain ⟨g, cap, rfl, hcap, hcapm, hcell, hI2, hpk, d2, hk2⟩ := WInv.pop (by simpa using hI)
      unfold Pd.v at hcell
      simp only at hcell hpk hk2
      unfold maxLen at hcapm
      have HI := Lib.hid hI2
      have HK2 := Lib.hid hk2
      rw [List.concat_eq_append, sumP_snoc] at hsum
      rw [List.concat_eq_append, allP_snoc] at hall
      have HS := Lib.hid hsum
      have HA := Lib.hid hall
      clear hI hI2 hk2 hsum hall
      go_wp2_with fail
      go_loopw [4, 27] (fun v i wr => ∃ (ps : List Pd) (k : Nat), i = .int .i64 k ∧ k ≤ pk.length ∧ WInv w wb ps v (mm + k) wr ∧ KidsQ (InQ w wb) wr d2 pa pcp pk ∧ mm + k + sumP ps + nodesL (pk.drop k) = m + e.nodes ∧ e.all chk = (allP chk ps && allL chk (pk.drop k)) ∧ (m < mm + k → mm + k ≤ lim)) (fun _ i _ => pk.length - (intOf i).toNat)
      case atStart => exact ⟨qs, 0, rfl, Nat.zero_le _, HI.out, HK2.out, by have := HS.out; simp only [List.drop_zero] at this ⊢; omega, HA.out, hlim⟩
      case round =>
        obtain ⟨ps, k, rfl, hk, hI3, hk3, hsum3, hall3, hlim3⟩ := hrel
        obtain ⟨a0, c0, rfl⟩ := hI3.form
        by_cases hlt : k < pk.length
        · obtain ⟨d3, rfl⟩ : ∃ q, d2 = q + 1 := ⟨d2 - 1, by cases d2 with | zero => exact hk3.elim | succ n => omega⟩
          obtain ⟨b, off, rfl, hq, hbl, hc0, hc1, hc2, hfit, a', c', hc3, hkid⟩ := hk3.spot hlt
          have hxl := hkid.at.len
          have hmb : mm + k ≤ 1073741824 := by omega
          have HI3 := Lib.hid hI3
          have HK3 := Lib.hid hk3
          have HX := Lib.hid hkid
          have HS3 := Lib.hid hsum3
          have HA3 := Lib.hid hall3
          have hsz3 := hI3.size
          clear hI3 hsum3 hall3 hk3 hkid
          go_wp2_with fail
          refine (hsee pk[k] a' c' d3 (mm + k) _ (hJ _ (HI3.out.alloc _).grown) hfit ((HX.out.at.below ((Below.refl _ _).alloc (Nat.le_refl _) _))) (HI3.out.alloc _).cell (HI3.out.alloc _).frozen hmb).mono ?_
          rintro x w2 ⟨hg2, hc, hz, rfl⟩
          have hI4 := (HI3.out.alloc _).next hg2 (.inr rfl) hc hz
          have hbox : w2.cell? ⟨wr.heap.size, 3, none⟩ = some (.slice a' pk[k].kids.length c') := hg2.cell (a := ⟨wr.heap.size, 3, none⟩) (by simp [go_sem]) (by intro h; have h' := Option.some.inj h; simp only at h'; omega)
          have hkeep : KidsQ (InQ w wb) w2 (d3 + 1) (some ⟨b, off, none⟩) pcp pk ∧ KidsQ (InQ w wb) w2 d3 a' c' pk[k].kids := by
            have hb1 := (Below.refl wr.heap.size wr).alloc (Nat.le_refl _) (.cells #[.int .i64 pk[k].kind, .string pk[k].text, .int .i64 pk[k].num, .slice a' pk[k].kids.length c'] 26)
            have hg1 : wr.grownBy _ none := ⟨hb1.os, hb1.tape, hb1.output, hb1.size, fun k hk _ => hb1.block k hk⟩
            have hI5 := HI3.out.alloc (.cells #[.int .i64 pk[k].kind, .string pk[k].text, .int .i64 pk[k].num, .slice a' pk[k].kids.length c'] 26)
            exact ⟨kids_grown hI5.size hg2 (by rintro b h; cases h; exact .inl rfl) hI5.lt (kids_grown HI3.out.size hg1 (by simp) HI3.out.lt HK3.out), kids_grown hI5.size hg2 (by rintro b h; cases h; exact .inl rfl) hI5.lt (kids_grown HI3.out.size hg1 (by simp) HI3.out.lt HX.out)⟩
          have HI4 := Lib.hid hI4
          have HKP := Lib.hid hkeep
          have HDN := Lib.hid (nodesL_drop pk k hlt)
          have HDA := Lib.hid (allL_drop chk pk k hlt)
          have HNE := Lib.hid (Ex.nodes_eq pk[k])
          have HAE := Lib.hid (Ex.all_eq chk pk[k])
          have hsz4 := hI4.size
          clear hI4 hkeep hg2 hc0 hc1 hc2 hc3
          cases hgd : (chk pk[k] && decide (mm + k + 1 ≤ lim)) with
          | false =>
            have HG := Lib.hid hgd
            clear hgd
            simp only [SeeX, Bool.false_eq_true, if_false]
            have HF : Hid ((e.all chk && decide (m + e.nodes ≤ lim)) = false) := by
              have h1 := HG.out; have h2 := HA3.out; have h3 := HDA.out; have h4 := HAE.out; have h5 := HS3.out; have h6 := HDN.out; have h7 := HNE.out
              unfold Hid
              rw [h2, h3, h4]
              rw [Bool.and_eq_false_iff] at h1
              rcases h1 with h1 | h1
              · simp [h1]
              · have : decide (m + e.nodes ≤ lim) = false := by simp at h1 ⊢; omega
                rw [this]; simp
            go_wp2_with fail
            refine ⟨rfl, HI4.out.grown, by rw [HF.out]; rfl, fun h1 h2 => ?_⟩
            have := HF.out
            rw [h1, decide_eq_true h2] at this
            cases this
          | true =>
            have HG := Lib.hid hgd
            clear hgd
            have hle : mm + k + 1 ≤ lim := by have := HG.out; simp at this; exact this.2
            have hck : chk pk[k] = true := by have := HG.out; simp at this; exact this.1
            simp only [SeeX, if_true]
            have hpl : ps.length + 1 ≤ 1073741824 := by
              have h5 := HS3.out; have h6 := HDN.out; have h7 := HNE.out
              have h8 := sumP_len ps (fun p hp => (HI4.out.kids p hp).1)
              omega
            have HE : Hid (mm + (k + 1) + (sumP ps + nodesL pk[k].kids) + nodesL (pk.drop (k + 1)) = m + e.nodes ∧ e.all chk = (allP chk ps && allL chk pk[k].kids && allL chk (pk.drop (k + 1)))) := by
              have h2 := HA3.out; have h3 := HDA.out; have h4 := HAE.out; have h5 := HS3.out; have h6 := HDN.out; have h7 := HNE.out
              refine ⟨by omega, ?_⟩
              rw [h2, h3, h4, hck]
              simp [Bool.and_assoc]
            by_cases hpos : 0 < pk[k].kids.length
            · go_wp2_with (at_builtin; refine wpPush rfl (.tmp 38) (.tmp 41) rfl a0 c0 ⟨a', c', pk[k].kids⟩ d3 _ HI4.out hpos HKP.out.2 hpl rfl rfl rfl ?_; intro a6 c6 w6 HI6)
              go_roundw
              case rel =>
                refine ⟨ps ++ [⟨a', c', pk[k].kids⟩], k + 1, by go_num, by omega, ?_, ?_, ?_, ?_, by omega⟩
                · exact HI6.out.1
                · exact kids_grown HI4.out.size HI6.out.2 (fun b hb => .inr (HI4.out.row.lt b hb).1) HI4.out.lt HKP.out.1
                · rw [sumP_snoc]; exact HE.out.1
                · rw [allP_snoc]; exact HE.out.2
              case measure => simp [intOf]; omega
            · have h0 : pk[k].kids = [] := List.eq_nil_of_length_eq_zero (by omega)
              have hl0 : pk[k].kids.length = 0 := by rw [h0]; rfl
              go_wp2_with fail
              go_roundw
              case rel =>
                refine ⟨ps, k + 1, by go_num, by omega, HI4.out, HKP.out.1, ?_, ?_, by omega⟩
                · have := HE.out.1; rw [h0] at this; simpa [nodesL] using this
                · have := HE.out.2; rw [h0] at this; simpa [allL] using this
              case measure => simp [intOf]; omega
        · obtain rfl : k = pk.length := by omega
          have HI3 := Lib.hid hI3
          have HS3 := Lib.hid hsum3
          have HA3 := Lib.hid hall3
          clear hI3 hsum3 hall3 hk3
          go_wp2_with fail
          go_roundw
          case rel => exact ⟨ps, mm + pk.length, HI3.out, by have := HS3.out; simpa [nodesL] using this, by have := HA3.out; simpa [allL] using this, hlim3⟩
          case measure =>
            have h1 := HI3.out.cellN
            have h2 := HI.out.cellN
            have h3 := HS3.out
            rw [h1, h2]
            omega

end Go.Proofs.YtpdcmmhhgnackaaDoor

namespace Go.Proofs.YtpdcmmhhgnackaaDoor
open Go.RowKit

theorem grownBy_alloc (w : World) (o : Obj) (row : Option Nat) : w.grownBy (w.alloc o) row := by
  have hb : Below w.heap.size w (w.alloc o) := (Below.refl _ _).alloc (Nat.le_refl _) o
  exact ⟨hb.os, hb.tape, hb.output, hb.size, fun k hk _ => hb.block k hk⟩

theorem setCell_grown (w : World) (b o : Nat) (v : Value) : w.grownBy (w.setCell ⟨b, o, none⟩ v) (some b) := by
  refine ⟨rfl, rfl, rfl, by simp, fun k hk hne => ?_⟩
  exact World.heap_setCells_other w b o [v] hk (fun h => hne (by rw [h]))

/-- What the count turns. -/
theorem count_grown {w : World} {wb m : Nat} (hc : w.cell? ⟨wb, 0, none⟩ = some (.int .i64 m)) (hz : w.frozen? ⟨wb, 0, none⟩ = false) (o : Obj) {v : Value} (hv : v = .int .i64 (m + 1 : Nat)) {w' : World} (hw : w' = (w.setCell ⟨wb, 0, none⟩ v).alloc o) :
    w.grownBy w' (some wb) ∧ w'.cell? ⟨wb, 0, none⟩ = some (.int .i64 (m + 1 : Nat)) ∧ w'.frozen? ⟨wb, 0, none⟩ = false := by
  subst hv hw
  have hlt := World.block_lt_of_cell? w ⟨wb, 0, none⟩ hc
  have hg1 := setCell_grown w wb 0 (.int .i64 (m + 1 : Nat))
  have hg2 := grownBy_alloc (w.setCell ⟨wb, 0, none⟩ (.int .i64 (m + 1 : Nat))) o none
  have hlt2 : wb < (w.setCell ⟨wb, 0, none⟩ (.int .i64 (m + 1 : Nat))).heap.size := by simpa using hlt
  exact ⟨hg1.trans (hg2.but _), (hg2.cell_far ⟨wb, 0, none⟩ hlt2 (by simp)).trans (World.cell?_setCell_same _ _ _ hc), (hg2.frozen_far ⟨wb, 0, none⟩ hlt2 (by simp)).trans (by rw [World.frozen?_setCell]; exact hz)⟩

set_option maxHeartbeats 1000000 in
theorem countSees (wb : Nat) : Sees (fun _ => True) 111 wb (fun _ => true) 1073741825 [] := by
  intro e a c d m w _ hfit hk hc hz hm
  have hlt := World.block_lt_of_cell? w ⟨wb, 0, none⟩ hc
  have H := Lib.hid (count_grown hc hz)
  clear hk hfit
  go_enter Tryd.func111, Tryd.ntmps111
  go_wp2_with fail
  refine bodyPost_end (results_none rfl _ _ _) rfl ?_
  obtain ⟨h1, h2, h3⟩ := H.out _ (by go_num) rfl
  exact ⟨h1, h2, h3, by first | rfl | (rw [decide_eq_true (by omega)]; rfl)⟩

theorem allTrue : (∀ e : Ex, e.all (fun _ => true) = true) := by
  intro e
  induction hn : e.nodes using Nat.strongRecOn generalizing e with
  | ind n ih =>
    rw [Ex.all_eq, Bool.true_and]
    have hne := Ex.nodes_eq e
    have key : ∀ l : List Ex, nodesL l < n → allL (fun _ => true) l = true := by
      intro l
      induction l with
      | nil => intro _; rfl
      | cons x r ihl =>
        intro h
        rw [nodesL] at h
        rw [allL, ih x.nodes (by omega) x rfl, ihl (by omega)]
        rfl
    exact key e.kids (by omega)

end Go.Proofs.YtpdcmmhhgnackaaDoor

namespace Go.Proofs.YtpdcmmhhgnackaaDoor
open Go.RowKit

def chkE (e : Ex) : Bool := node1 e.kind e.text e.num e.kids.length

theorem all_shape : ∀ e : Ex, e.all chkE = shapeE e := by
  intro e
  induction hn : e.nodes using Nat.strongRecOn generalizing e with
  | ind n ih =>
    have key : ∀ l : List Ex, nodesL l < n → allL chkE l = shapeL l := by
      intro l
      induction l with
      | nil => intro _; rfl
      | cons x r ihl =>
        intro h
        rw [nodesL] at h
        rw [allL, shapeL, ih x.nodes (by omega) x rfl, ihl (by omega)]
    have hne := Ex.nodes_eq e
    obtain ⟨k, t, m, kids⟩ := e
    change (Ex.mk k t m kids).nodes = 1 + nodesL kids at hne
    have hkk := key kids (by omega)
    rw [Ex.all_eq, shapeE]
    show (node1 k t m kids.length && allL chkE kids) = _
    rw [hkk]

def noExpr : ByteArray := ⟨#[110, 111, 116, 32, 97, 110, 32, 101, 120, 112, 114, 101, 115, 115, 105, 111, 110]⟩
def noPanic : List PanicEntry := [{ v := .iface 9 (.string noExpr), recovered := false }]

set_option maxHeartbeats 1000000 in
theorem countCall (wb : Nat) (e : Ex) (a : Option Addr) (c m : Nat) (w : World) (hc : w.cell? ⟨wb, 0, none⟩ = some (.int .i64 m)) (hz : w.frozen? ⟨wb, 0, none⟩ = false) (hm : m ≤ 1073741824) :
    Calls Tryd.prog 111 #[.pointer (some ⟨wb, 0, none⟩), .agg #[.int .i64 e.kind, .string e.text, .int .i64 e.num, .slice a e.kids.length c]] w fun x w' =>
      x = .returned (.tuple #[]) ∧ w.grownBy w' (some wb) ∧ w'.cell? ⟨wb, 0, none⟩ = some (.int .i64 (m + 1 : Nat)) ∧ w'.frozen? ⟨wb, 0, none⟩ = false := by
  have hlt := World.block_lt_of_cell? w ⟨wb, 0, none⟩ hc
  have H := Lib.hid (count_grown hc hz)
  go_enter Tryd.func111, Tryd.ntmps111
  go_wp2_with fail
  refine bodyPost_end (results_none rfl _ _ _) rfl ?_
  obtain ⟨h1, h2, h3⟩ := H.out _ (by go_num) rfl
  exact ⟨rfl, h1, h2, h3⟩

theorem FormsAt.grown {w w' : World} {wb : Nat} (h : FormsAt w) (hg : w.grownBy w' (some wb)) (hne : wb ≠ 1) : FormsAt w' := by
  refine ⟨Nat.lt_of_lt_of_le h.1 hg.size, fun i hi => ?_⟩
  obtain ⟨h0, h1, h2, h3⟩ := h.2 i hi
  have e := cell_grown hg h.1 (fun h => hne (Option.some.inj h))
  exact ⟨(e _).trans h0, (e _).trans h1, (e _).trans h2, (e _).trans h3⟩

set_option maxRecDepth 100000 in
set_option maxHeartbeats 2000000 in
theorem checkSees (wb : Nat) (hwb : wb ≠ 1) : Sees FormsAt 70 wb chkE 40 noPanic := by
  intro e a c d m w hFw hfit hk hc hz hm
  have hlt := World.block_lt_of_cell? w ⟨wb, 0, none⟩ hc
  have hl := hk.len
  have hts := hfit.1
  have hg0 := fun o => grownBy_alloc w o (some wb)
  have HBX := Lib.hid (fun T => boxK_new w e.kind e.text e.num a e.kids.length c T)
  have HF := Lib.hid hFw
  clear hk hfit hFw
  have HC : Hid (∀ o, (w.alloc o).cell? ⟨wb, 0, none⟩ = some (.int .i64 m) ∧ (w.alloc o).frozen? ⟨wb, 0, none⟩ = false) := fun o =>
    ⟨((grownBy_alloc w o none).cell_far ⟨wb, 0, none⟩ hlt (by simp)).trans hc, ((grownBy_alloc w o none).frozen_far ⟨wb, 0, none⟩ hlt (by simp)).trans hz⟩
  go_enter Tryd.func70, Tryd.ntmps70
  go_wp2_with fail
  refine (countCall wb e a c m _ (HC.out _).1 (HC.out _).2 hm).mono ?_
  rintro x w2 ⟨rfl, hg2, hc2, hz2⟩
  have BX : BoxK w e.kind e.text e.num a e.kids.length c w2 ∨ True := .inr trivial
  have hcells : w2.cell? ⟨w.heap.size, 0, none⟩ = some (.int .i64 e.kind) ∧ w2.cell? ⟨w.heap.size, 1, none⟩ = some (.string e.text) ∧ w2.cell? ⟨w.heap.size, 2, none⟩ = some (.int .i64 e.num) ∧ w2.cell? ⟨w.heap.size, 3, none⟩ = some (.slice a e.kids.length c) := by
    obtain ⟨q0, q1, q2, q3, q4, _⟩ := HBX.out 26
    have e' := cell_grown hg2 q0 (fun h => by have := Option.some.inj h; omega)
    exact ⟨(e' _).trans q1, (e' _).trans q2, (e' _).trans q3, (e' _).trans q4⟩
  obtain ⟨b0, b1, b2, b3⟩ := hcells
  have HG2 := Lib.hid ((hg0 _).trans hg2)
  have HF2 := Lib.hid ((HF.out.grown (hg0 (.cells #[.int .i64 e.kind, .string e.text, .int .i64 e.num, .slice a e.kids.length c] 26)) hwb).grown hg2 hwb)
  clear hg2 BX hg0
  by_cases h40 : m + 1 ≤ 40
  · have hd : decide (40 < ((m + 1 : Nat) : Int)) = false := by simp; omega
    have hd2 : decide (m + 1 ≤ 40) = true := decide_eq_true h40
    cases hck : chkE e with
    | true =>
      have HCK := Lib.hid (show node1 e.kind e.text e.num e.kids.length = true from hck)
      clear hck
      go_wp2_with fail
      refine (implNodeOk e.kind e.text e.num a e.kids.length c _ HF2.out hts hl true HCK.out).mono ?_
      rintro x w3 ⟨rfl, hb3⟩
      have HB3 := Lib.hid hb3
      clear hb3
      go_wp2_with fail
      refine bodyPost_end (results_none rfl _ _ _) rfl ?_
      have hlt2 : wb < w2.heap.size := Nat.lt_of_lt_of_le hlt HG2.out.size
      have hb3 := HB3.out
      exact ⟨HG2.out.trans ⟨hb3.os, hb3.tape, hb3.output, hb3.size, fun k hk _ => hb3.block k hk⟩, (hb3.cell (p := ⟨wb, 0, none⟩) hlt2).trans hc2, (hb3.frozen (p := ⟨wb, 0, none⟩) hlt2).trans hz2, by rw [show chkE e = true from HCK.out]; first | rfl | (rw [hd2]; rfl)⟩
    | false =>
      have HCK := Lib.hid (show node1 e.kind e.text e.num e.kids.length = false from hck)
      clear hck
      go_wp2_with fail
      refine (implNodeOk e.kind e.text e.num a e.kids.length c _ HF2.out hts hl false HCK.out).mono ?_
      rintro x w3 ⟨rfl, hb3⟩
      have HB3 := Lib.hid hb3
      clear hb3
      go_wp2_with fail
      have hlt2 : wb < w2.heap.size := Nat.lt_of_lt_of_le hlt HG2.out.size
      have hb3 := HB3.out
      exact ⟨rfl, HG2.out.trans ⟨hb3.os, hb3.tape, hb3.output, hb3.size, fun k hk _ => hb3.block k hk⟩, (hb3.cell (p := ⟨wb, 0, none⟩) hlt2).trans hc2, (hb3.frozen (p := ⟨wb, 0, none⟩) hlt2).trans hz2, by rw [show chkE e = false from HCK.out]; rfl⟩
  · have hd : decide (40 < ((m + 1 : Nat) : Int)) = true := by simp; omega
    have hd2 : decide (m + 1 ≤ 40) = false := decide_eq_false h40
    go_wp2_with fail
    exact ⟨rfl, HG2.out, hc2, hz2, by first | rfl | (rw [hd2, Bool.and_false]; rfl)⟩

theorem catchP (p : Addr) (x : Bool) (u : TypeId) (pv : Value) (older : List PanicEntry) (w : World) (hc : w.cell? p = some (.bool x)) (hz : w.frozen? p = false) :
    CallsD Tryd.prog 69 #[.pointer (some p)] (.panicking ({ v := .iface u pv, recovered := false } :: older)) w fun e u' w' =>
      e = .returned (.tuple #[]) ∧ u' = .panicking ({ v := .iface u pv, recovered := true } :: older) ∧ w' = w.setCell p (.bool false) := by
  refine callsD_of_wpS Tryd.func69 rfl fun c₀ cs hu => ?_
  apply wpS_seq
  apply wpS_region
  simp [wpOpsS, go_sem, recoverD, hu, Tryd.ntmps69, Exit.thenS]
  refine wpS_cond (t := true) (by simp [Act.eval, Array.replicate]) ?_
  simp only [if_true]
  apply wpS_region
  simp [wpOpsS, go_sem, hc, hz, bodyPostS, results, Tryd.results69]

theorem catchI (p : Addr) (w : World) :
    CallsD Tryd.prog 69 #[.pointer (some p)] .returning w fun e u' w' => e = .returned (.tuple #[]) ∧ u' = .returning ∧ w' = w := by
  refine callsD_of_wpS Tryd.func69 rfl fun c₀ cs hu => ?_
  apply wpS_seq
  apply wpS_region
  simp [wpOpsS, go_sem, recoverD, hu, Tryd.ntmps69, Exit.thenS]
  refine wpS_cond (t := false) (by simp [Act.eval, Array.replicate]) ?_
  simp only [Bool.false_eq_true, if_false]
  refine wpS_of_wp (wp_skip ?_)
  cases c₀
  simp_all [bodyPostS, results, Tryd.results69]

set_option maxRecDepth 100000 in
set_option maxHeartbeats 2000000 in
theorem implExprOk (e : Ex) (a : Option Addr) (c d : Nat) (w : World) (hF : FormsAt w) (hfit : e.fit) (hk : KidsAt w d a c e.kids) (hn : e.nodes ≤ 1073741824) (v : Bool) (hv : (decide (e.nodes ≤ 40) && shapeE e) = v) :
    Calls Tryd.prog 27 #[.agg #[.int .i64 e.kind, .string e.text, .int .i64 e.num, .slice a e.kids.length c]] w fun x w' => x = .returned (.bool v) ∧ Below w.heap.size w w' := by
  have hmf : ∀ (fn : Fn) (first cap : Array Value) (w : World), (Instr.makeFunc fn first cap).run Tryd.prog w = .ok (.func fn first cap) w := fun _ _ _ _ => rfl
  have hGlt := hF.1
  have HB : Hid (∀ o1 o2 o3 W, W = ((w.alloc o1).alloc o2).alloc o3 → Below w.heap.size w W) := by
    intro o1 o2 o3 W hW
    subst hW; exact (((Below.refl _ _).alloc (Nat.le_refl _) _).alloc (by simp) _).alloc (by simp; omega) _
  have HK : Hid (∀ o1 o2 o3 W, W = ((w.alloc o1).alloc o2).alloc o3 → KidsQ (fun b => b ≠ w.heap.size + 2) W d a c e.kids ∧ FormsAt W) := by
    intro o1 o2 o3 W hW
    have hb := HB.out o1 o2 o3 W hW
    exact ⟨(hk.q.agree hb.size fun b h _ o => hb.cell (p := ⟨b, o, none⟩) h).imp fun b h _ => by omega, hF.below hb hGlt⟩
  have HV : Hid ((e.all chkE && decide (0 + e.nodes ≤ 40)) = v) := by unfold Hid; rw [all_shape, Nat.zero_add, Bool.and_comm]; exact hv
  clear hk hF hv
  go_enter_defers Tryd.func27, Tryd.ntmps27
  go_wp2_with fail
  refine (eachCheck (checkSees (w.heap.size + 2) (by omega)) e a c d 0 _ (fun w' hg => (HK.out _ _ _ _ rfl).2.grown hg (by omega)) hfit (HK.out _ _ _ _ rfl).1 (by simp) (by simp [go_sem]) (by simp [go_sem]) (by omega)).mono ?_
  rintro x w2 ⟨hg, rfl, _⟩
  rw [HV.out]
  have hbox : w2.cell? ⟨w.heap.size + 1, 0, none⟩ = some (.bool false) ∧ w2.frozen? ⟨w.heap.size + 1, 0, none⟩ = false := by
    refine ⟨(cell_grown hg (b := w.heap.size + 1) (by simp) (fun h => by have := Option.some.inj h; omega) 0).trans (by simp [go_sem]), (hg.frozen_far ⟨w.heap.size + 1, 0, none⟩ (by simp) (fun h => by have := Option.some.inj h; simp only at this; omega)).trans (by simp [go_sem])⟩
  obtain ⟨hbx, hbz⟩ := hbox
  have HB2 : Hid (Below w.heap.size w w2) := by
    refine Below.trans (HB.out _ _ _ _ rfl) ⟨hg.os, hg.tape, hg.output, hg.size, fun k hk => hg.block k ?_ ?_⟩
    · simp; omega
    · intro h; have := Option.some.inj h; omega
  clear hg
  cases v with
  | true =>
    simp only [SeeX, if_true]
    go_wp2_with fail
    refine leaves_cons (f := 69) (args := #[.pointer (some ⟨w.heap.size + 1, 0, none⟩)]) (by simp) (by simp [go_sem]) ?_
    refine (catchI ⟨w.heap.size + 1, 0, none⟩ _).mono ?_
    rintro e u' w'' ⟨rfl, rfl, rfl⟩
    simp [Leaves, settle, results, Tryd.results27, go_sem, hbx]
    exact HB2.out.setCell (p := ⟨w.heap.size + 1, 0, none⟩) (by simp) _
  | false =>
    simp only [SeeX, Bool.false_eq_true, if_false, noPanic]
    go_wp2_with fail
    refine leaves_cons (f := 69) (args := #[.pointer (some ⟨w.heap.size + 1, 0, none⟩)]) (by simp) (by simp [go_sem]) ?_
    refine (catchP ⟨w.heap.size + 1, 0, none⟩ false 9 _ [] _ hbx hbz).mono ?_
    rintro e u' w'' ⟨rfl, rfl, rfl⟩
    simp [Leaves, settle, results, Tryd.results27, go_sem, hbx]
    exact HB2.out.setCell (p := ⟨w.heap.size + 1, 0, none⟩) (by simp) _

end Go.Proofs.YtpdcmmhhgnackaaDoor

namespace Go.Proofs.YtpdcmmhhgnackaaDoor
open Go.RowKit

def gvO (ls : List Lb) (t : Ty) : Option Opd → Bool
  | none => false
  | some o => stoB ls t.kind t.len t.name o

/-- What impl.Gives answers. -/
def gvI (ls : List Lb) (t : Ty) (e : Ex) : Bool := if (decide (e.nodes ≤ 40) && shapeE e) = true then gvO ls t (opdE (fun _ => none) ls e) else false

mutual
theorem ar_of : (e : Ex) → shapeE e = true → arE e = true
  | .mk k t n kids => by
    intro hs
    rw [shapeE, Bool.and_eq_true] at hs
    rw [arE, Bool.and_eq_true]
    refine ⟨?_, arL_of kids hs.2⟩
    have h1 := hs.1
    unfold node1 at h1
    simp only [Bool.and_eq_true, decide_eq_true_eq] at h1
    rw [Bool.or_eq_true]
    by_cases h10 : k = 10 ∨ k = 11
    · right
      have : kidsK k = 2 := by rcases h10 with h | h <;> subst h <;> rfl
      have h2 := h1.1.1
      rw [this] at h2
      simp
      omega
    · left
      simp only [not_or] at h10
      simp [h10.1, h10.2]
theorem arL_of : (l : List Ex) → shapeL l = true → arL l = true
  | [] => fun _ => by rw [arL]
  | e :: r => by
    intro hs
    rw [shapeL, Bool.and_eq_true] at hs
    rw [arL, Bool.and_eq_true]
    exact ⟨ar_of e hs.1, arL_of r hs.2⟩
end

theorem resK_plain (k : Int) : ∃ m, resK k = .plain m := by
  unfold resK
  split
  · exact ⟨_, rfl⟩
  · exact ⟨_, rfl⟩

theorem opd_text {ls : List Lb} {e : Ex} {s : ByteArray} (h : opdE (fun _ => none) ls e = some (.text s)) : s = e.text := by
  obtain ⟨k, t, n, kids⟩ := e
  rw [opdE] at h
  split at h
  · cases h
  · split at h
    · cases h
    · split at h
      · cases h; rfl
      · split at h
        · cases h
        · split at h
          · cases h
          · cases hl : opdL (fun _ => none) ls kids with
            | none => rw [hl] at h; cases h
            | some xs =>
              rw [hl] at h
              simp only at h
              obtain ⟨m, hm⟩ := resK_plain k
              split at h
              · rw [hm] at h; cases h
              · cases h

set_option maxRecDepth 100000 in
set_option maxHeartbeats 8000000 in
theorem implGives (e : Ex) (ak : Option Addr) (ck d : Nat) (t : Ty) (la : Option Addr) (lc : Nat) (ls : List Lb) (w : World) (hF : FormsAt w) (hfit : e.fit) (hk : KidsAt w d ak ck e.kids) (hwt : e.wt ≤ 1048576) (hL : Lbs w la lc ls) :
    Calls Tryd.prog 8 #[.agg #[.int .i64 e.kind, .string e.text, .int .i64 e.num, .slice ak e.kids.length ck], .agg #[.int .i64 t.kind, .int .i64 t.len, .string t.name], .slice la ls.length lc] w fun x w' => x = .returned (.bool (gvI ls t e)) ∧ Below w.heap.size w w' := by
  have HK := Lib.hid (fun w' hb => hk.below (w' := w') hb)
  have HL := Lib.hid (fun w' hb => hL.below (w' := w') hb)
  have HF := Lib.hid (fun w' hb => hF.below (w' := w') (B := w.heap.size) hb hF.1)
  have hnw := nodes_wt e
  have hok : ∃ v, (decide (e.nodes ≤ 40) && shapeE e) = v := ⟨_, rfl⟩
  obtain ⟨v, hv⟩ := hok
  have HV := Lib.hid hv
  have HOP := Lib.hid (implOpd none 0 0 la lc ls (fun _ => none) w hL (implColNone la lc ls w) d)
  have HB0 : Hid (∀ o1 o2, Below w.heap.size w ((w.alloc o1).alloc o2)) := fun o1 o2 => ((Below.refl _ _).alloc (Nat.le_refl _) _).alloc (by simp) _
  clear hk hL hF
  go_enter Tryd.func8, Tryd.ntmps8
  go_wp2_with fail
  refine (implExprOk e ak ck d _ (HF.out _ (HB0.out _ _)) hfit (HK.out _ (HB0.out _ _)) (by omega) v hv).mono ?_
  rintro x w1 ⟨rfl, b1⟩
  have BE := Lib.hid (Blk.call b1 ((blk_new w _ [.int .i64 e.kind, .string e.text, .int .i64 e.num, .slice ak e.kids.length ck]).alloc _))
  have BT := Lib.hid (Blk.call b1 (blk_new' (w := w.alloc _) (b := w.heap.size + 1) (by simp) _ [.int .i64 t.kind, .int .i64 t.len, .string t.name]))
  have HB := Lib.hid (show Below w.heap.size w w1 from Below.call b1 (HB0.out _ _))
  have e0 : w1.cell? ⟨w.heap.size, 0, none⟩ = some (.int .i64 e.kind) := (BE.out.2 0 (by simp)).1
  have e1 : w1.cell? ⟨w.heap.size, 1, none⟩ = some (.string e.text) := (BE.out.2 1 (by simp)).1
  have e2 : w1.cell? ⟨w.heap.size, 2, none⟩ = some (.int .i64 e.num) := (BE.out.2 2 (by simp)).1
  have e3 : w1.cell? ⟨w.heap.size, 3, none⟩ = some (.slice ak e.kids.length ck) := (BE.out.2 3 (by simp)).1
  have he0 : w.heap.size < w1.heap.size := BE.out.1
  have ht0 : w.heap.size + 1 < w1.heap.size := BT.out.1
  clear b1 hv
  cases v with
  | false =>
    have HE : Hid (gvI ls t e = false) := by unfold Hid gvI; rw [if_neg (by rw [HV.out]; simp)]
    go_wp2_with fail
    go_ret
    exact ⟨by rw [HE.out]; rfl, HB.out⟩
  | true =>
    have HSH : Hid (arE e = true) := by have := HV.out; rw [Bool.and_eq_true] at this; exact ar_of e this.2
    have HG : Hid (gvI ls t e = gvO ls t (opdE (fun _ => none) ls e)) := by unfold Hid gvI; rw [if_pos HV.out]
    have HB2 : Hid (∀ o, Below w.heap.size w (w1.alloc o)) := fun o => HB.out.alloc (by omega) o
    have hn2 : e.nodes ≤ 1048577 := by omega
    go_wp2_with fail
    refine (HOP.out e ak ck _ (HB2.out _) (HK.out _ (HB2.out _)) HSH.out hn2).mono ?_
    cases ho : opdE (fun _ => none) ls e with
    | none =>
      simp only [resV]
      rintro x w2 ⟨rfl, b2⟩
      have HE : Hid (gvI ls t e = false) := by unfold Hid; rw [HG.out, ho]; rfl
      have HB3 := Lib.hid (Below.call b2 (HB2.out _))
      clear b2 ho
      go_wp2_with fail
      go_ret
      exact ⟨by rw [HE.out]; rfl, HB3.out⟩
    | some o =>
      simp only [resV]
      rintro x w2 ⟨rfl, b2⟩
      have HE : Hid (gvI ls t e = stoB ls t.kind t.len t.name o) := by unfold Hid; rw [HG.out, ho]; rfl
      have HTX : Hid (∀ s, o = .text s → s.size ≤ 1048576) := fun s hs => by
        rw [hs] at ho
        rw [opd_text ho]
        have := Ex.wt_eq e
        omega
      have HB3 := Lib.hid (Below.call b2 (HB2.out _))
      have BT2 := Lib.hid (Blk.call b2 (BT.out.alloc _))
      have BS2 := Lib.hid (Blk.call b2 (blk_new w1 _ [.slice none 0 0, .slice la ls.length lc]))
      have t0 : w2.cell? ⟨w.heap.size + 1, 0, none⟩ = some (.int .i64 t.kind) := (BT2.out.2 0 (by simp)).1
      have t1 : w2.cell? ⟨w.heap.size + 1, 1, none⟩ = some (.int .i64 t.len) := (BT2.out.2 1 (by simp)).1
      have t2 : w2.cell? ⟨w.heap.size + 1, 2, none⟩ = some (.string t.name) := (BT2.out.2 2 (by simp)).1
      have s0 : w2.cell? ⟨w1.heap.size, 0, none⟩ = some (.slice none 0 0) := (BS2.out.2 0 (by simp)).1
      have s1 : w2.cell? ⟨w1.heap.size, 1, none⟩ = some (.slice la ls.length lc) := (BS2.out.2 1 (by simp)).1
      have HST := Lib.hid (fun W (hb : Below w.heap.size w W) => implStoB none 0 0 la lc ls t.kind t.len t.name o W (HL.out W hb) HTX.out)
      clear b2 ho e0 e1 e2 e3
      go_wp2_with fail
      refine (HST.out _ HB3.out).mono ?_
      rintro x w3 ⟨rfl, b3⟩
      have HB4 := Lib.hid (Below.call b3 HB3.out)
      clear b3
      go_wp2_with fail
      go_ret
      exact ⟨by rw [HE.out]; rfl, HB4.out⟩

end Go.Proofs.YtpdcmmhhgnackaaDoor
