/- (impl.sorter).operation and operand: the walks. -/
/- (impl.sorter).operand, over any contract of column. -/
import Derived.Test.YtefjjcoaeanagaaDoorOpnI
import Derived.Test.YtefjjcoaeanagaaDoorMExNodes
namespace Go.Proofs.YtefjjcoaeanagaaDoor
open Go.RowKit

/-- What column answers. -/
def ColC (ca : Option Addr) (cl cc : Nat) (a : Option Addr) (c : Nat) (ls : List Lb) (col : ByteArray → Option Opd) (w0 : World) : Prop := ∀ (s : ByteArray) (W : World), Below w0.heap.size w0 W →
  Calls Tryd.prog 64 #[.agg #[.slice ca cl cc, .slice a ls.length c], .string s] W fun x w' => x = .returned (resV (col s)) ∧ Below W.heap.size W w'

def OpP (ca : Option Addr) (cl cc : Nat) (a : Option Addr) (c : Nat) (ls : List Lb) (col : ByteArray → Option Opd) (w0 : World) (d : Nat) : Prop := ∀ (e : Ex) (ak : Option Addr) (ck : Nat) (W : World), Below w0.heap.size w0 W → KidsAt W d ak ck e.kids → arE e = true → e.nodes ≤ 1048577 →
  Calls Tryd.prog 32 #[.agg #[.slice ca cl cc, .slice a ls.length c], .agg #[.int .i64 e.kind, .string e.text, .int .i64 e.num, .slice ak e.kids.length ck]] W fun x w' => x = .returned (resV (opdE col ls e)) ∧ Below W.heap.size W w'

/-- The two boxes of operation. -/
structure B2 (w : World) (ca : Option Addr) (cl cc : Nat) (a : Option Addr) (c : Nat) (ls : List Lb) (e : Ex) (ak : Option Addr) (ck : Nat) (W : World) : Prop where
  s0 : W.cell? ⟨w.heap.size, 0, none⟩ = some (.slice ca cl cc)
  s1 : W.cell? ⟨w.heap.size, 1, none⟩ = some (.slice a ls.length c)
  e0 : W.cell? ⟨w.heap.size + 1, 0, none⟩ = some (.int .i64 e.kind)
  e3 : W.cell? ⟨w.heap.size + 1, 3, none⟩ = some (.slice ak e.kids.length ck)
  lt : w.heap.size + 2 ≤ W.heap.size
  bel : Below w.heap.size w W

theorem B2.below {w : World} {ca : Option Addr} {cl cc : Nat} {a : Option Addr} {c : Nat} {ls : List Lb} {e : Ex} {ak : Option Addr} {ck : Nat} {W W' : World} (h : B2 w ca cl cc a c ls e ak ck W) (hb : Below W.heap.size W W') : B2 w ca cl cc a c ls e ak ck W' := by
  have hl := h.lt
  have ce : ∀ b o, b < W.heap.size → W'.cell? ⟨b, o, none⟩ = W.cell? ⟨b, o, none⟩ := fun b o h => hb.cell (p := ⟨b, o, none⟩) h
  exact ⟨(ce _ _ (by omega)).trans h.s0, (ce _ _ (by omega)).trans h.s1, (ce _ _ (by omega)).trans h.e0, (ce _ _ (by omega)).trans h.e3, Nat.le_trans hl hb.size, h.bel.trans (hb.mono h.bel.size)⟩

theorem b2_grown {w : World} {ca : Option Addr} {cl cc : Nat} {a : Option Addr} {c : Nat} {ls : List Lb} {e : Ex} {ak : Option Addr} {ck : Nat} {W W' : World} {row : Option Nat} (h : B2 w ca cl cc a c ls e ak ck W) (hg : W.grownBy W' row) (hr : ∀ q, row = some q → w.heap.size + 2 ≤ q) : B2 w ca cl cc a c ls e ak ck W' := by
  have hl := h.lt
  have ce : ∀ b o, b < w.heap.size + 2 → W'.cell? ⟨b, o, none⟩ = W.cell? ⟨b, o, none⟩ := fun b o h => hg.cell_far ⟨b, o, none⟩ (by show b < _; omega) (fun e => by have := hr b e.symm; omega)
  exact ⟨(ce _ _ (by omega)).trans h.s0, (ce _ _ (by omega)).trans h.s1, (ce _ _ (by omega)).trans h.e0, (ce _ _ (by omega)).trans h.e3, Nat.le_trans hl hg.size, h.bel.grown hg h.bel.size (fun q hq => by have := hr q hq; omega)⟩

theorem b2_new (w : World) (ca : Option Addr) (cl cc : Nat) (a : Option Addr) (c : Nat) (ls : List Lb) (e : Ex) (ak : Option Addr) (ck : Nat) : B2 w ca cl cc a c ls e ak ck ((w.alloc (.cells #[.slice ca cl cc, .slice a ls.length c] 68)).alloc (.cells #[.int .i64 e.kind, .string e.text, .int .i64 e.num, .slice ak e.kids.length ck] 26)) :=
  ⟨by simp [go_sem], by simp [go_sem], by simp [go_sem], by simp [go_sem], by simp, ((Below.refl _ _).alloc (Nat.le_refl _) _).alloc (by simp) _⟩

set_option maxRecDepth 100000 in
set_option maxHeartbeats 4000000 in
theorem implOpn (ca : Option Addr) (cl cc : Nat) (a : Option Addr) (c : Nat) (ls : List Lb) (col : ByteArray → Option Opd) (w0 : World) (hL : Lbs w0 a c ls) (d : Nat) (ih : OpP ca cl cc a c ls col w0 d) (e : Ex) (ak : Option Addr) (ck : Nat) (w : World) (hw : Below w0.heap.size w0 w) (hk : KidsAt w (d + 1) ak ck e.kids) (har : arE e = true) (hn : e.nodes ≤ 1048577) :
    Calls Tryd.prog 65 #[.agg #[.slice ca cl cc, .slice a ls.length c], .agg #[.int .i64 e.kind, .string e.text, .int .i64 e.num, .slice ak e.kids.length ck]] w fun x w' => x = .returned (resV (opnE col ls e)) ∧ Below w.heap.size w w' := by
  obtain ⟨i0, hi0, hz0, hz1, hz2⟩ := info_parts Tryd.infoOperand
  have hl := hk.len
  have hne := Ex.nodes_eq e
  rw [arE_eq, Bool.and_eq_true] at har
  have HAR := Lib.hid har
  have HK := Lib.hid (fun w' hb => hk.below (w' := w') hb)
  have HN := Lib.hid (b2_new w ca cl cc a c ls e ak ck)
  have HKL : Hid (e.kids.length ≤ 1048577) := by unfold Hid; have := nodesL_lenO e.kids; omega
  clear hk har
  generalize hks : e.kids = xs0 at *
  go_enter Tryd.func65, Tryd.ntmps65
  go_wp2_with fail
  go_loopw [6, 14] (fun v i wr => ∃ (k : Nat) (xs : List Opd) (ka : Option Addr) (kc : Nat), k ≤ xs0.length ∧ i = .int .i64 k ∧ v = .slice ka k kc ∧ Hid (xs.length = k ∧ opdL col ls (xs0.take k) = some xs ∧ OwnO wr (w.heap.size + 2) ka kc xs ∧ B2 w ca cl cc a c ls e ak ck wr)) (fun _ i _ => xs0.length - (intOf i).toNat)
  case atStart => exact ⟨0, [], none, 0, Nat.zero_le _, rfl, rfl, rfl, by simp [opdL], World.ownsRow_nil _ _ _ _, HN.out⟩
  case round =>
    obtain ⟨k, xs, ka, kc, hk, rfl, rfl, H⟩ := hrel
    obtain ⟨s0, s1, e0, e3, hlt2, _⟩ := H.out.2.2.2
    have hnl : w.heap.size < wr.heap.size := by omega
    rw [hks] at e3
    by_cases hlt : k < xs0.length
    · obtain ⟨b, off, rfl, hbl, hc0, hc1, hc2, hfit, a', c', hc3, hkid⟩ := (HK.out _ H.out.2.2.2.bel).spot hlt
      have HX := Lib.hid (fun w' hb => hkid.below (w' := w') hb)
      have hnk : Hid (xs0[k].nodes ≤ 1048577) := by have := nodesL_get hlt; unfold Hid; omega
      have hak : Hid (arE xs0[k] = true) := arL_get HAR.out.2 hlt
      have hkb : k ≤ 1048577 := by have := HKL.out; omega
      have HBB : Hid (∀ o, Below wr.heap.size wr (wr.alloc o)) := fun o => (Below.refl _ _).alloc (Nat.le_refl _) o
      have hW0 : Hid (Below w0.heap.size w0 wr) := hw.trans (H.out.2.2.2.bel.mono hw.size)
      clear hkid e0 e3
      go_wp2_with fail
      refine (ih xs0[k] a' c' _ (hW0.out.trans ((HBB.out _).mono hW0.out.size)) (HX.out _ (HBB.out _)) hak.out hnk.out).mono ?_
      have HT := Lib.hid (opdL_take (col := col) (ls := ls) hlt H.out.2.1)
      cases ho : opdE col ls xs0[k] with
      | none =>
        simp only [resV]
        rintro x w2 ⟨rfl, hb2⟩
        have HC : Hid (opnE col ls e = none) := by unfold Hid opnE; rw [hks, HT.out.2 ho]
        have HB2 := Lib.hid (H.out.2.2.2.bel.trans (((HBB.out _).trans (hb2.mono (by simp))).mono H.out.2.2.2.bel.size))
        clear ho hb2
        go_wp2_with fail
        go_ret2
        exact ⟨by rw [HC.out]; rfl, HB2.out⟩
      | some o =>
        simp only [resV]
        rintro x w2 ⟨rfl, hb2⟩
        have HC : Hid (opdL col ls (xs0.take (k + 1)) = some (xs ++ [o])) := HT.out.1 o ho
        have hb3 : Below wr.heap.size wr w2 := (HBB.out _).trans (hb2.mono (by simp))
        have HO2 := Lib.hid (H.out.2.2.1.below hb3)
        have HB2 := Lib.hid (H.out.2.2.2.below hb3)
        have hxl := H.out.1
        have hsz2 : w.heap.size + 2 ≤ w2.heap.size := HB2.out.lt
        have H3 : Hid (∀ o1, OwnO (w2.alloc o1) (w.heap.size + 2) ka kc xs) := fun o1 => HO2.out.below ((Below.refl _ _).alloc (Nat.le_refl _) o1)
        obtain ⟨T1, u1, hvo⟩ : ∃ T u, o.v = .iface T u := by cases o <;> exact ⟨_, _, rfl⟩
        have HVO := Lib.hid hvo
        rw [hvo]
        clear ho hb2 hb3 hvo s0 s1
        subst hxl
        go_wp2_with (at_builtin; go_loud (refine wpList_append_own_at _ rfl (.tmp 26) (.tmp 28) 132 rfl (w.heap.size + 2) 71 i0 .nilIface 1 16 Tryd.underlying132 hi0 hz0 hz1 hz2 rfl (by decide) (.slice ka xs.length kc) xs.length (xs.map Opd.v) rfl (H3.out _) ⟨w2.heap.size, 0, none⟩ 1 1 [.iface T1 u1] rfl rfl (cell_one_new _ _ _) (fun u hu => by simp at hu; subst hu; rfl) (by unfold maxLen; omega) (by omega) (by simp; omega) ?_; intro v4 w4 hown4 hg4 _ _))
        obtain ⟨a4, c4, rfl⟩ : ∃ a4 c4, v4 = .slice a4 (xs.length + 1) c4 := by
          rcases hown4.2 with ⟨_, h0⟩ | ⟨g', cap, cur, rfl, _⟩
          · omega
          · exact ⟨_, _, rfl⟩
        have HR : Hid ((xs ++ [o]).length = xs.length + 1 ∧ opdL col ls (xs0.take (xs.length + 1)) = some (xs ++ [o]) ∧ OwnO w4 (w.heap.size + 2) a4 c4 (xs ++ [o]) ∧ B2 w ca cl cc a c ls e (some ⟨b, off, none⟩) ck w4) := by
          refine ⟨by simp, HC.out, by unfold OwnO; rw [← HVO.out] at hown4; simpa using hown4, ?_⟩
          have hb5 : Below w2.heap.size w2 (w2.alloc (.cells #[.iface T1 u1] 71)) := (Below.refl _ _).alloc (Nat.le_refl _) _
          have h5 := HB2.out.below hb5
          exact b2_grown h5 hg4 (fun q hq => (World.ownsRow.lt HO2.out q hq).1)
        clear hown4 hg4
        go_roundw
        case rel => exact ⟨xs.length + 1, xs ++ [o], a4, c4, by omega, by go_num, rfl, HR⟩
        case measure => simp [intOf]; omega
    · obtain rfl : k = xs0.length := by omega
      have hol : Hid (opdL col ls xs0 = some xs) := by have := H.out.2.1; rw [List.take_length] at this; exact this
      have HOP := Lib.hid H.out.2.2.1.opds
      have hxl := H.out.1
      have hW0 : Hid (Below w0.heap.size w0 wr) := hw.trans (H.out.2.2.2.bel.mono hw.size)
      have h2 : Hid ((e.kind == 10) = true ∨ (e.kind == 11) = true → xs.length = 2) := by
        intro h
        have h3 := HAR.out.1
        rw [hxl]
        rcases h with h | h
        · rw [h] at h3; simpa using h3
        · rw [h] at h3; simpa using h3
      have HB2 := Lib.hid H.out.2.2.2
      have HA := Lib.hid (implAcc ca cl cc a c ls e.kind ka kc xs wr (hL.below hW0.out) HOP.out h2.out)
      rw [hxl] at HA
      have hnl2 : w.heap.size + 1 < wr.heap.size := by omega
      clear hxl
      go_wp2_with fail
      refine HA.out.mono ?_
      cases hacc : accB ls e.kind xs with
      | false =>
        rintro x w2 ⟨rfl, hb2⟩
        have HC : Hid (opnE col ls e = none) := by unfold Hid opnE; rw [hks, hol.out]; simp [hacc]
        have HB3 := Lib.hid (HB2.out.bel.trans (hb2.mono HB2.out.bel.size))
        clear hacc hb2
        go_wp2_with fail
        go_ret2
        exact ⟨by rw [HC.out]; rfl, HB3.out⟩
      | true =>
        rintro x w2 ⟨rfl, hb2⟩
        have HC : Hid (opnE col ls e = some (resK e.kind)) := by unfold Hid opnE; rw [hks, hol.out]; simp [hacc]
        have HB3 := Lib.hid (HB2.out.bel.trans (hb2.mono HB2.out.bel.size))
        have e0' := (HB2.out.below hb2).e0
        clear hacc hb2 e0 e3 s0 s1
        by_cases h16 : (e.kind == 16) = true
        · have HR : Hid (resK e.kind = .plain 0) := by unfold Hid resK; rw [if_pos (.inl h16)]
          go_wp2_with fail
          go_ret2
          exact ⟨by rw [HC.out, HR.out]; rfl, HB3.out⟩
        have g16 : (e.kind == 16) = false := by simpa using h16
        by_cases h17 : (e.kind == 17) = true
        · have HR : Hid (resK e.kind = .plain 0) := by unfold Hid resK; rw [if_pos (.inr (.inl h17))]
          clear h16
          go_wp2_with fail
          go_ret2
          exact ⟨by rw [HC.out, HR.out]; rfl, HB3.out⟩
        have g17 : (e.kind == 17) = false := by simpa using h17
        by_cases h18 : (e.kind == 18) = true
        · have HR : Hid (resK e.kind = .plain 0) := by unfold Hid resK; rw [if_pos (.inr (.inr h18))]
          clear h16 h17
          go_wp2_with fail
          go_ret2
          exact ⟨by rw [HC.out, HR.out]; rfl, HB3.out⟩
        have g18 : (e.kind == 18) = false := by simpa using h18
        have HR : Hid (resK e.kind = .plain 2) := by
          unfold Hid resK
          rw [if_neg (by rintro (h | h | h); exact h16 h; exact h17 h; exact h18 h)]
        clear h16 h17 h18
        go_wp2_with fail
        go_ret2
        exact ⟨by rw [HC.out, HR.out]; rfl, HB3.out⟩

end Go.Proofs.YtefjjcoaeanagaaDoor

namespace Go.Proofs.YtefjjcoaeanagaaDoor
open Go.RowKit

theorem opdE_eq (col : ByteArray → Option Opd) (ls : List Lb) (e : Ex) : opdE col ls e =
    if (e.kind == 0) = true then col e.text else if (e.kind == 1) = true then some (.plain 0) else if (e.kind == 2) = true then some (.text e.text)
    else if (e.kind == 3) = true ∨ (e.kind == 4) = true then some (.plain 2) else if (e.kind == 5) = true then some (.plain 4)
    else opnE col ls e := by
  cases e with
  | mk k s n kids =>
    simp only [opdE, opnE, Ex.kind, Ex.text, Ex.kids]
    cases opdL col ls kids <;> rfl

set_option maxRecDepth 100000 in
set_option maxHeartbeats 1000000 in
theorem implOpdS (ca : Option Addr) (cl cc : Nat) (a : Option Addr) (c : Nat) (ls : List Lb) (col : ByteArray → Option Opd) (w0 : World) (hL : Lbs w0 a c ls) (hC : ColC ca cl cc a c ls col w0) (d : Nat) (ih : OpP ca cl cc a c ls col w0 d) : OpP ca cl cc a c ls col w0 (d + 1) := by
  intro e ak ck w hw hk har hn
  have hl := hk.len
  have HB0 : Hid (∀ o1 o2, Below w.heap.size w ((w.alloc o1).alloc o2)) := fun o1 o2 => ((Below.refl _ _).alloc (Nat.le_refl _) _).alloc (by simp) _
  have HOP := Lib.hid (fun W (hb : Below w.heap.size w W) => implOpn ca cl cc a c ls col w0 hL d ih e ak ck W (hw.trans (hb.mono hw.size)) (hk.below hb) har hn)
  have HCC := Lib.hid (fun W (hb : Below w.heap.size w W) => hC e.text W (hw.trans (hb.mono hw.size)))
  have HE := Lib.hid (opdE_eq col ls e)
  clear hk har ih hC
  by_cases h0 : (e.kind == 0) = true
  · have HR : Hid (opdE col ls e = col e.text) := by unfold Hid; rw [HE.out, if_pos h0]
    clear HOP HE
    go_enter Tryd.func32, Tryd.ntmps32
    go_wp2_with fail
    refine (HCC.out _ (HB0.out _ _)).mono ?_
    cases hcol : col e.text with
    | none =>
      simp only [resV]
      rintro x w2 ⟨rfl, hb2⟩
      have HB := Lib.hid ((HB0.out _ _).trans (hb2.mono (HB0.out _ _).size))
      go_wp2_with fail
      go_ret2
      exact ⟨by rw [HR.out, hcol]; rfl, HB.out⟩
    | some o =>
      simp only [resV]
      rintro x w2 ⟨rfl, hb2⟩
      have HB := Lib.hid ((HB0.out _ _).trans (hb2.mono (HB0.out _ _).size))
      go_wp2_with fail
      go_ret2
      exact ⟨by rw [HR.out, hcol]; rfl, HB.out⟩
  have g0 : (e.kind == 0) = false := by simpa using h0
  by_cases h1 : (e.kind == 1) = true
  · have HR : Hid (opdE col ls e = some (.plain 0)) := by unfold Hid; rw [HE.out, if_neg h0, if_pos h1]
    clear HOP HE HCC h0
    go_enter Tryd.func32, Tryd.ntmps32
    go_wp2_with fail
    go_ret2
    exact ⟨by rw [HR.out]; rfl, HB0.out _ _⟩
  have g1 : (e.kind == 1) = false := by simpa using h1
  by_cases h2 : (e.kind == 2) = true
  · have HR : Hid (opdE col ls e = some (.text e.text)) := by unfold Hid; rw [HE.out, if_neg h0, if_neg h1, if_pos h2]
    clear HOP HE HCC h0 h1
    go_enter Tryd.func32, Tryd.ntmps32
    go_wp2_with fail
    go_ret2
    exact ⟨by rw [HR.out]; rfl, HB0.out _ _⟩
  have g2 : (e.kind == 2) = false := by simpa using h2
  by_cases h3 : (e.kind == 3) = true
  · have HR : Hid (opdE col ls e = some (.plain 2)) := by unfold Hid; rw [HE.out, if_neg h0, if_neg h1, if_neg h2, if_pos (.inl h3)]
    clear HOP HE HCC h0 h1 h2
    go_enter Tryd.func32, Tryd.ntmps32
    go_wp2_with fail
    go_ret2
    exact ⟨by rw [HR.out]; rfl, HB0.out _ _⟩
  have g3 : (e.kind == 3) = false := by simpa using h3
  by_cases h4 : (e.kind == 4) = true
  · have HR : Hid (opdE col ls e = some (.plain 2)) := by unfold Hid; rw [HE.out, if_neg h0, if_neg h1, if_neg h2, if_pos (.inr h4)]
    clear HOP HE HCC h0 h1 h2 h3
    go_enter Tryd.func32, Tryd.ntmps32
    go_wp2_with fail
    go_ret2
    exact ⟨by rw [HR.out]; rfl, HB0.out _ _⟩
  have g4 : (e.kind == 4) = false := by simpa using h4
  have h34 : ¬((e.kind == 3) = true ∨ (e.kind == 4) = true) := by rintro (h | h); exact h3 h; exact h4 h
  by_cases h5 : (e.kind == 5) = true
  · have HR : Hid (opdE col ls e = some (.plain 4)) := by unfold Hid; rw [HE.out, if_neg h0, if_neg h1, if_neg h2, if_neg h34, if_pos h5]
    clear HOP HE HCC h0 h1 h2 h3 h4 h34
    go_enter Tryd.func32, Tryd.ntmps32
    go_wp2_with fail
    go_ret2
    exact ⟨by rw [HR.out]; rfl, HB0.out _ _⟩
  have g5 : (e.kind == 5) = false := by simpa using h5
  have HR : Hid (opdE col ls e = opnE col ls e) := by unfold Hid; rw [HE.out, if_neg h0, if_neg h1, if_neg h2, if_neg h34, if_neg h5]
  clear HE HCC h0 h1 h2 h3 h4 h34 h5
  go_enter Tryd.func32, Tryd.ntmps32
  go_wp2_with fail
  refine (HOP.out _ (HB0.out _ _)).mono ?_
  cases hop : opnE col ls e with
  | none =>
    simp only [resV]
    rintro x w2 ⟨rfl, hb2⟩
    have HB := Lib.hid ((HB0.out _ _).trans (hb2.mono (HB0.out _ _).size))
    go_wp2_with fail
    go_ret2
    exact ⟨by rw [HR.out, hop]; rfl, HB.out⟩
  | some o =>
    simp only [resV]
    rintro x w2 ⟨rfl, hb2⟩
    have HB := Lib.hid ((HB0.out _ _).trans (hb2.mono (HB0.out _ _).size))
    go_wp2_with fail
    go_ret2
    exact ⟨by rw [HR.out, hop]; rfl, HB.out⟩

/-- operand, over any contract of column. -/
theorem implOpd (ca : Option Addr) (cl cc : Nat) (a : Option Addr) (c : Nat) (ls : List Lb) (col : ByteArray → Option Opd) (w0 : World) (hL : Lbs w0 a c ls) (hC : ColC ca cl cc a c ls col w0) : (d : Nat) → OpP ca cl cc a c ls col w0 d
  | 0 => fun _ _ _ _ _ hk => hk.elim
  | d + 1 => implOpdS ca cl cc a c ls col w0 hL hC d (implOpd ca cl cc a c ls col w0 hL hC d)

end Go.Proofs.YtefjjcoaeanagaaDoor
