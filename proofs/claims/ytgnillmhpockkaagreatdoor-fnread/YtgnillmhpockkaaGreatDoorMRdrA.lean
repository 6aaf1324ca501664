/- The program's reader of expressions: operation. -/
/- The program's reader of expressions: extended. -/
/- The program's reader of expressions: expr; all of it. -/
import Derived.Test.YtgnillmhpockkaaGreatDoorMDrawOdd
namespace Go.Proofs.YtgnillmhpockkaaGreatDoor
open Go.RowKit

theorem op_range {r r' : List W} {k : Int} (h : opI r = some (k, r')) : ∃ i : Nat, k = (i : Int) ∧ 7 ≤ i ∧ i < 19 := by
  cases r with
  | nil => cases h
  | cons x t =>
    rw [opI] at h
    split at h
    · split at h
      · cases h; exact ⟨7, rfl, by omega, by omega⟩
      · cases h
    · split at h
      · rename_i k' hf
        cases h
        have hm := List.mem_of_find?_eq_some hf
        have : ∀ k ∈ ([8, 9, 10, 11, 12, 13, 14, 15, 16, 17, 18] : List Int), 8 ≤ k ∧ k ≤ 18 := by decide
        have := this _ hm
        exact ⟨k.toNat, by omega, by omega, by omega⟩
      · cases h

theorem fm_strength9 : ∀ i, i < 19 → (fm i).strength = (bindsK (i : Int) : Int) := by decide

theorem firstK_i (i : Nat) : firstK (i : Int) = if bindsK (i : Int) = 4 then 5 else bindsK (i : Int) := rfl

/-- What lies while an operation is read. -/
structure OpS (tp : TypeId) (p : Value) (w : World) (lo : Nat → Prop) (rb : Nat) (a : Option Addr) (c : Nat) (l : List Tk) (m : Nat) (e : Ex) (ea : Option Addr) (ec s : Nat) (W : World) : Prop where
  stp : Stp w rb a c l m W
  L : Bx W w.heap.size e.kind e.text e.num (.slice ea e.kids.length ec) (s : Int)
  R : Bx W (w.heap.size + 1) 0 ⟨#[]⟩ 0 (.slice none 0 0) 0
  tr : TrQ W (fun b => lo b ∧ b < w.heap.size) e ea ec
  g : RG tp p W

theorem OpS.below {tp : TypeId} {p : Value} {w : World} {lo : Nat → Prop} {rb : Nat} {a : Option Addr} {c : Nat} {l : List Tk} {m : Nat} {e : Ex} {ea : Option Addr} {ec s : Nat} {W W' : World} (h : OpS tp p w lo rb a c l m e ea ec s W) (hb : Below W.heap.size W W') : OpS tp p w lo rb a c l m e ea ec s W' :=
  ⟨h.stp.below hb, h.L.below hb, h.R.below hb, h.tr.below hb, h.g.below hb h.g.big⟩

def OpC (w : World) (e : Ex) (ea : Option Addr) (ec s i : Nat) (k0 st k2 : Int) (k3 : ByteArray) (W : World) : Prop :=
  W.cell? ⟨w.heap.size, 4, none⟩ = some (.int .i64 (s : Int)) ∧ W.cell? ⟨0, i * 4, none⟩ = some (.int .i64 k0) ∧ W.cell? ⟨0, i * 4 + 1, none⟩ = some (.int .i64 st) ∧ W.cell? ⟨0, i * 4 + 2, none⟩ = some (.int .i64 k2) ∧ W.cell? ⟨0, i * 4 + 3, none⟩ = some (.string k3)

set_option maxRecDepth 100000 in
set_option maxHeartbeats 8000000 in
theorem rdOperation {tp : TypeId} {p : Value} {rb : Nat} {a : Option Addr} {c : Nat} {l : List Tk} {f : Nat} (ih : ExprAt tp p rb a c l f) : OperationAt tp p rb a c l f := by
  intro n at_ s lo e ea ec w h1 h7 hs7 hr htr hlo hroom
  have hl := hr.rd.len
  have hat := hr.hat
  have hrbl := hr.rd.lt
  have hroom' : Hid (3 * (left l at_).length + 2 ≤ f + 1) := hroom
  have HB0 := Lib.hid (show Below w.heap.size w ((w.alloc (.cells #[.int .i64 e.kind, .string e.text, .int .i64 e.num, .slice ea e.kids.length ec, .int .i64 (s : Int)] 67)).alloc (.cells #[.int .i64 0, .string ⟨#[]⟩, .int .i64 0, .slice none 0 0, .int .i64 0] 67)) from ((Below.refl _ _).alloc (Nat.le_refl _) _).alloc (by simp) _)
  have HS0 := Lib.hid ((Stp.refl hr.rd).below HB0.out)
  have HL0 : Hid (Bx ((w.alloc (.cells #[.int .i64 e.kind, .string e.text, .int .i64 e.num, .slice ea e.kids.length ec, .int .i64 (s : Int)] 67)).alloc (.cells #[.int .i64 0, .string ⟨#[]⟩, .int .i64 0, .slice none 0 0, .int .i64 0] 67)) w.heap.size e.kind e.text e.num (.slice ea e.kids.length ec) (s : Int)) := (bx_new w _ _ _ _ _).below ((Below.refl _ _).alloc (Nat.le_refl _) _)
  have HR0 : Hid (Bx ((w.alloc (.cells #[.int .i64 e.kind, .string e.text, .int .i64 e.num, .slice ea e.kids.length ec, .int .i64 (s : Int)] 67)).alloc (.cells #[.int .i64 0, .string ⟨#[]⟩, .int .i64 0, .slice none 0 0, .int .i64 0] 67)) (w.heap.size + 1) 0 ⟨#[]⟩ 0 (.slice none 0 0) 0) := by
    have h := bx_new (w.alloc (.cells #[.int .i64 e.kind, .string e.text, .int .i64 e.num, .slice ea e.kids.length ec, .int .i64 (s : Int)] 67)) 0 ⟨#[]⟩ 0 (.slice none 0 0) 0
    rw [size_allocE] at h
    exact h
  have HZ0 : Hid (((w.alloc (.cells #[.int .i64 e.kind, .string e.text, .int .i64 e.num, .slice ea e.kids.length ec, .int .i64 (s : Int)] 67)).alloc (.cells #[.int .i64 0, .string ⟨#[]⟩, .int .i64 0, .slice none 0 0, .int .i64 0] 67)).heap.size = w.heap.size + 2) := by unfold Hid; simp
  have HT0 := Lib.hid ((htr.imp (q' := fun b => lo b ∧ b < w.heap.size) (fun b h1 h2 => ⟨h1, h2⟩)).below HB0.out)
  have HRY := Lib.hid hr
  have HLL := Lib.hid (left_len l at_)
  clear hr hroom HB0 htr
  go_enter Tryz.func108, Tryz.ntmps108
  go_wp2_with fail
  generalize (w.alloc (.cells #[.int .i64 e.kind, .string e.text, .int .i64 e.num, .slice ea e.kids.length ec, .int .i64 (s : Int)] 67)).alloc (.cells #[.int .i64 0, .string ⟨#[]⟩, .int .i64 0, .slice none 0 0, .int .i64 0] 67) = W0 at HS0 HL0 HR0 HZ0 HT0 ⊢
  refine (rdOperator HS0.out.rd (by omega) (HRY.out.g.grown HS0.out.gr HRY.out.hrb).forms (by have := HRY.out.hrb; omega)).mono ?_
  intro x w1 hx
  unfold OperP at hx
  cases ho : opI (left l at_) with
  | none =>
    have HO : Hid (stepI f n e s (left l at_) = none) := by unfold Hid; rw [stepI, ho]
    rw [ho] at hx
    obtain ⟨k, m, rfl, hm, hs⟩ := hx
    have HS1 := Lib.hid (HS0.out.trans hs)
    have HR1 := Lib.hid (HR0.out.grown hs.gr (by intro e; have := Option.some.inj e; omega))
    have HL1 := Lib.hid (HL0.out.grown hs.gr (by intro e; have := Option.some.inj e; omega))
    clear hs ho
    obtain ⟨l0, l1, l2, l3, l4, lf⟩ := HL1.out.cells
    go_wp2_with fail
    go_quiet (fail)
    have HS2 := Lib.hid (HS1.out.below (below_drewN0' w1 nq))
    obtain ⟨b0, b1, b2, b3, b4, bf⟩ := (HR1.out.below (below_drewN0' w1 nq)).cells
    clear l0 l1 l2 l3 l4 lf
    generalize w1.drewN nq = w2 at HS2 b0 b1 b2 b3 b4 bf ⊢
    go_wp2_with fail
    refine bodyPost_ret (v := .tuple #[.agg #[.int .i64 0, .string ⟨#[]⟩, .int .i64 0, .slice none 0 0, .int .i64 0], .bool false]) (by simp [results, Tryz.results108, go_sem, b0, b1, b2, b3, b4]) rfl ?_
    unfold ReadL
    rw [HO.out]
    exact ⟨_, _, _, _, _, _, 0, m, rfl, stp_end HRY.out.rd HS2.out (by omega) _ _ _ _ _⟩
  | some q =>
    obtain ⟨k, r'⟩ := q
    rw [ho] at hx
    obtain ⟨rfl, m, rfl, hm1, hm2, hs⟩ := hx
    obtain ⟨i, rfl, hi7, hi19⟩ := op_range ho
    have HS1 := Lib.hid (HS0.out.trans hs)
    have HR1 := Lib.hid (HR0.out.grown hs.gr (by intro e; have := Option.some.inj e; omega))
    have HL1 := Lib.hid (HL0.out.grown hs.gr (by intro e; have := Option.some.inj e; omega))
    have HT1 := Lib.hid (HT0.out.grown hs.gr (fun b hb e => hlo b hb.1 (Option.some.inj e).symm))
    have HZ1 : Hid (w.heap.size + 2 ≤ w1.heap.size) := by have h1 := hs.gr.size; have h2 := HZ0.out; unfold Hid; omega
    have HF1 := Lib.hid ((HRY.out.g.grown HS1.out.gr HRY.out.hrb).forms)
    clear hs
    obtain ⟨l0, l1, l2, l3, l4, lf⟩ := HL1.out.cells
    obtain ⟨g0, g1, g2, g3⟩ := HF1.out.2 i hi19
    rw [fm_strength9 i hi19] at g1
    obtain ⟨hb1, hb7⟩ := binds_range (i : Int)
    have hi0 : (0 : Int) ≤ (i : Int) := by omega
    have hi1 : (i : Int) < 19 := by omega
    by_cases hst : bindsK (i : Int) < n
    · have HO : Hid (stepI f n e s (left l at_) = none) := by unfold Hid; rw [stepI, ho]; simp only [if_pos (Or.inl hst : bindsK (i : Int) < n ∨ s < firstK (i : Int))]
      have hd : decide (((bindsK (i : Int) : Nat) : Int) < (n : Int)) = true := by simp; omega
      generalize ((bindsK (i : Int) : Nat) : Int) = st at g1 hd
      clear ho
      go_wp2_with fail
      go_quiet (fail)
      have HS2 := Lib.hid (HS1.out.below (below_drewN0' w1 nq))
      obtain ⟨b0, b1, b2, b3, b4, bf⟩ := (HR1.out.below (below_drewN0' w1 nq)).cells
      clear l0 l1 l2 l3 l4 lf g0 g1 g2 g3
      generalize w1.drewN nq = w2 at HS2 b0 b1 b2 b3 b4 bf ⊢
      go_wp2_with fail
      refine bodyPost_ret (v := .tuple #[.agg #[.int .i64 0, .string ⟨#[]⟩, .int .i64 0, .slice none 0 0, .int .i64 0], .bool false]) (by simp [results, Tryz.results108, go_sem, b0, b1, b2, b3, b4]) rfl ?_
      unfold ReadL
      rw [HO.out]
      exact ⟨_, _, _, _, _, _, 0, m, rfl, stp_end HRY.out.rd HS2.out (by omega) _ _ _ _ _⟩
    · have HSM : Hid (OpS tp p w lo rb a c l m e ea ec s w1) := ⟨HS1.out, HL1.out, HR1.out, HT1.out, HRY.out.g.grown HS1.out.gr HRY.out.hrb⟩
      have hd : decide (((bindsK (i : Int) : Nat) : Int) < (n : Int)) = false := by simp; omega
      have hst17 : 1 ≤ ((bindsK (i : Int) : Nat) : Int) ∧ ((bindsK (i : Int) : Nat) : Int) ≤ 7 := by omega
      have HFM : Hid (((firstK (i : Int) : Nat) : Int) = if ((bindsK (i : Int) : Nat) : Int) = 4 then 5 else ((bindsK (i : Int) : Nat) : Int)) := by
        unfold Hid; rw [firstK_i]; split <;> split <;> omega
      have HBK : Hid (((bindsK (i : Int) : Nat) : Int) = ((bindsK (i : Int) : Nat) : Int)) := rfl
      obtain ⟨fi, hfi⟩ : ∃ fi : Int, fi = ((firstK (i : Int) : Nat) : Int) := ⟨_, rfl⟩
      rw [← hfi] at HFM
      have HFI := Lib.hid hfi
      obtain ⟨st, hse⟩ : ∃ st : Int, st = ((bindsK (i : Int) : Nat) : Int) := ⟨_, rfl⟩
      rw [← hse] at HFM g1 hd hst17
      have HSE := Lib.hid hse
      generalize (fm i).kids = k0 at g0
      generalize (fm i).token = k2 at g2
      generalize txt (fm i).text = k3 at g3
      have hkeep : Hid (∀ x y : World, ((x.cell? ⟨w.heap.size, 4, none⟩ = some (.int .i64 (s : Int)) ∧ x.cell? ⟨0, i * 4, none⟩ = some (.int .i64 k0) ∧ x.cell? ⟨0, i * 4 + 1, none⟩ = some (.int .i64 st) ∧ x.cell? ⟨0, i * 4 + 2, none⟩ = some (.int .i64 k2) ∧ x.cell? ⟨0, i * 4 + 3, none⟩ = some (.string k3)) ∧ Hid (OpS tp p w lo rb a c l m e ea ec s x)) → Below x.heap.size x y →
          ((y.cell? ⟨w.heap.size, 4, none⟩ = some (.int .i64 (s : Int)) ∧ y.cell? ⟨0, i * 4, none⟩ = some (.int .i64 k0) ∧ y.cell? ⟨0, i * 4 + 1, none⟩ = some (.int .i64 st) ∧ y.cell? ⟨0, i * 4 + 2, none⟩ = some (.int .i64 k2) ∧ y.cell? ⟨0, i * 4 + 3, none⟩ = some (.string k3)) ∧ Hid (OpS tp p w lo rb a c l m e ea ec s y))) := by
        intro x y h hb
        have e := fun o => hb.cell (p := ⟨0, o, none⟩) h.2.out.g.forms.1
        exact ⟨⟨(hb.cell (p := ⟨w.heap.size, 4, none⟩) h.2.out.L.lt).trans h.1.1, (e _).trans h.1.2.1, (e _).trans h.1.2.2.1, (e _).trans h.1.2.2.2.1, (e _).trans h.1.2.2.2.2⟩, h.2.out.below hb⟩
      have HSD := Lib.hid (HSM.out.below (below_drew (Below.refl _ _)))
      clear hfi hse HBK
      by_cases hs2 : s < firstK (i : Int)
      · have HO : Hid (stepI f n e s (left l at_) = none) := by unfold Hid; rw [stepI, ho]; simp only [if_pos (Or.inr hs2 : bindsK (i : Int) < n ∨ s < firstK (i : Int))]
        have hd2 : decide ((s : Int) < fi) = true := by rw [HFI.out]; simp; omega
        clear ho
        go_wp2_with fail
        go_region_held3 (fun w' => (w'.cell? ⟨w.heap.size, 4, none⟩ = some (.int .i64 (s : Int)) ∧ w'.cell? ⟨0, i * 4, none⟩ = some (.int .i64 k0) ∧ w'.cell? ⟨0, i * 4 + 1, none⟩ = some (.int .i64 st) ∧ w'.cell? ⟨0, i * 4 + 2, none⟩ = some (.int .i64 k2) ∧ w'.cell? ⟨0, i * 4 + 3, none⟩ = some (.string k3)) ∧ Hid (OpS tp p w lo rb a c l m e ea ec s w')) (first | assumption | exact ⟨⟨l4, g0, g1, g2, g3⟩, HSD.out⟩)
          ((go_at_call 83; refine (firstNeeds _ _ _ _ _ hst17 fi HFM.out).mono ?_; rintro x wq ⟨rfl, bq⟩; have hq := hkeep.out _ _ (by assumption) bq))
        have HQ := Lib.hid hq.2.out
        obtain ⟨b0, b1, b2, b3, b4, bf⟩ := HQ.out.R.cells
        clear hq bq
        go_wp2_with fail
        refine bodyPost_ret (v := .tuple #[.agg #[.int .i64 0, .string ⟨#[]⟩, .int .i64 0, .slice none 0 0, .int .i64 0], .bool false]) (by simp [results, Tryz.results108, go_sem, b0, b1, b2, b3, b4]) rfl ?_
        unfold ReadL
        rw [HO.out]
        exact ⟨_, _, _, _, _, _, 0, m, rfl, stp_end HRY.out.rd HQ.out.stp (by omega) _ _ _ _ _⟩
      · have hd2 : decide ((s : Int) < fi) = false := by rw [HFI.out]; simp; omega
        have HNO : Hid (¬ (bindsK (i : Int) < n ∨ s < firstK (i : Int))) := by unfold Hid; omega
        have HOP := Lib.hid ho
        clear ho
        go_wp2_with fail
        go_region_held3 (fun w' => (w'.cell? ⟨w.heap.size, 4, none⟩ = some (.int .i64 (s : Int)) ∧ w'.cell? ⟨0, i * 4, none⟩ = some (.int .i64 k0) ∧ w'.cell? ⟨0, i * 4 + 1, none⟩ = some (.int .i64 st) ∧ w'.cell? ⟨0, i * 4 + 2, none⟩ = some (.int .i64 k2) ∧ w'.cell? ⟨0, i * 4 + 3, none⟩ = some (.string k3)) ∧ Hid (OpS tp p w lo rb a c l m e ea ec s w')) (first | assumption | exact ⟨⟨l4, g0, g1, g2, g3⟩, HSD.out⟩)
          ((go_at_call 83; refine (firstNeeds _ _ _ _ _ hst17 fi HFM.out).mono ?_; rintro x wq ⟨rfl, bq⟩; have hq := hkeep.out _ _ (by assumption) bq))
        have HQ := Lib.hid hq.2.out
        have hqc := hq.1
        have hzq : w.heap.size + 2 ≤ wq.heap.size := by have h1 := HQ.out.R.lt; omega
        clear hq bq l0 l1 l2 l3 l4 lf g0 g1 g2 g3 HS1 HR1 HL1 HT1 HF1 HSM HSD
        have HBq := Lib.hid (show Below wq.heap.size wq (wq.alloc (.cells #[.int .i64 e.kind, .string e.text, .int .i64 e.num, .slice ea e.kids.length ec] 32)) from (Below.refl _ _).alloc (Nat.le_refl _) _)
        have HQ2 := Lib.hid (HQ.out.below HBq.out)
        have hqc2 := (hkeep.out _ _ ⟨hqc, HQ.out⟩ HBq.out).1
        obtain ⟨l0, l1, l2, l3, l4, lf⟩ := HQ.out.L.cells
        have HROW := Lib.hid (one_row wq e ea ec)
        have HTR : Hid (TrQ (wq.alloc (.cells #[.int .i64 e.kind, .string e.text, .int .i64 e.num, .slice ea e.kids.length ec] 32)) (fun b => lo b ∧ b < w.heap.size) e ea ec) := HQ2.out.tr
        by_cases hi : i = 7
        · have HI := Lib.hid hi
          have hj7 : ((i : Int) != 7) = false := by rw [hi]; rfl
          have HO : Hid (stepI f n e s (left l at_) = some (node 7 [e], 4, left l m)) := by
            unfold Hid
            rw [stepI, HOP.out]
            simp only [if_neg HNO.out]
            rw [hi]
            rfl
          have HT : Hid (TrQ (wq.alloc (.cells #[.int .i64 e.kind, .string e.text, .int .i64 e.num, .slice ea e.kids.length ec] 32)) (fun b => (lo b ∨ w.heap.size ≤ b) ∧ b ≠ w.heap.size + 1) (node 7 [e]) (some ⟨wq.heap.size, 0, none⟩) 1) :=
            (HQ.out.tr.imp (q' := fun b => (lo b ∨ w.heap.size ≤ b) ∧ b ≠ w.heap.size + 1) (fun b hb _ => ⟨.inl hb.1, by omega⟩)).node1 (by unfold i64E; omega) ⟨.inr (by omega), by omega⟩
          clear hi
          obtain ⟨b0, b1, b2, b3, b4, bf⟩ := HQ2.out.R.cells
          obtain ⟨m4, g0, g1, g2, g3⟩ := hqc2
          go_wp2_with fail
          refine bodyPost_ret (v := .tuple #[.agg #[.int .i64 (i : Int), .string ⟨#[]⟩, .int .i64 0, .slice (some ⟨wq.heap.size, 0, none⟩) 1 1, .int .i64 st], .bool true]) (by simp [results, Tryz.results108, go_sem, b0, b1, b2, b3, b4]) rfl ?_
          unfold ReadL
          rw [HO.out, HSE.out, HI.out]
          exact ⟨_, _, m, rfl, rfl, hm1, hm2, stp_end HRY.out.rd HQ2.out.stp (by omega) _ _ _ _ _, (tr_end HT.out (R := w.heap.size + 1) (fun h => h.2 rfl) _ _ _ _ _).imp (fun b hb _ => hb.1)⟩
        · have hj7 : ((i : Int) != 7) = true := by simp; omega
          have hi8 : 8 ≤ i := by omega
          have hb6 : bindsK (i : Int) ≤ 6 := by
            have : ∀ j : Nat, j < 19 → 8 ≤ j → bindsK (j : Int) ≤ 6 := by decide
            exact this i hi19 hi8
          have HSN : Hid (st + 1 = ((bindsK (i : Int) + 1 : Nat) : Int)) := by unfold Hid; rw [HSE.out]; omega
          have HOE : Hid (stepI f n e s (left l at_) = match exprI f (bindsK (i : Int) + 1) (left l m) with | none => none | some (q, _, r'') => some (node (i : Int) [e, q], bindsK (i : Int), r'')) := by
            unfold Hid
            rw [stepI, HOP.out]
            simp only [if_neg HNO.out]
            rw [if_neg (by omega)]
            rfl
          obtain ⟨m4, g0, g1, g2, g3⟩ := hqc2
          go_wp2_with fail
          refine (secondNeeds _ _ _ _ _ hst17 _ HSN.out).mono ?_
          rintro x w6 ⟨rfl, hb6'⟩
          have HQ6 := Lib.hid (HQ2.out.below hb6')
          have HROW6 : Hid (w6.ownsRow wq.heap.size 32 4 (.slice (some ⟨wq.heap.size, 0, none⟩) 1 1) 1 (ecells [⟨e, ea, ec⟩])) := ownsRow_block HROW.out fun g hg => by cases hg; exact hb6'.block _ (by simp)
          have hz6 : wq.heap.size + 1 ≤ w6.heap.size := by have := hb6'.size; simp at this; omega
          clear hb6' m4 g0 g1 g2 g3 HROW HTR HBq HQ2
          have HE := Lib.hid (ih (bindsK (i : Int) + 1) m w6 (by omega) (by omega) ⟨HQ6.out.stp.rd, HQ6.out.g, HRY.out.hrb, hm2⟩ (by have h1 := hroom'.out; have h2 := HLL.out; have h3 := left_len l m; unfold roomI; omega))
          cases ha : exprI f (bindsK (i : Int) + 1) (left l m) with
          | none =>
            have HO : Hid (stepI f n e s (left l at_) = none) := by unfold Hid; rw [HOE.out, ha]
            rw [ha] at HE
            clear ha
            go_wp2_with fail
            refine HE.out.mono ?_
            rintro x w7 ⟨v0, v1, v2, va, vn, vc, v4, m7, rfl, hs⟩
            have HB8 := Lib.hid (show Below w7.heap.size w7 (w7.alloc (.cells #[.int .i64 v0, .string v1, .int .i64 v2, .slice va vn vc, .int .i64 v4] 67)) from (Below.refl _ _).alloc (Nat.le_refl _) _)
            have HS8 := Lib.hid ((HQ6.out.stp.trans hs).below HB8.out)
            obtain ⟨b0, b1, b2, b3, b4, bf⟩ := ((HQ6.out.R.grown hs.gr (by intro e; have := Option.some.inj e; omega)).below HB8.out).cells
            clear hs HB8
            go_wp2_with fail
            refine bodyPost_ret (v := .tuple #[.agg #[.int .i64 0, .string ⟨#[]⟩, .int .i64 0, .slice none 0 0, .int .i64 0], .bool false]) (by simp [results, Tryz.results108, go_sem, b0, b1, b2, b3, b4]) rfl ?_
            unfold ReadL
            rw [HO.out]
            exact ⟨_, _, _, _, _, _, 0, m7, rfl, stp_end HRY.out.rd HS8.out (by omega) _ _ _ _ _⟩
          | some z =>
            obtain ⟨q, s2, r2⟩ := z
            have HO : Hid (stepI f n e s (left l at_) = some (node (i : Int) [e, q], bindsK (i : Int), r2)) := by unfold Hid; rw [HOE.out, ha]
            rw [ha] at HE
            clear ha
            go_wp2_with fail
            refine HE.out.mono ?_
            rintro x w7 ⟨qa, qc, m7, rfl, rfl, hm3, hm4, hs, htq⟩
            have HS7 := Lib.hid (HQ6.out.stp.trans hs)
            have HR7 := Lib.hid (HQ6.out.R.grown hs.gr (by intro e; have := Option.some.inj e; omega))
            have HT7 : Hid (TrQ w7 (fun b => (lo b ∨ w.heap.size ≤ b) ∧ b ≠ w.heap.size + 1 ∧ b ≠ wq.heap.size) e ea ec) := (HQ6.out.tr.grown hs.gr (fun b hb e => hlo b hb.1 (Option.some.inj e).symm)).imp (fun b hb _ => ⟨.inl hb.1, by omega, by omega⟩)
            have HTQ : Hid (TrQ w7 (fun b => (lo b ∨ w.heap.size ≤ b) ∧ b ≠ w.heap.size + 1 ∧ b ≠ wq.heap.size) q qa qc) := htq.imp (fun b hb _ => ⟨.inr (by omega), by omega, by omega⟩)
            have HG7 := Lib.hid (HQ6.out.g.grown hs.gr HRY.out.hrb)
            have HROW7 : Hid (w7.ownsRow wq.heap.size 32 4 (.slice (some ⟨wq.heap.size, 0, none⟩) 1 1) 1 (ecells [⟨e, ea, ec⟩])) := ownsRow_block HROW6.out fun g hg => by cases hg; exact hs.gr.block wq.heap.size (by omega) (by intro e; have := Option.some.inj e; omega)
            have hz7 : w6.heap.size ≤ w7.heap.size := hs.gr.size
            clear hs htq HQ6 HROW6 HE
            have HB8 := Lib.hid (show Below w7.heap.size w7 ((w7.alloc (.cells #[.int .i64 q.kind, .string q.text, .int .i64 q.num, .slice qa q.kids.length qc, .int .i64 (s2 : Int)] 67)).alloc (.cells #[.int .i64 q.kind, .string q.text, .int .i64 q.num, .slice qa q.kids.length qc] 32)) from ((Below.refl _ _).alloc (Nat.le_refl _) _).alloc (by simp) _)
            have HX8 := Lib.hid (bx_new w7 q.kind q.text q.num (.slice qa q.kids.length qc) (s2 : Int))
            obtain ⟨x0, x1, x2, x3, x4, xf⟩ := HX8.out.cells
            have HK8 : Hid (((w7.alloc (.cells #[.int .i64 q.kind, .string q.text, .int .i64 q.num, .slice qa q.kids.length qc, .int .i64 (s2 : Int)] 67)).alloc (.cells #[.int .i64 q.kind, .string q.text, .int .i64 q.num, .slice qa q.kids.length qc] 32)).heap[w7.heap.size + 1]? = some (.cells #[.int .i64 q.kind, .string q.text, .int .i64 q.num, .slice qa q.kids.length qc] 32 (0, 0))) := by
              have h := heap_alloc_new (w7.alloc (.cells #[.int .i64 q.kind, .string q.text, .int .i64 q.num, .slice qa q.kids.length qc, .int .i64 (s2 : Int)] 67)) (.cells #[.int .i64 q.kind, .string q.text, .int .i64 q.num, .slice qa q.kids.length qc] 32)
              rw [size_allocE] at h
              exact h
            have HROW8 : Hid (((w7.alloc (.cells #[.int .i64 q.kind, .string q.text, .int .i64 q.num, .slice qa q.kids.length qc, .int .i64 (s2 : Int)] 67)).alloc (.cells #[.int .i64 q.kind, .string q.text, .int .i64 q.num, .slice qa q.kids.length qc] 32)).ownsRow wq.heap.size 32 4 (.slice (some ⟨wq.heap.size, 0, none⟩) 1 1) 1 (ecells [⟨e, ea, ec⟩])) := ownsRow_block HROW7.out fun g hg => by cases hg; exact HB8.out.block wq.heap.size (by omega)
            have hz8 : wq.heap.size ≤ ((w7.alloc (.cells #[.int .i64 q.kind, .string q.text, .int .i64 q.num, .slice qa q.kids.length qc, .int .i64 (s2 : Int)] 67)).alloc (.cells #[.int .i64 q.kind, .string q.text, .int .i64 q.num, .slice qa q.kids.length qc] 32)).heap.size := by simp; omega
            go_wp2_with (
              at_builtin
              refine wpAppendEx rfl _ _ rfl wq.heap.size _ _ 1 [⟨e, ea, ec⟩] (w7.heap.size + 1) ⟨q, qa, qc⟩ rfl rfl HROW8.out rfl HK8.out (by simp) hz8 ?_
              intro g9 c9 w9 hg9 hown9 hgr9
              have HT9 : Hid (TrQ w9 (fun b => (lo b ∨ w.heap.size ≤ b) ∧ b ≠ w.heap.size + 1) (node (i : Int) [e, q]) (some ⟨g9, 0, none⟩) c9) := by
                have hne : ∀ b, ((lo b ∨ w.heap.size ≤ b) ∧ b ≠ w.heap.size + 1 ∧ b ≠ wq.heap.size) → (Value.slice (some ⟨wq.heap.size, 0, none⟩) 1 1).ownBlock ≠ some b := fun b hb e => hb.2.2 (Option.some.inj e).symm
                have t1 := (HT7.out.below HB8.out).grown hgr9 hne
                have t2 := (HTQ.out.below HB8.out).grown hgr9 hne
                have hi' : (fun b => (lo b ∨ w.heap.size ≤ b) ∧ b ≠ w.heap.size + 1) g9 := ⟨.inr (by omega), by omega⟩
                have hk := kids_row (q := fun b => (lo b ∨ w.heap.size ≤ b) ∧ b ≠ w.heap.size + 1) (es := [⟨e, ea, ec⟩, ⟨q, qa, qc⟩]) hown9 hi' (fun x hx => by
                  rcases List.mem_cons.1 hx with rfl | hx
                  · exact t1.imp (fun b hb _ => ⟨hb.1, hb.2.1⟩)
                  · rw [List.mem_singleton] at hx
                    subst hx
                    exact t2.imp (fun b hb _ => ⟨hb.1, hb.2.1⟩))
                exact ⟨⟨by unfold maxLen; exact Nat.zero_le _, by show i64E (i : Int); unfold i64E; omega, by show i64E 0; unfold i64E; omega⟩, hk⟩
              have hgx : ∀ b, (Value.slice (some ⟨wq.heap.size, 0, none⟩) 1 1).ownBlock = some b → b = wq.heap.size := fun b e => (Option.some.inj e).symm
              have HS9 : Hid (Stp w rb a c l m7 w9) := by
                have h1 := HS7.out.below HB8.out
                refine ⟨⟨?_, ?_, h1.rd.ne, h1.rd.len⟩, grown_any h1.gr hgr9 (fun j hj => by have := hgx j hj; omega)⟩
                · exact (hgr9.block rb h1.rd.lt (fun e => by have := hgx rb e.symm; omega)).trans h1.rd.row
                · obtain ⟨q1, q2, q3, q4, q5⟩ := h1.rd.tok
                  refine ⟨q1, q2, q3, q4, fun hp => ?_⟩
                  obtain ⟨b1, off, hab, hbl, hcc⟩ := q5 hp
                  obtain ⟨b2, off2, hab2, hbl2, _⟩ := HRY.out.rd.tok.2.2.2.2 hp
                  rw [hab] at hab2
                  cases hab2
                  have e := fun o => cell_grown hgr9 hbl (fun e => by have := hgx b1 e; omega) o
                  exact ⟨b1, off, hab, Nat.lt_of_lt_of_le hbl hgr9.size, fun j hj => ⟨(e _).trans (hcc j hj).1, (e _).trans (hcc j hj).2.1, (e _).trans (hcc j hj).2.2⟩⟩
              have HR9 := Lib.hid ((HR7.out.below HB8.out).grown hgr9 (fun e => by have := hgx _ e; omega))
              have hF8 := (HG7.out.below HB8.out HG7.out.big).forms
              obtain ⟨_, g1, _⟩ := hF8.2 i hi19
              have hGlt := hF8.1
              have hGne : 0 ≠ wq.heap.size := by have h1 := HRY.out.hrb; omega
              have f1 := (cell_grown hgr9 hGlt (fun e => hGne (hgx _ e)) (i * 4 + 1)).trans g1
              rw [fm_strength9 i hi19, ← HSE.out] at f1
              obtain ⟨b0, b1, b2, b3, b4, bf⟩ := HR9.out.cells
              clear g1 hF8 hgr9 hown9 x0 x1 x2 x3 x4 xf)
            refine bodyPost_ret (v := .tuple #[.agg #[.int .i64 (i : Int), .string ⟨#[]⟩, .int .i64 0, .slice (some ⟨g9, 0, none⟩) 2 c9, .int .i64 st], .bool true]) (by simp [results, Tryz.results108, go_sem, b0, b1, b2, b3, b4]) rfl ?_
            unfold ReadL
            rw [HO.out, HSE.out]
            exact ⟨_, _, m7, rfl, rfl, by omega, hm4, stp_end HRY.out.rd HS9.out (by omega) _ _ _ _ _, (tr_end HT9.out (R := w.heap.size + 1) (fun h => h.2 rfl) _ _ _ _ _).imp (fun b hb _ => hb.1)⟩

end Go.Proofs.YtgnillmhpockkaaGreatDoor

namespace Go.Proofs.YtgnillmhpockkaaGreatDoor
open Go.RowKit

/-- What extended answers: the longer tree, or the one that it had. -/
def ExtR (lo : Nat → Prop) (w : World) (rb : Nat) (a : Option Addr) (c : Nat) (l : List Tk) (at_ : Nat) (e0 : Ex) (ea0 : Option Addr) (ec0 s0 : Nat) (ans : Option (Ex × Nat × List W)) (x : Ending) (w' : World) : Prop :=
  match ans with
  | some (e, s, r) => ∃ ea ec m, x = .returned (.tuple #[.agg #[.int .i64 e.kind, .string e.text, .int .i64 e.num, .slice ea e.kids.length ec, .int .i64 (s : Int)], .bool true]) ∧ r = left l m ∧ at_ < m ∧ m ≤ l.length ∧ Stp w rb a c l m w' ∧ TrQ w' lo e ea ec
  | none => x = .returned (.tuple #[.agg #[.int .i64 e0.kind, .string e0.text, .int .i64 e0.num, .slice ea0 e0.kids.length ec0, .int .i64 (s0 : Int)], .bool false]) ∧ Stp w rb a c l at_ w' ∧ TrQ w' lo e0 ea0 ec0

def ExtendedAt (tp : TypeId) (p : Value) (rb : Nat) (a : Option Addr) (c : Nat) (l : List Tk) (f : Nat) : Prop := ∀ (n at_ s : Nat) (lo : Nat → Prop) (e : Ex) (ea : Option Addr) (ec : Nat) (w : World), 1 ≤ n → n ≤ 7 → s ≤ 7 → Rdy tp p w rb a c l at_ → TrQ w lo e ea ec → (∀ b, lo b → b ≠ rb) → roomX (f + 1) (left l at_) →
  Calls Tryz.prog 79 #[.pointer (some ⟨rb, 0, none⟩), .agg #[.int .i64 e.kind, .string e.text, .int .i64 e.num, .slice ea e.kids.length ec, .int .i64 (s : Int)], .int .i64 (n : Int)] w (ExtR (fun b => lo b ∨ w.heap.size ≤ b) w rb a c l at_ e ea ec s (stepI f n e s (left l at_)))

set_option maxRecDepth 100000 in
set_option maxHeartbeats 8000000 in
theorem rdExtended {tp : TypeId} {p : Value} {rb : Nat} {a : Option Addr} {c : Nat} {l : List Tk} {f : Nat} (ih : OperationAt tp p rb a c l f) : ExtendedAt tp p rb a c l f := by
  intro n at_ s lo e ea ec w h1 h7 hs7 hr htr hlo hroom
  have hl := hr.rd.len
  have hat := hr.hat
  have hrbl := hr.rd.lt
  have HB0 := Lib.hid (show Below w.heap.size w ((w.alloc (.cells #[.int .i64 e.kind, .string e.text, .int .i64 e.num, .slice ea e.kids.length ec, .int .i64 (s : Int)] 67)).alloc (.cells #[.int .i64 0, .string ⟨#[]⟩, .int .i64 0, .slice none 0 0, .int .i64 0] 67)) from ((Below.refl _ _).alloc (Nat.le_refl _) _).alloc (by simp) _)
  have HS0 := Lib.hid ((Stp.refl hr.rd).below HB0.out)
  have HL0 : Hid (Bx ((w.alloc (.cells #[.int .i64 e.kind, .string e.text, .int .i64 e.num, .slice ea e.kids.length ec, .int .i64 (s : Int)] 67)).alloc (.cells #[.int .i64 0, .string ⟨#[]⟩, .int .i64 0, .slice none 0 0, .int .i64 0] 67)) w.heap.size e.kind e.text e.num (.slice ea e.kids.length ec) (s : Int)) := (bx_new w _ _ _ _ _).below ((Below.refl _ _).alloc (Nat.le_refl _) _)
  have HR0 : Hid (Bx ((w.alloc (.cells #[.int .i64 e.kind, .string e.text, .int .i64 e.num, .slice ea e.kids.length ec, .int .i64 (s : Int)] 67)).alloc (.cells #[.int .i64 0, .string ⟨#[]⟩, .int .i64 0, .slice none 0 0, .int .i64 0] 67)) (w.heap.size + 1) 0 ⟨#[]⟩ 0 (.slice none 0 0) 0) := by
    have h := bx_new (w.alloc (.cells #[.int .i64 e.kind, .string e.text, .int .i64 e.num, .slice ea e.kids.length ec, .int .i64 (s : Int)] 67)) 0 ⟨#[]⟩ 0 (.slice none 0 0) 0
    rw [size_allocE] at h
    exact h
  have HZ0 : Hid (((w.alloc (.cells #[.int .i64 e.kind, .string e.text, .int .i64 e.num, .slice ea e.kids.length ec, .int .i64 (s : Int)] 67)).alloc (.cells #[.int .i64 0, .string ⟨#[]⟩, .int .i64 0, .slice none 0 0, .int .i64 0] 67)).heap.size = w.heap.size + 2) := by unfold Hid; simp
  have HT0 := Lib.hid ((htr.imp (q' := fun b => lo b ∧ b < w.heap.size) (fun b h1 h2 => ⟨h1, h2⟩)).below HB0.out)
  have HRY := Lib.hid hr
  have HLO := Lib.hid hlo
  have HRO := Lib.hid hroom
  clear hr HB0 htr hlo hroom
  go_enter Tryz.func79, Tryz.ntmps79
  obtain ⟨r0, r1, rf⟩ := HS0.out.rd.cells
  obtain ⟨l0, l1, l2, l3, l4, lf⟩ := HL0.out.cells
  go_wp2_with fail
  generalize (w.alloc (.cells #[.int .i64 e.kind, .string e.text, .int .i64 e.num, .slice ea e.kids.length ec, .int .i64 (s : Int)] 67)).alloc (.cells #[.int .i64 0, .string ⟨#[]⟩, .int .i64 0, .slice none 0 0, .int .i64 0] 67) = W0 at HS0 HL0 HR0 HZ0 HT0 r0 r1 rf l0 l1 l2 l3 l4 lf ⊢
  refine (ih n at_ s (fun b => lo b ∧ b < w.heap.size) e ea ec W0 h1 h7 hs7 (HRY.out.step HS0.out hat) HT0.out (fun b hb => HLO.out b hb.1) HRO.out).mono ?_
  intro x w1 hx
  unfold ReadL at hx
  cases ho : stepI f n e s (left l at_) with
  | none =>
    rw [ho] at hx
    have HO := Lib.hid ho
    obtain ⟨v0, v1, v2, va, vn, vc, v4, m, rfl, hs⟩ := hx
    have HB2 := Lib.hid (show Below w1.heap.size w1 (w1.alloc (.cells #[.int .i64 v0, .string v1, .int .i64 v2, .slice va vn vc, .int .i64 v4] 67)) from (Below.refl _ _).alloc (Nat.le_refl _) _)
    have HS2 := Lib.hid ((HS0.out.trans hs).below HB2.out)
    have HS3 := Lib.hid (HS2.out.to at_)
    have HR2 := Lib.hid (((HR0.out.grown hs.gr (by intro e; have := Option.some.inj e; omega)).below HB2.out).setO (R' := rb) (by omega) 1 (.int .i64 (at_ : Int)))
    have HL2 := Lib.hid (((HL0.out.grown hs.gr (by intro e; have := Option.some.inj e; omega)).below HB2.out).setO (R' := rb) (by omega) 1 (.int .i64 (at_ : Int)))
    have HT2 := Lib.hid (((HT0.out.grown hs.gr (fun b hb e => HLO.out b hb.1 (Option.some.inj e).symm)).below HB2.out).set (b := rb) (fun h => HLO.out rb h.1 rfl) 1 (.int .i64 (at_ : Int)))
    clear hs HB2 ho r0 r1 rf l0 l1 l2 l3 l4 lf
    obtain ⟨r0, r1, rf⟩ := HS2.out.rd.cells
    obtain ⟨l0, l1, l2, l3, l4, lf⟩ := HL2.out.cells
    obtain ⟨b0, b1, b2, b3, b4, bf⟩ := HR2.out.cells
    go_wp2_with fail
    refine bodyPost_ret (v := .tuple #[.agg #[.int .i64 e.kind, .string e.text, .int .i64 e.num, .slice ea e.kids.length ec, .int .i64 (s : Int)], .bool false]) (by simp [results, Tryz.results79, go_sem, b0, b1, b2, b3, b4]) rfl ?_
    unfold ExtR
    rw [HO.out]
    exact ⟨rfl, stp_end HRY.out.rd HS3.out (by omega) _ _ _ _ _, (tr_end HT2.out (R := w.heap.size + 1) (by omega) _ _ _ _ _).imp (fun b hb _ => .inl hb.1)⟩
  | some z =>
    obtain ⟨e2, s2, r2⟩ := z
    rw [ho] at hx
    have HO := Lib.hid ho
    obtain ⟨qa, qc, m, rfl, rfl, hm1, hm2, hs, htr⟩ := hx
    have HB2 := Lib.hid (show Below w1.heap.size w1 (w1.alloc (.cells #[.int .i64 e2.kind, .string e2.text, .int .i64 e2.num, .slice qa e2.kids.length qc, .int .i64 (s2 : Int)] 67)) from (Below.refl _ _).alloc (Nat.le_refl _) _)
    have HS2 := Lib.hid ((HS0.out.trans hs).below HB2.out)
    have HR2 := Lib.hid ((HR0.out.grown hs.gr (by intro e; have := Option.some.inj e; omega)).below HB2.out)
    have HX2 := Lib.hid (bx_new w1 e2.kind e2.text e2.num (.slice qa e2.kids.length qc) (s2 : Int))
    have hz1 : w.heap.size + 2 ≤ w1.heap.size := by have h1 := hs.gr.size; have h2 := HZ0.out; omega
    have HT2 := Lib.hid ((htr.imp (q' := fun b => (lo b ∨ w.heap.size ≤ b) ∧ b ≠ w.heap.size + 1) (fun b hb _ => by
      rcases hb with h | h
      · exact ⟨.inl h.1, by omega⟩
      · have := HZ0.out; exact ⟨.inr (by omega), by omega⟩)).below HB2.out)
    clear hs HB2 ho r0 r1 rf l0 l1 l2 l3 l4 lf htr
    obtain ⟨x0, x1, x2, x3, x4, xf⟩ := HX2.out.cells
    obtain ⟨b0, b1, b2, b3, b4, bf⟩ := HR2.out.cells
    go_wp2_with fail
    refine bodyPost_ret (v := .tuple #[.agg #[.int .i64 e2.kind, .string e2.text, .int .i64 e2.num, .slice qa e2.kids.length qc, .int .i64 (s2 : Int)], .bool true]) (by simp [results, Tryz.results79, go_sem, b0, b1, b2, b3, b4]) rfl ?_
    unfold ExtR
    rw [HO.out]
    exact ⟨_, _, m, rfl, rfl, hm1, hm2, stp_end HRY.out.rd HS2.out (by omega) _ _ _ _ _, (tr_end HT2.out (R := w.heap.size + 1) (fun h => h.2 rfl) _ _ _ _ _).imp (fun b hb _ => hb.1)⟩

end Go.Proofs.YtgnillmhpockkaaGreatDoor

namespace Go.Proofs.YtgnillmhpockkaaGreatDoor
open Go.RowKit

/-- While expr makes its tree longer: the tree in box X, what is still to come of it. -/
structure ExS (tp : TypeId) (p : Value) (w : World) (rb : Nat) (a : Option Addr) (c : Nat) (l : List Tk) (at_ X n : Nat) (fin : Ex × Nat × List W) (b : Bool) (m g : Nat) (e : Ex) (ea : Option Addr) (ec s : Nat) (W : World) : Prop where
  stp : Stp w rb a c l m W
  box : Bx W X e.kind e.text e.num (.slice ea e.kids.length ec) (s : Int)
  R : Bx W w.heap.size 0 ⟨#[]⟩ 0 (.slice none 0 0) 0
  tr : TrQ W (fun x => w.heap.size + 1 ≤ x ∧ x ≠ X) e ea ec
  at1 : at_ < m
  at2 : m ≤ l.length
  s7 : s ≤ 7
  x : w.heap.size + 1 ≤ X ∧ X < W.heap.size
  go : b = true → roomX g (left l m) ∧ extI g n e s (left l m) = fin
  no : b = false → (e, s, left l m) = fin

theorem stepI_s7 {f n : Nat} {e : Ex} {s : Nat} {r : List W} {e' : Ex} {s' : Nat} {r' : List W} (h : stepI f n e s r = some (e', s', r')) : s' ≤ 7 := by
  unfold stepI at h
  split at h
  · cases h
  · rename_i k q hk
    split at h
    · cases h
    · split at h
      · cases h; omega
      · split at h
        · cases h
        · cases h; exact (binds_range k).2

theorem operandI_s7 : ∀ {f n : Nat} {ts : List W} {e : Ex} {s : Nat} {r : List W}, operandI f n ts = some (e, s, r) → s ≤ 7
  | 0, _, _, _, _, _, h => by rw [operandI] at h; cases h
  | f + 1, n, ts, e, s, r, h => by
    rw [operandI] at h
    split at h
    · split at h
      · split at h
        · cases h; omega
        · cases h
      · cases h
    · split at h
      · split at h
        · cases h; omega
        · cases h
      · split at h
        · cases h; omega
        · cases h

theorem heap_setR {W : World} {R i : Nat} {cs : Array Value} {T : TypeId} {fr : Nat × Nat} {u : Value} (h : W.heap[R]? = some (.cells cs T fr)) : (W.setCell ⟨R, i, none⟩ u).heap[R]? = some (.cells (cs.setIfInBounds i u) T fr) := by
  show (W.heap.modify R _)[R]? = _
  rw [Array.getElem?_modify, if_pos rfl, h]
  rfl

theorem Bx.put {W : World} {R : Nat} {k : Int} {t : ByteArray} {n : Int} {v : Value} {s : Int} (h : Bx W R k t n v s) (k' : Int) (t' : ByteArray) (n' : Int) (v' : Value) (s' : Int) :
    Bx (((((W.setCell ⟨R, 0, none⟩ (.int .i64 k')).setCell ⟨R, 1, none⟩ (.string t')).setCell ⟨R, 2, none⟩ (.int .i64 n')).setCell ⟨R, 3, none⟩ v').setCell ⟨R, 4, none⟩ (.int .i64 s')) R k' t' n' v' s' := by
  unfold Bx at h ⊢
  rw [heap_setR (heap_setR (heap_setR (heap_setR (heap_setR h))))]
  rfl

theorem Bx.off {W : World} {R : Nat} {k : Int} {t : ByteArray} {n : Int} {v : Value} {s : Int} (h : Bx W R k t n v s) {X : Nat} (hX : X ≠ R) (v0 v1 v2 v3 v4 : Value) :
    Bx (((((W.setCell ⟨X, 0, none⟩ v0).setCell ⟨X, 1, none⟩ v1).setCell ⟨X, 2, none⟩ v2).setCell ⟨X, 3, none⟩ v3).setCell ⟨X, 4, none⟩ v4) R k t n v s :=
  ((((h.setO hX 0 v0).setO hX 1 v1).setO hX 2 v2).setO hX 3 v3).setO hX 4 v4

/-- How much there is still to read. -/
def muR (rb len : Nat) (q : Value) (wr : World) : Nat := 2 * (len - (intOf ((wr.cell? ⟨rb, 1, none⟩).getD (.int .i64 0))).toNat) + (match q with | .bool true => 1 | _ => 0)

theorem muR_eq {w : World} {rb : Nat} {a : Option Addr} {c : Nat} {l : List Tk} {m : Nat} (h : Rd w rb a c l m) (len : Nat) (b : Bool) : muR rb len (.bool b) w = 2 * (len - m) + (if b = true then 1 else 0) := by
  unfold muR
  rw [h.cells.2.1]
  cases b <;> simp [intOf]

set_option maxRecDepth 100000 in
set_option maxHeartbeats 8000000 in
theorem rdExpr {tp : TypeId} {p : Value} {rb : Nat} {a : Option Addr} {c : Nat} {l : List Tk} {f : Nat} (io : OperandAt tp p rb a c l f) (ix : ∀ g, g < f → ExtendedAt tp p rb a c l g) : ExprAt tp p rb a c l (f + 1) := by
  intro n at_ w h1 h7 hr hroom
  have hl := hr.rd.len
  have hat := hr.hat
  have hrbl := hr.rd.lt
  have HB0 := Lib.hid (show Below w.heap.size w (w.alloc (.cells #[.int .i64 0, .string ⟨#[]⟩, .int .i64 0, .slice none 0 0, .int .i64 0] 67)) from (Below.refl _ _).alloc (Nat.le_refl _) _)
  have HS0 := Lib.hid ((Stp.refl hr.rd).below HB0.out)
  have HR0 := Lib.hid (bx_new w 0 ⟨#[]⟩ 0 (.slice none 0 0) 0)
  have HZ0 : Hid ((w.alloc (.cells #[.int .i64 0, .string ⟨#[]⟩, .int .i64 0, .slice none 0 0, .int .i64 0] 67)).heap.size = w.heap.size + 1) := by unfold Hid; simp
  have HRY := Lib.hid hr
  have HRO : Hid (3 * (left l at_).length + 3 ≤ f + 1) := hroom
  have HLL := Lib.hid (left_len l at_)
  have HE0 : Hid (exprI (f + 1) n (left l at_) = match operandI f n (left l at_) with | some (e, s, r) => some (extI f n e s r) | none => none) := by unfold Hid; rw [exprI]; rfl
  clear hr HB0 hroom
  go_enter Tryz.func46, Tryz.ntmps46
  go_wp2_with fail
  generalize w.alloc (.cells #[.int .i64 0, .string ⟨#[]⟩, .int .i64 0, .slice none 0 0, .int .i64 0] 67) = W0 at HS0 HR0 HZ0 ⊢
  refine (io n at_ W0 h1 h7 (HRY.out.step HS0.out hat) (by have := HRO.out; unfold roomX; omega)).mono ?_
  intro x w1 hx
  unfold ReadR at hx
  cases ho : operandI f n (left l at_) with
  | none =>
    rw [ho] at hx
    obtain ⟨v0, v1, v2, va, vn, vc, v4, m, rfl, hs⟩ := hx
    have HO : Hid (exprI (f + 1) n (left l at_) = none) := by unfold Hid; rw [HE0.out, ho]
    have HB2 := Lib.hid (show Below w1.heap.size w1 (w1.alloc (.cells #[.int .i64 v0, .string v1, .int .i64 v2, .slice va vn vc, .int .i64 v4] 67)) from (Below.refl _ _).alloc (Nat.le_refl _) _)
    have HS2 := Lib.hid ((HS0.out.trans hs).below HB2.out)
    have HR2 := Lib.hid ((HR0.out.grown hs.gr (by intro e; have := Option.some.inj e; omega)).below HB2.out)
    have HX2 := Lib.hid (bx_new w1 v0 v1 v2 (.slice va vn vc) v4)
    clear hs HB2 ho
    obtain ⟨x0, x1, x2, x3, x4, xf⟩ := HX2.out.cells
    obtain ⟨b0, b1, b2, b3, b4, bf⟩ := HR2.out.cells
    go_wp2_with fail
    go_loopw [8] (fun q wr => q = .bool false ∧ wr = w1.alloc (.cells #[.int .i64 v0, .string v1, .int .i64 v2, .slice va vn vc, .int .i64 v4] 67)) (fun _ _ => 0)
    case atStart => exact ⟨rfl, rfl⟩
    case round =>
      obtain ⟨rfl, rfl⟩ := hrel
      go_wp2_with fail
      refine bodyPost_ret (v := .tuple #[.agg #[.int .i64 v0, .string v1, .int .i64 v2, .slice va vn vc, .int .i64 v4], .bool false]) (by simp [results, Tryz.results46, go_sem, b0, b1, b2, b3, b4]) rfl ?_
      unfold ReadR
      rw [HO.out]
      exact ⟨_, _, _, _, _, _, v4, m, rfl, stp_end HRY.out.rd HS2.out (Nat.le_refl _) _ _ _ _ _⟩
  | some z =>
    obtain ⟨e, s, r⟩ := z
    rw [ho] at hx
    obtain ⟨ea, ec, m, rfl, rfl, hm1, hm2, hs, htr⟩ := hx
    have HO : Hid (exprI (f + 1) n (left l at_) = some (extI f n e s (left l m))) := by unfold Hid; rw [HE0.out, ho]
    have HB2 := Lib.hid (show Below w1.heap.size w1 (w1.alloc (.cells #[.int .i64 e.kind, .string e.text, .int .i64 e.num, .slice ea e.kids.length ec, .int .i64 (s : Int)] 67)) from (Below.refl _ _).alloc (Nat.le_refl _) _)
    have hz1 : w.heap.size + 1 ≤ w1.heap.size := by have h1 := hs.gr.size; have h2 := HZ0.out; omega
    have HI : Hid (ExS tp p w rb a c l at_ w1.heap.size n (extI f n e s (left l m)) true m f e ea ec s (w1.alloc (.cells #[.int .i64 e.kind, .string e.text, .int .i64 e.num, .slice ea e.kids.length ec, .int .i64 (s : Int)] 67))) := by
      refine ⟨(HS0.out.trans hs).below HB2.out, bx_new w1 _ _ _ _ _, (HR0.out.grown hs.gr (by intro e; have := Option.some.inj e; omega)).below HB2.out, (htr.imp (fun b hb _ => ⟨by have := HZ0.out; omega, by omega⟩)).below HB2.out, hm1, hm2, operandI_s7 ho, ⟨hz1, by simp⟩, fun _ => ⟨?_, rfl⟩, fun h => by cases h⟩
      have h1 := HRO.out
      have h2 := HLL.out
      have h3 := left_len l m
      unfold roomX
      omega
    obtain ⟨fin, hfin⟩ : ∃ fin, fin = extI f n e s (left l m) := ⟨_, rfl⟩
    rw [← hfin] at HI HO
    clear hs HB2 ho htr hfin
    go_wp2_with fail
    go_loopw [8] (fun q wr => ∃ (b : Bool) (m g s : Nat) (e : Ex) (ea : Option Addr) (ec : Nat), q = .bool b ∧ g ≤ f ∧ Hid (ExS tp p w rb a c l at_ w1.heap.size n fin b m g e ea ec s wr)) (fun q wr => muR rb l.length q wr)
    case atStart => exact ⟨true, m, f, s, e, ea, ec, rfl, Nat.le_refl _, HI.out⟩
    case round =>
      obtain ⟨b, m, g, s, e, ea, ec, rfl, hg, HI⟩ := hrel
      have hX := HI.out.x
      generalize w1.heap.size = X at HI hX ⊢
      obtain ⟨x0, x1, x2, x3, x4, xf⟩ := HI.out.box.cells
      obtain ⟨b0, b1, b2, b3, b4, bf⟩ := HI.out.R.cells
      have hrx : rb ≠ X := by omega
      have hwx : X ≠ w.heap.size := by omega
      have HMU := Lib.hid (muR_eq HI.out.stp.rd l.length b)
      cases b with
      | false =>
        have HF := Lib.hid (HI.out.no rfl)
        go_wp2_with fail
        refine bodyPost_ret (v := .tuple #[.agg #[.int .i64 e.kind, .string e.text, .int .i64 e.num, .slice ea e.kids.length ec, .int .i64 (s : Int)], .bool true]) (by simp [results, Tryz.results46, go_sem, b0, b1, b2, b3, b4]) rfl ?_
        unfold ReadR
        rw [HO.out, ← HF.out]
        exact ⟨ea, ec, m, rfl, rfl, HI.out.at1, HI.out.at2, stp_end HRY.out.rd HI.out.stp (Nat.le_refl _) _ _ _ _ _, (tr_end HI.out.tr (R := w.heap.size) (by omega) _ _ _ _ _).imp (fun b hb _ => by omega)⟩
      | true =>
        have HRM := Lib.hid (HI.out.go rfl).1
        have HFI := Lib.hid (HI.out.go rfl).2
        obtain ⟨g', rfl⟩ : ∃ g', g = g' + 1 := ⟨g - 1, by have h := HRM.out; unfold roomX at h; omega⟩
        have HST := Lib.hid (extI_step g' n e s (left l m))
        go_wp2_with fail
        refine (ix g' (by omega) n m s (fun x => w.heap.size + 1 ≤ x ∧ x ≠ X) e ea ec wr h1 h7 HI.out.s7 (HRY.out.step HI.out.stp HI.out.at2) HI.out.tr (fun b hb e => by omega) HRM.out).mono ?_
        intro x w2 hx
        unfold ExtR at hx
        cases hsi : stepI g' n e s (left l m) with
        | none =>
          rw [hsi] at hx
          obtain ⟨rfl, hs, htr⟩ := hx
          have HX2 := Lib.hid (HI.out.box.grown hs.gr (by intro e; have := Option.some.inj e; omega))
          have HR2 := Lib.hid (HI.out.R.grown hs.gr (by intro e; have := Option.some.inj e; omega))
          have hXl : X < w2.heap.size := Nat.lt_of_lt_of_le hX.2 hs.gr.size
          have HE := HX2.out.put e.kind e.text e.num (.slice ea e.kids.length ec) (s : Int)
          have HI2 : Hid (ExS tp p w rb a c l at_ X n fin false m g' e ea ec s (((((w2.setCell ⟨X, 0, none⟩ (.int .i64 e.kind)).setCell ⟨X, 1, none⟩ (.string e.text)).setCell ⟨X, 2, none⟩ (.int .i64 e.num)).setCell ⟨X, 3, none⟩ (.slice ea e.kids.length ec)).setCell ⟨X, 4, none⟩ (.int .i64 (s : Int)))) := by
            refine ⟨stp_end HRY.out.rd (HI.out.stp.trans hs) (by omega) _ _ _ _ _, HE, HR2.out.off hwx _ _ _ _ _, (tr_end (htr.imp (fun b hb _ => by rcases hb with h | h <;> omega)) (by omega) _ _ _ _ _), HI.out.at1, HI.out.at2, HI.out.s7, ⟨hX.1, HE.lt⟩, (fun h => by cases h), fun _ => ?_⟩
            rw [← HFI.out, HST.out, hsi]
          have HMU2 := Lib.hid (muR_eq HI2.out.stp.rd l.length false)
          clear hs htr HE hsi x0 x1 x2 x3 x4 xf b0 b1 b2 b3 b4 bf
          obtain ⟨x0, x1, x2, x3, x4, xf⟩ := HX2.out.cells
          go_wp2_with fail
          go_roundw
          case rel => exact ⟨false, m, g', s, e, ea, ec, rfl, by omega, HI2.out⟩
          case measure => rw [HMU.out, HMU2.out]; simp
        | some z =>
          obtain ⟨e2, s2, r2⟩ := z
          rw [hsi] at hx
          obtain ⟨qa, qc, m2, rfl, rfl, hm3, hm4, hs, htr⟩ := hx
          have HX2 := Lib.hid (HI.out.box.grown hs.gr (by intro e; have := Option.some.inj e; omega))
          have HR2 := Lib.hid (HI.out.R.grown hs.gr (by intro e; have := Option.some.inj e; omega))
          have hXl : X < w2.heap.size := Nat.lt_of_lt_of_le hX.2 hs.gr.size
          have HE := HX2.out.put e2.kind e2.text e2.num (.slice qa e2.kids.length qc) (s2 : Int)
          have HI2 : Hid (ExS tp p w rb a c l at_ X n fin true m2 g' e2 qa qc s2 (((((w2.setCell ⟨X, 0, none⟩ (.int .i64 e2.kind)).setCell ⟨X, 1, none⟩ (.string e2.text)).setCell ⟨X, 2, none⟩ (.int .i64 e2.num)).setCell ⟨X, 3, none⟩ (.slice qa e2.kids.length qc)).setCell ⟨X, 4, none⟩ (.int .i64 (s2 : Int)))) := by
            refine ⟨stp_end HRY.out.rd (HI.out.stp.trans hs) (by omega) _ _ _ _ _, HE, HR2.out.off hwx _ _ _ _ _, (tr_end (htr.imp (fun b hb _ => by rcases hb with h | h <;> omega)) (by omega) _ _ _ _ _), by have := HI.out.at1; omega, hm4, stepI_s7 hsi, ⟨hX.1, HE.lt⟩, fun _ => ⟨?_, ?_⟩, fun h => by cases h⟩
            · have h1 := HRM.out
              have h2 := left_len l m
              have h3 := left_len l m2
              unfold roomX at h1 ⊢
              omega
            · rw [← HFI.out, HST.out, hsi]
          have HMU2 := Lib.hid (muR_eq HI2.out.stp.rd l.length true)
          clear hs htr HE hsi x0 x1 x2 x3 x4 xf b0 b1 b2 b3 b4 bf
          obtain ⟨x0, x1, x2, x3, x4, xf⟩ := HX2.out.cells
          go_wp2_with fail
          go_roundw
          case rel => exact ⟨true, m2, g', s2, e2, qa, qc, rfl, by omega, HI2.out⟩
          case measure => rw [HMU.out, HMU2.out]; simp; omega

/-- All of it, by the steps that it may take. -/
theorem rdAll (tp : TypeId) (p : Value) (rb : Nat) (a : Option Addr) (c : Nat) (l : List Tk) : ∀ f, ExprAt tp p rb a c l f := by
  intro f
  induction f using Nat.strongRecOn with
  | ind f ih =>
    cases f with
    | zero => intro n at_ w _ _ _ h; unfold roomI at h; omega
    | succ f =>
      refine rdExpr ?_ (fun g hg => rdExtended (rdOperation (ih g (by omega))))
      cases f with
      | zero => intro n at_ w _ _ _ h; unfold roomX at h; omega
      | succ f => exact rdOperand (ih f (by omega))

end Go.Proofs.YtgnillmhpockkaaGreatDoor
