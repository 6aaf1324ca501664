/- The program's own look at columns, and how it writes one. -/
/- The laws' own helpers over schemas (the size that is left): Col. Written by tools/gen_plan.py. -/
/- The laws' own helpers over schemas (the copy): Col. Written by tools/gen_plan.py. -/
/- The laws' own helpers over schemas (the equality): Col. Written by tools/gen_plan.py. -/
/- Two boxes: the argument's own, and that of its copy. Written by tools/gen_plan.py. -/
import Derived.Test.YtpdcmmhhgnackaaGreatDoorMOkI
import Derived.Test.YtpdcmmhhgnackaaGreatDoorMExWalk
import Derived.Test.YtpdcmmhhgnackaaGreatDoorMPhr
import Derived.Test.YtpdcmmhhgnackaaGreatDoorMTypeTextI
import Derived.Test.YtpdcmmhhgnackaaGreatDoorMPutExT
import Derived.Test.YtpdcmmhhgnackaaGreatDoorMPl
namespace Go.Proofs.YtpdcmmhhgnackaaGreatDoor
open Go.RowKit

theorem Ks.sl {lo : Nat} {w : World} {a : Option Addr} {c : Nat} {kids : List Ex} (h : Ks lo w a c kids) : ∃ d, Sl 4 (RE d) lo w a c kids := by
  obtain ⟨d, h⟩ := h
  exact ⟨d, h.sl⟩

theorem i64_wf {n : Int} (h : i64E n) : (Lit.int .i64 n).wf = true := by
  have hmin : IntKind.i64.min = -9223372036854775808 := by decide
  have hmax : IntKind.i64.max = 9223372036854775807 := by decide
  simp [Lit.wf, hmin, hmax]
  exact h

set_option maxRecDepth 100000 in
set_option maxHeartbeats 2000000 in
theorem implColFits (vs : List Value) (x : Co) (w : World) (hJ : FormsAt w) (hR : RCo 0 w vs x) (hwt : x.wt ≤ 1048576) (v : Bool) (hv : colB x = v) :
    Calls Tryz.prog 29 #[.agg vs.toArray] w fun e w' => e = .returned (.bool v) ∧ Below w.heap.size w w' := by
  obtain ⟨a0, c0, rfl, hfit, k0⟩ := hR
  have HK := Lib.hid (fun w' (hb : Below w.heap.size w w') => And.intro (k0.kept (Kept.below hb)) (hJ.call hb))
  have HB := Lib.hid (fun T => boxCo_new w x a0 c0 T)
  have hW : x.wt = x.name.size + x.ty.name.size + (x.dflt.length + wtL x.dflt) := rfl
  have HD := Lib.hid (fun (e : Ex) (hm : e ∈ x.dflt) => (show e.wt ≤ 1048576 by have := wtL_mem hm; omega))
  have HF := Lib.hid (i64_wf hfit.2.2.1)
  unfold colB at hv
  clear k0 hW hJ
  cases h1 : nmB x.name with
  | false =>
    have H1 : Hid (nameB x.name.data.toList = false) := h1
    have HV : Hid (v = false) := by unfold Hid; rw [← hv, h1]; rfl
    clear hv h1
    go_enter Tryz.func29, Tryz.ntmps29
    go_wp2_with fail
    refine (implNameOk x.name _ _ H1.out).mono ?_
    rintro e w1 ⟨rfl, rfl⟩
    go_wp2_with fail
    go_ret
    exact ⟨by rw [HV.out] <;> rfl, (HB.out _).2⟩
  | true =>
    have H1 : Hid (nameB x.name.data.toList = true) := h1
    cases h2 : tyB x.ty with
    | false =>
      have H2 := Lib.hid h2
      have HV : Hid (v = false) := by unfold Hid; rw [← hv, h2]; simp
      clear hv h1 h2
      go_enter Tryz.func29, Tryz.ntmps29
      go_wp2_with fail
      refine (implNameOk x.name _ _ H1.out).mono ?_
      rintro e w1 ⟨rfl, rfl⟩
      go_wp2_with fail
      refine (implTypeOk x.ty.kind x.ty.len x.ty.name _ HF.out _ H2.out).mono ?_
      rintro e w2 ⟨rfl, b2⟩
      have B2 := Lib.hid ((HB.out 32).call b2)
      clear b2
      go_wp2_with fail
      go_ret
      exact ⟨by rw [HV.out] <;> rfl, B2.out.2⟩
    | true =>
      have H2 := Lib.hid h2
      have HV : Hid ((inI x.dflt.length 0 1 && x.dflt.all okX) = v) := by unfold Hid; rw [← hv, h1, h2]; rfl
      clear hv h1 h2
      go_enter Tryz.func29, Tryz.ntmps29
      go_wp2_with fail
      refine (implNameOk x.name _ _ H1.out).mono ?_
      rintro e w1 ⟨rfl, rfl⟩
      go_wp2_with fail
      refine (implTypeOk x.ty.kind x.ty.len x.ty.name _ HF.out _ H2.out).mono ?_
      rintro e w2 ⟨rfl, b2⟩
      have B2 := Lib.hid ((HB.out 32).call b2)
      clear b2
      have g5 : w2.cell? ⟨w.heap.size, 5, none⟩ = some (.slice a0 x.dflt.length c0) := (B2.out.1.2 5 (by simp)).1
      go_wp2_with fail
      obtain ⟨d, hsl⟩ := (HK.out _ B2.out.2).1.sl
      refine (fitsX d a0 c0 x.dflt 0 1 _ hsl (HK.out _ B2.out.2).2 HD.out v HV.out).mono ?_
      rintro e w3 ⟨rfl, b3⟩
      have B3 := Lib.hid (B2.out.call b3)
      clear b3
      go_wp2_with fail
      go_ret
      exact ⟨rfl, B3.out.2⟩

theorem Strs.addr {w : World} {a : Option Addr} {c : Nat} {xs : List ByteArray} (h : Strs w a c xs) (hp : 0 < xs.length) : a = none ∨ ∃ b off, a = some ⟨b, off, none⟩ := by
  obtain ⟨b, off, ha, _⟩ := h.2.2.2.2 hp
  exact .inr ⟨b, off, ha⟩

/-- A phrase's own row. -/
theorem rowLit1 (w : World) (xs : List ByteArray) (hs : ∀ s ∈ xs, s.size ≤ maxLen) (hn : xs.length ≤ 1000000) : Strs (w.alloc (.cells (xs.map Value.string).toArray 9)) (some ⟨w.heap.size, 0, none⟩) xs.length xs := by
  refine ⟨Nat.le_refl _, by unfold maxLen; omega, hs, (fun h => by cases h), fun _ => ⟨w.heap.size, 0, rfl, by simp, fun i hi => ?_⟩⟩
  rw [cell_of_row _ _ _ _ _ _ (heap_alloc_new w _)]
  simp [hi]

/-- A phrase with a word and the first expression behind it, if there is one. -/
def dfL (ps : List ByteArray) (wd : ByteArray) : List Ex → List ByteArray
  | [] => ps
  | e :: _ => ps ++ [wd, putT e]

set_option maxRecDepth 100000 in
set_option maxHeartbeats 2000000 in
theorem phraseMaybe (a : Option Addr) (c : Nat) (xs : List ByteArray) (wd : ByteArray) (ka : Option Addr) (kc : Nat) (kids : List Ex) (w : World) (hx : Strs w a c xs) (hp : 0 < xs.length) (hn : xs.length ≤ 1000) (hT : Tabs w) (hk : Ks 0 w ka kc kids) (hwt : ∀ e ∈ kids, e.wt ≤ 1048576) (hwd : wd.size ≤ maxLen)
    (hz : ∀ e ∈ kids, (putT e).size ≤ 8400) (ys : List ByteArray) (hys : ys = dfL xs wd kids) :
    Calls Tryz.prog 33 #[.slice a xs.length c, .string wd, .slice ka kids.length kc] w fun e w' => ∃ a' c', e = .returned (.slice a' ys.length c') ∧ Strs w' a' c' ys ∧ Below w.heap.size w w' := by
  have hl := hk.len
  cases kids with
  | nil =>
    simp only [dfL] at hys
    subst hys
    simp only [List.length_nil]
    go_enter Tryz.func33, Tryz.ntmps33
    go_wp2_with fail
    go_ret
    exact ⟨_, _, rfl, hx, Below.refl _ _⟩
  | cons e1 r =>
    simp only [dfL] at hys
    obtain ⟨d, hs⟩ := hk.sl
    obtain ⟨b, off, vs1, rfl, hbl, hcs, hR1⟩ := hs.spot (i := 0) (by simp)
    obtain ⟨a1, c1, rfl, hfit1, hkid⟩ := hR1
    simp only [List.getElem_cons_zero] at hcs hkid hfit1
    have hc0 : w.cell? ⟨b, off, none⟩ = some (.int .i64 e1.kind) := by have := hcs 0 (by simp); simpa using this
    have hc1 : w.cell? ⟨b, off + 1, none⟩ = some (.string e1.text) := by have := hcs 1 (by simp); simpa using this
    have hc2 : w.cell? ⟨b, off + 2, none⟩ = some (.int .i64 e1.num) := by have := hcs 2 (by simp); simpa using this
    have hc3 : w.cell? ⟨b, off + 3, none⟩ = some (.slice a1 e1.kids.length c1) := by have := hcs 3 (by simp); simpa using this
    have hew : e1.wt ≤ 1048576 := hwt e1 (by simp)
    have hez : (putT e1).size ≤ 8400 := hz e1 (by simp)
    obtain ⟨s, hsE⟩ : ∃ s, putT e1 = s := ⟨_, rfl⟩
    rw [hsE] at hys hez
    have HC := Lib.hid (implPutExpr e1 a1 c1 d w hT hfit1 hkid.at (by have := nodes_wt e1; omega) s hsE)
    have HX := Lib.hid (fun w' (hb : Below w.heap.size w w') => hx.below hb)
    have HA := Lib.hid (hx.addr hp)
    have hne : ((((r.length + 1 : Nat) : Int)) == 0) = false := by simp; omega
    have hlp : (0 : Int) < ((r.length + 1 : Nat) : Int) := by omega
    have HY := Lib.hid hys
    clear hx hs hcs hkid hk hsE hys hT
    simp only [List.length_cons] at hl hp ⊢
    go_enter Tryz.func33, Tryz.ntmps33
    go_wp2_with fail
    refine HC.out.mono ?_
    rintro e w1 ⟨rfl, b1⟩
    have B1 := Lib.hid b1
    have hsz1 := b1.size
    clear b1 hc0 hc1 hc2 hc3
    go_wp2_with fail
    have hrow := rowLit1 w1 [wd, s] (by intro t ht; simp only [List.mem_cons, List.not_mem_nil, or_false] at ht; rcases ht with rfl | rfl; exact hwd; unfold maxLen; omega) (by simp)
    refine (phraseAnd a c xs _ 2 [wd, s] _ ((HX.out _ B1.out).below ((Below.refl _ _).alloc (Nat.le_refl _) _)) hrow HA.out (by simp only [List.length_cons, List.length_nil]; omega)).mono ?_
    rintro e w2 ⟨a2, c2, rfl, hs2, b2⟩
    have B2 := Lib.hid (show Below w.heap.size w w2 from Below.call b2 (B1.out.alloc hsz1 _))
    have HS2 := Lib.hid hs2
    clear b2 hs2
    go_wp2_with fail
    go_ret
    refine ⟨a2, c2, ?_, ?_, B2.out⟩
    · rw [HY.out, List.length_append]; rfl
    · rw [HY.out]; exact HS2.out

def wNN1 : ByteArray := ⟨#[110, 111, 116, 32, 110, 117, 108, 108]⟩
def wDf1 : ByteArray := ⟨#[100, 101, 102, 97, 117, 108, 116]⟩

theorem ba_app (a b c d : ByteArray) (h : b ++ c = d) : a ++ b ++ c = a ++ d := by rw [ba_assoc, h]

theorem join2 (a b : ByteArray) : joinT [a, b] (txt [32]) = a ++ txt [32] ++ b := by rw [joinT_cons, joinT_one]

theorem join_more (xs ys : List ByteArray) (s : ByteArray) (hx : xs ≠ []) (hy : ys ≠ []) : joinT (xs ++ ys) s = joinT xs s ++ s ++ joinT ys s := by
  induction xs with
  | nil => exact absurd rfl hx
  | cons x r ih =>
    cases r with
    | nil =>
      cases ys with
      | nil => exact absurd rfl hy
      | cons y t => rw [List.cons_append, List.nil_append, joinT_cons, joinT_one]
    | cons z t =>
      rw [List.cons_append, List.cons_append, joinT_cons, ← List.cons_append, ih (by simp), joinT_cons]
      simp only [ba_assoc]

theorem sp_nn : txt [32] ++ wNN1 = txt wNN := ba_ext (by rw [ba_list]; rfl)

theorem df_text (s : ByteArray) (e : Ex) : s ++ txt [32] ++ joinT [wDf1, putT e] (txt [32]) = s ++ txt wDf ++ putT e := by
  rw [join2]
  apply ba_ext
  simp only [ba_list, List.append_assoc]
  rfl

theorem lets_cons (x : ByteArray) (r : List ByteArray) : lets (x :: r) = x.size + lets r := by simp [lets]

set_option maxRecDepth 100000 in
set_option maxHeartbeats 4000000 in
theorem implPutCol (vs : List Value) (x : Co) (w : World) (hT : Tabs w) (hR : RCo 0 w vs x) (hwt : x.wt ≤ 1048576) (r : ByteArray) (hr : colT x = r) :
    Calls Tryz.prog 9 #[.agg vs.toArray] w fun e w' => e = .returned (.string r) ∧ Below w.heap.size w w' := by
  have HC := Lib.hid (fun w' (hb : Below w.heap.size w w') => implColFits vs x w' (hT.call hb).forms (goodCo.kept hR (Kept.below hb)) hwt _ rfl)
  have HT := Lib.hid (fun w' (hb : Below w.heap.size w w') => hT.call hb)
  obtain ⟨a0, c0, rfl, hfit, k0⟩ := hR
  have HK := Lib.hid (fun w' (hb : Below w.heap.size w w') => k0.kept (Kept.below hb))
  have HB := Lib.hid (fun T => boxCo_new w x a0 c0 T)
  have hW : x.wt = x.name.size + x.ty.name.size + (x.dflt.length + wtL x.dflt) := rfl
  have HN := Lib.hid (show x.name.size ≤ 1048576 by omega)
  have HTn := Lib.hid (show x.ty.name.size ≤ 1048576 by omega)
  have HD := Lib.hid (fun (e : Ex) (hm : e ∈ x.dflt) => (show e.wt ≤ 1048576 by have := wtL_mem hm; omega))
  have HF := Lib.hid (i64_wf hfit.2.2.1)
  unfold colT at hr
  clear k0 hW hT
  cases hc : colB x with
  | false =>
    have HCC := Lib.hid hc
    have HV : Hid (r = ⟨#[]⟩) := by unfold Hid; rw [← hr, hc]; rfl
    clear hr hc
    go_enter Tryz.func9, Tryz.ntmps9
    go_wp2_with fail
    refine (HC.out _ (HB.out _).2).mono ?_
    rintro e w1 ⟨rfl, b1⟩
    have B1 := Lib.hid ((HB.out 32).call b1)
    clear b1
    rw [HCC.out]
    go_wp2_with fail
    go_ret
    exact ⟨by rw [HV.out] <;> rfl, B1.out.2⟩
  | true =>
    have HCC := Lib.hid hc
    obtain ⟨q1, q2, q3, q4⟩ := colB_parts hc
    rw [if_pos hc] at hr
    obtain ⟨s1, hs1⟩ : ∃ s, nameT x.name = s := ⟨_, rfl⟩
    obtain ⟨s2, hs2⟩ : ∃ s, tyT x.ty = s := ⟨_, rfl⟩
    have z1 : s1.size ≤ 82 := by rw [← hs1]; exact nameT_small q1
    have z2 : s2.size ≤ 100 := by rw [← hs2]; exact tyT_small q2
    have HNN : Hid (nnT x = if x.notNull = true then joinT [s1, s2, wNN1] (txt [32]) else joinT [s1, s2] (txt [32])) := by
      unfold Hid nnT
      rw [hs1, hs2, show [s1, s2, wNN1] = [s1, s2] ++ [wNN1] from rfl, join_more _ _ _ (by simp) (by simp), joinT_one, join2, ba_app _ _ _ _ sp_nn]
    have HQ4 := Lib.hid q4
    have HS1 := Lib.hid hs1
    have HS2 := Lib.hid hs2
    have HR := Lib.hid hr
    clear hr hc hs1 hs2 q1 q2 q4
    go_enter Tryz.func9, Tryz.ntmps9
    go_wp2_with fail
    refine (HC.out _ (HB.out _).2).mono ?_
    rintro e w1 ⟨rfl, b1⟩
    have B1 := Lib.hid ((HB.out 32).call b1)
    clear b1
    rw [HCC.out]
    go_wp2_with fail
    have hst : Hid (∀ p q : World, (((p.cell? ⟨w.heap.size, 0, none⟩ = some (.string x.name) ∧ p.cell? ⟨w.heap.size, 1, none⟩ = some (.int .i64 x.ty.kind) ∧ p.cell? ⟨w.heap.size, 2, none⟩ = some (.int .i64 x.ty.len) ∧ p.cell? ⟨w.heap.size, 3, none⟩ = some (.string x.ty.name)) ∧ Hid (BoxCo w x a0 c0 p)) → Below p.heap.size p q → ((q.cell? ⟨w.heap.size, 0, none⟩ = some (.string x.name) ∧ q.cell? ⟨w.heap.size, 1, none⟩ = some (.int .i64 x.ty.kind) ∧ q.cell? ⟨w.heap.size, 2, none⟩ = some (.int .i64 x.ty.len) ∧ q.cell? ⟨w.heap.size, 3, none⟩ = some (.string x.ty.name)) ∧ Hid (BoxCo w x a0 c0 q)))) := fun p q h hb => by
      have T := h.2.out.call hb
      exact ⟨⟨(T.1.2 0 (by simp)).1, (T.1.2 1 (by simp)).1, (T.1.2 2 (by simp)).1, (T.1.2 3 (by simp)).1⟩, T⟩
    have D1 := Lib.hid (B1.out.call (below_drewE (Below.refl _ _)))
    go_region_held3 (fun w' => (w'.cell? ⟨w.heap.size, 0, none⟩ = some (.string x.name) ∧ w'.cell? ⟨w.heap.size, 1, none⟩ = some (.int .i64 x.ty.kind) ∧ w'.cell? ⟨w.heap.size, 2, none⟩ = some (.int .i64 x.ty.len) ∧ w'.cell? ⟨w.heap.size, 3, none⟩ = some (.string x.ty.name)) ∧ Hid (BoxCo w x a0 c0 w')) (first | assumption | exact ⟨⟨(D1.out.1.2 0 (by simp)).1, (D1.out.1.2 1 (by simp)).1, (D1.out.1.2 2 (by simp)).1, (D1.out.1.2 3 (by simp)).1⟩, D1.out⟩ | exact hst.out _ _ (by assumption) ((Below.refl _ _).alloc (Nat.le_refl _) _))
      (first
        | (go_at_call 30; refine (implPutName x.name _ HN.out s1 HS1.out).mono ?_; rintro e wq ⟨rfl, bq⟩; have hq := hst.out _ _ (by assumption) bq)
        | (go_at_call 31; refine (implTypeTextC x.ty _ HTn.out HF.out (HT.out _ (And.right (by assumption : _ ∧ Hid (BoxCo w x a0 c0 _))).out.2) s2 HS2.out).mono ?_; rintro e wz ⟨rfl, bz⟩; have hz := hst.out _ _ (by assumption) bz; have T9 := Lib.hid hz.2.out))
    clear hst bz hz bq hq D1
    have zs1 : s1.size ≤ maxLen := by unfold maxLen; omega
    have zs2 : s2.size ≤ maxLen := by unfold maxLen; omega
    have HP : Hid (Strs (wz.alloc (.cells #[.string s1, .string s2] 9)) (some ⟨wz.heap.size, 0, none⟩) 2 [s1, s2]) := rowLit1 wz [s1, s2] (by intro t ht; simp only [List.mem_cons, List.not_mem_nil, or_false] at ht; rcases ht with rfl | rfl; exact zs1; exact zs2) (by simp)
    have B3 : Hid (BoxCo w x a0 c0 (wz.alloc (.cells #[.string s1, .string s2] 9))) := T9.out.call ((Below.refl _ _).alloc (Nat.le_refl _) _)
    clear T9
    generalize wz.alloc (.cells #[.string s1, .string s2] 9) = W3 at HP B3 ⊢
    generalize wz.heap.size = pb at HP ⊢
    have g4 : W3.cell? ⟨w.heap.size, 4, none⟩ = some (.bool x.notNull) := (B3.out.1.2 4 (by simp)).1
    have g5 : W3.cell? ⟨w.heap.size, 5, none⟩ = some (.slice a0 x.dflt.length c0) := (B3.out.1.2 5 (by simp)).1
    have hzd : Hid (∀ e ∈ x.dflt, (putT e).size ≤ 8400) := fun e he => putT_small (HQ4.out e he)
    have hm0 : (ByteArray.mk #[100, 101, 102, 97, 117, 108, 116]).size ≤ maxLen := by decide
    have hdd : Hid (∀ s : ByteArray, dfT wDf s x.dflt = match x.dflt with | [] => s | e :: _ => s ++ txt [32] ++ joinT [wDf1, putT e] (txt [32])) := fun s => by
      cases x.dflt with
      | nil => rfl
      | cons e r => exact (df_text s e).symm
    have hend : Hid (∀ (ps : List ByteArray) (ys : List ByteArray), ps ≠ [] → ps.length ≤ 3 → lets ps ≤ 300 → (ys = dfL ps wDf1 x.dflt) → dfT wDf (joinT ps (txt [32])) x.dflt = joinT ys (txt [32]) ∧ lets ys + ys.length ≤ 1073741824) := by
      intro ps ys hp h3 hlp hys
      rw [hdd.out, hys]
      cases hd : x.dflt with
      | nil => exact ⟨rfl, by simp only [dfL]; omega⟩
      | cons e r =>
        simp only [dfL]
        refine ⟨(join_more _ _ _ hp (by simp)).symm, ?_⟩
        have he := hzd.out e (by rw [hd]; simp)
        have e1 : lets (ps ++ [wDf1, putT e]) = lets ps + (wDf1.size + (putT e).size) := by simp [lets]
        have e2 : wDf1.size = 7 := rfl
        rw [e1, List.length_append]
        simp only [List.length_cons, List.length_nil]
        omega
    cases hnn : x.notNull with
    | false =>
      have HV : Hid (r = dfT wDf (joinT [s1, s2] (txt [32])) x.dflt) := by unfold Hid; rw [← HR.out, HNN.out, hnn]; rfl
      rw [hnn] at g4
      clear hnn
      go_wp2_with fail
      obtain ⟨ys, hys⟩ : ∃ ys, ys = dfL [s1, s2] wDf1 x.dflt := ⟨_, rfl⟩
      have HE := Lib.hid (hend.out [s1, s2] ys (by simp) (by simp) (by simp [lets]; omega) hys)
      refine (phraseMaybe (some ⟨pb, 0, none⟩) 2 [s1, s2] wDf1 a0 c0 x.dflt _ HP.out (by simp) (by simp) (HT.out _ B3.out.2) (HK.out _ B3.out.2) HD.out hm0 hzd.out ys hys).mono ?_
      rintro e w4 ⟨a4, c4, rfl, hs4, b4⟩
      have HS4 := Lib.hid hs4
      have B4 := Lib.hid (B3.out.call b4)
      clear hs4 b4 hys g4 g5
      go_wp2_with fail
      refine (phraseText a4 c4 ys _ HS4.out HE.out.2 r (by rw [HV.out]; exact HE.out.1.symm)).mono ?_
      rintro e w5 ⟨rfl, b5⟩
      have B5 := Lib.hid (B4.out.call b5)
      clear b5
      go_wp2_with fail
      go_ret
      exact ⟨rfl, B5.out.2⟩
    | true =>
      have HV : Hid (r = dfT wDf (joinT [s1, s2, wNN1] (txt [32])) x.dflt) := by unfold Hid; rw [← HR.out, HNN.out, hnn]; rfl
      rw [hnn] at g4
      clear hnn
      go_wp2_with fail
      have hrow := rowLit1 W3 [wNN1] (by intro t ht; simp only [List.mem_cons, List.not_mem_nil, or_false] at ht; rw [ht]; decide) (by simp)
      refine (phraseAnd (some ⟨pb, 0, none⟩) 2 [s1, s2] _ 1 [wNN1] _ (HP.out.below ((Below.refl _ _).alloc (Nat.le_refl _) _)) hrow (.inr ⟨_, _, rfl⟩) (by simp)).mono ?_
      rintro e w4 ⟨a4, c4, rfl, hs4, b4⟩
      have HS4 : Hid (Strs w4 a4 c4 [s1, s2, wNN1]) := hs4
      have B4 := Lib.hid ((B3.out.call ((Below.refl _ _).alloc (Nat.le_refl _) _)).call b4)
      clear hs4 b4 hrow g4 g5
      have g4 : w4.cell? ⟨w.heap.size, 4, none⟩ = some (.bool x.notNull) := (B4.out.1.2 4 (by simp)).1
      have g5 : w4.cell? ⟨w.heap.size, 5, none⟩ = some (.slice a0 x.dflt.length c0) := (B4.out.1.2 5 (by simp)).1
      obtain ⟨ys, hys⟩ : ∃ ys, ys = dfL [s1, s2, wNN1] wDf1 x.dflt := ⟨_, rfl⟩
      have HE := Lib.hid (hend.out [s1, s2, wNN1] ys (by simp) (by simp) (by have : wNN1.size = 8 := rfl; simp [lets]; omega) hys)
      go_wp2_with fail
      refine (phraseMaybe a4 c4 [s1, s2, wNN1] wDf1 a0 c0 x.dflt _ HS4.out (by simp) (by simp) (HT.out _ B4.out.2) (HK.out _ B4.out.2) HD.out hm0 hzd.out ys hys).mono ?_
      rintro e w6 ⟨a6, c6, rfl, hs6, b6⟩
      have HS6 := Lib.hid hs6
      have B6 := Lib.hid (B4.out.call b6)
      clear hs6 b6 hys g4 g5
      go_wp2_with fail
      refine (phraseText a6 c6 ys _ HS6.out HE.out.2 r (by rw [HV.out]; exact HE.out.1.symm)).mono ?_
      rintro e w5 ⟨rfl, b5⟩
      have B5 := Lib.hid (B6.out.call b5)
      clear b5
      go_wp2_with fail
      go_ret
      exact ⟨rfl, B5.out.2⟩

end Go.Proofs.YtpdcmmhhgnackaaGreatDoor

namespace Go.Proofs.YtpdcmmhhgnackaaGreatDoor
open Go.RowKit

set_option maxHeartbeats 2000000 in
theorem szCo (vs : List Value) (x : Co) (left : Int) (w : World) (hR : RCo 0 w vs x) (h0 : 0 ≤ left) (h1 : left ≤ 1048576) :
    Calls Tryz.prog 6 #[.agg vs.toArray, .int .i64 left] w fun e w' => e = .returned (.int .i64 (leftN x.wt left)) ∧ Below w.heap.size w w' := by
  obtain ⟨a0, c0, rfl, hfit, k0⟩ := hR
  have t_name : x.name.size ≤ 9223372036854775807 := by have : x.name.size ≤ maxLen := hfit.1; unfold maxLen at this; omega
  have t_ty : x.ty.name.size ≤ 9223372036854775807 := by have : x.ty.name.size ≤ maxLen := hfit.2.1; unfold maxLen at this; omega
  have K0 := Lib.hid (fun w' (hb : Below w.heap.size w w') => k0.kept (Kept.below hb))
  clear k0
  have HW := Lib.hid (show x.wt = x.name.size + x.ty.name.size + (x.dflt.length + wtL x.dflt) from rfl)
  go_enter Tryz.func6, Tryz.ntmps6
  by_cases q0 : left < ((x.name.size : Nat) : Int)
  · have H : Hid (leftN x.wt left = -1) := by unfold Hid leftN; rw [if_pos (by have := HW.out; omega)]
    have d0 : decide (left - ((x.name.size : Nat) : Int) < 0) = true := by simp; omega
    go_wp2_with fail
    go_ret
    exact ⟨by rw [H.out]; rfl, (Below.refl _ _).alloc (Nat.le_refl _) _⟩
  · have d0 : decide (left - ((x.name.size : Nat) : Int) < 0) = false := by simp; omega
    go_wp2_with fail
    refine (szTy0 x.ty.kind x.ty.len x.ty.name (left - ((x.name.size : Nat) : Int)) _ hfit.2.1 (by omega) (by omega)).mono ?_
    by_cases q1 : left - ((x.name.size : Nat) : Int) < ((x.ty.name.size : Nat) : Int)
    · have H : Hid (leftN x.wt left = -1) := by unfold Hid leftN; rw [if_pos (by have := HW.out; omega)]
      rw [show leftN x.ty.name.size (left - ((x.name.size : Nat) : Int)) = -1 from if_pos q1]
      rintro e w1 ⟨rfl, b1⟩
      have B1 := Lib.hid (Below.call b1 ((Below.refl _ _).alloc (Nat.le_refl _) _))
      clear b1
      go_wp2_with fail
      go_ret
      exact ⟨by rw [H.out]; rfl, B1.out⟩
    · have d1 : decide (left - ((x.name.size : Nat) : Int) - ((x.ty.name.size : Nat) : Int) < 0) = false := by simp; omega
      rw [show leftN x.ty.name.size (left - ((x.name.size : Nat) : Int)) = left - ((x.name.size : Nat) : Int) - ((x.ty.name.size : Nat) : Int) from if_neg q1]
      rintro e w1 ⟨rfl, b1⟩
      have B1 := Lib.hid (Below.call b1 ((Below.refl _ _).alloc (Nat.le_refl _) _))
      have A1 := Lib.hid (Blk.call b1 (blk_new w _ [.string x.name, .int .i64 x.ty.kind, .int .i64 x.ty.len, .string x.ty.name, .bool x.notNull, .slice a0 x.dflt.length c0]))
      clear b1
      have g1_0 : w1.cell? ⟨w.heap.size, 0, none⟩ = some (.string x.name) := (A1.out.2 0 (by simp)).1
      have g1_1 : w1.cell? ⟨w.heap.size, 1, none⟩ = some (.int .i64 x.ty.kind) := (A1.out.2 1 (by simp)).1
      have g1_2 : w1.cell? ⟨w.heap.size, 2, none⟩ = some (.int .i64 x.ty.len) := (A1.out.2 2 (by simp)).1
      have g1_3 : w1.cell? ⟨w.heap.size, 3, none⟩ = some (.string x.ty.name) := (A1.out.2 3 (by simp)).1
      have g1_4 : w1.cell? ⟨w.heap.size, 4, none⟩ = some (.bool x.notNull) := (A1.out.2 4 (by simp)).1
      have g1_5 : w1.cell? ⟨w.heap.size, 5, none⟩ = some (.slice a0 x.dflt.length c0) := (A1.out.2 5 (by simp)).1
      go_wp2_with fail
      refine (szKs a0 c0 x.dflt (left - ((x.name.size : Nat) : Int) - ((x.ty.name.size : Nat) : Int)) _ (K0.out _ ?_) (by omega) (by omega)).mono ?_
      · exact B1.out
      by_cases q2 : left - ((x.name.size : Nat) : Int) - ((x.ty.name.size : Nat) : Int) < (((x.dflt.length + wtL x.dflt) : Nat) : Int)
      · have H : Hid (leftN x.wt left = -1) := by unfold Hid leftN; rw [if_pos (by have := HW.out; omega)]
        rw [show leftN (x.dflt.length + wtL x.dflt) (left - ((x.name.size : Nat) : Int) - ((x.ty.name.size : Nat) : Int)) = -1 from if_pos q2]
        rintro e w2 ⟨rfl, b2⟩
        have B2 := Lib.hid (Below.call b2 B1.out)
        clear b2
        go_wp2_with fail
        go_ret
        exact ⟨by rw [H.out]; rfl, B2.out⟩
      · have d2 : decide (left - ((x.name.size : Nat) : Int) - ((x.ty.name.size : Nat) : Int) - (((x.dflt.length + wtL x.dflt) : Nat) : Int) < 0) = false := by simp; omega
        rw [show leftN (x.dflt.length + wtL x.dflt) (left - ((x.name.size : Nat) : Int) - ((x.ty.name.size : Nat) : Int)) = left - ((x.name.size : Nat) : Int) - ((x.ty.name.size : Nat) : Int) - (((x.dflt.length + wtL x.dflt) : Nat) : Int) from if_neg q2]
        rintro e w2 ⟨rfl, b2⟩
        have B2 := Lib.hid (Below.call b2 B1.out)
        have A2 := Lib.hid (Blk.call b2 A1.out)
        clear b2
        clear g1_0 g1_1 g1_2 g1_3 g1_4 g1_5
        have g2_0 : w2.cell? ⟨w.heap.size, 0, none⟩ = some (.string x.name) := (A2.out.2 0 (by simp)).1
        have g2_1 : w2.cell? ⟨w.heap.size, 1, none⟩ = some (.int .i64 x.ty.kind) := (A2.out.2 1 (by simp)).1
        have g2_2 : w2.cell? ⟨w.heap.size, 2, none⟩ = some (.int .i64 x.ty.len) := (A2.out.2 2 (by simp)).1
        have g2_3 : w2.cell? ⟨w.heap.size, 3, none⟩ = some (.string x.ty.name) := (A2.out.2 3 (by simp)).1
        have g2_4 : w2.cell? ⟨w.heap.size, 4, none⟩ = some (.bool x.notNull) := (A2.out.2 4 (by simp)).1
        have g2_5 : w2.cell? ⟨w.heap.size, 5, none⟩ = some (.slice a0 x.dflt.length c0) := (A2.out.2 5 (by simp)).1
        have H : Hid (leftN x.wt left = left - ((x.name.size : Nat) : Int) - ((x.ty.name.size : Nat) : Int) - (((x.dflt.length + wtL x.dflt) : Nat) : Int)) := by unfold Hid leftN; rw [if_neg (by have := HW.out; omega)]; have := HW.out; omega
        go_wp2_with fail
        go_ret
        exact ⟨by rw [H.out]; rfl, B2.out⟩

set_option maxHeartbeats 2000000 in
theorem szCoS (a : Option Addr) (c : Nat) (xs : List Co) (left : Int) (w : World) (hx : Sl 6 RCo 0 w a c xs) (h0 : 0 ≤ left) (h1 : left ≤ 1048576) :
    Calls Tryz.prog 47 #[.slice a xs.length c, .int .i64 left] w fun e w' => e = .returned (.int .i64 (leftN (xs.length + wtS Co.wt xs) left)) ∧ Below w.heap.size w w' := by
  have hl := hx.len
  by_cases hs : left < xs.length
  · have H : Hid (leftN (xs.length + wtS Co.wt xs) left = -1) := by unfold Hid leftN; rw [if_pos (by omega)]
    go_enter Tryz.func47, Tryz.ntmps47
    go_wp2
    go_ret
    exact ⟨by rw [H.out]; rfl, Below.refl _ _⟩
  · have hs' : (xs.length : Int) ≤ left := by omega
    have HX := Lib.hid (fun w' (hb : Below w.heap.size w w') => hx.kept goodCo (Kept.below hb))
    clear hx
    go_enter Tryz.func47, Tryz.ntmps47
    go_wp2
    go_loopw [1, 5] (fun l i wr => ∃ k : Nat, k ≤ xs.length ∧ i = .int .i64 k ∧ wtS Co.wt (xs.take k) ≤ left - xs.length ∧ l = .int .i64 (left - xs.length - wtS Co.wt (xs.take k)) ∧ Below w.heap.size w wr) (fun _ i _ => xs.length - (intOf i).toNat)
    case atStart => exact ⟨0, Nat.zero_le _, rfl, by simp [wtS]; omega, by simp [wtS], Below.refl _ _⟩
    case round =>
      obtain ⟨k, hk, rfl, hsm, rfl, hb⟩ := hrel
      by_cases hlt : k < xs.length
      · obtain ⟨b, off, vs, rfl, hbl, hcs, hR⟩ := (HX.out _ hb).spot hlt
        have HR := hR
        obtain ⟨a0, c0, rfl, _⟩ := hR
        have hc0 : wr.cell? ⟨b, off + k * 6, none⟩ = some (.string xs[k].name) := hcs 0 (by simp)
        have hc1 : wr.cell? ⟨b, off + k * 6 + 1, none⟩ = some (.int .i64 xs[k].ty.kind) := hcs 1 (by simp)
        have hc2 : wr.cell? ⟨b, off + k * 6 + 2, none⟩ = some (.int .i64 xs[k].ty.len) := hcs 2 (by simp)
        have hc3 : wr.cell? ⟨b, off + k * 6 + 3, none⟩ = some (.string xs[k].ty.name) := hcs 3 (by simp)
        have hc4 : wr.cell? ⟨b, off + k * 6 + 4, none⟩ = some (.bool xs[k].notNull) := hcs 4 (by simp)
        have hc5 : wr.cell? ⟨b, off + k * 6 + 5, none⟩ = some (.slice a0 xs[k].dflt.length c0) := hcs 5 (by simp)
        have HT := Lib.hid (wtS_take Co.wt xs k hlt)
        have HL := Lib.hid (wtS_le Co.wt xs (k + 1))
        have HK := Lib.hid HR
        clear HR hcs
        go_wp2_with fail
        refine (szCo _ xs[k] (left - xs.length - wtS Co.wt (xs.take k)) _ HK.out (by omega) (by omega)).mono ?_
        by_cases hle : left - xs.length - wtS Co.wt (xs.take k) < xs[k].wt
        · rw [show leftN xs[k].wt (left - xs.length - wtS Co.wt (xs.take k)) = -1 from if_pos hle]
          rintro e w2 ⟨rfl, hb2⟩
          have H : Hid (leftN (xs.length + wtS Co.wt xs) left = -1) := by unfold Hid leftN; rw [if_pos (by have := HT.out; have := HL.out; omega)]
          go_wp2_with fail
          go_ret
          exact ⟨by rw [H.out]; rfl, hb.trans (hb2.mono hb.size)⟩
        · rw [show leftN xs[k].wt (left - xs.length - wtS Co.wt (xs.take k)) = left - xs.length - wtS Co.wt (xs.take k) - xs[k].wt from if_neg hle]
          rintro e w2 ⟨rfl, hb2⟩
          go_wp2_with fail
          go_roundw
          case rel => exact ⟨k + 1, by omega, by go_num, by have := HT.out; omega, by rw [HT.out]; go_num, hb.trans (hb2.mono hb.size)⟩
          case measure => simp [intOf]; omega
      · obtain rfl : k = xs.length := by omega
        have H : Hid (leftN (xs.length + wtS Co.wt xs) left = left - xs.length - wtS Co.wt xs) := by
          unfold Hid leftN; rw [List.take_length] at hsm; rw [if_neg (by omega)]; omega
        go_wp2_with fail
        go_ret
        exact ⟨by rw [H.out, List.take_length]; rfl, hb⟩

end Go.Proofs.YtpdcmmhhgnackaaGreatDoor

namespace Go.Proofs.YtpdcmmhhgnackaaGreatDoor
open Go.RowKit

set_option maxHeartbeats 2000000 in
theorem toCo (vs : List Value) (x : Co) (w : World) (hR : RCo 0 w vs x) (hn : x.wt ≤ 1048576) :
    Calls Tryz.prog 8 #[.agg vs.toArray] w fun e w' => ∃ vs' : List Value, vs'.length = 6 ∧ e = .returned (.agg vs'.toArray) ∧ RCo w.heap.size w' vs' x ∧ Below w.heap.size w w' := by
  obtain ⟨a0, c0, rfl, hfit, k0⟩ := hR
  have K0 := Lib.hid (fun w' (hb : Below w.heap.size w w') => k0.kept (Kept.below hb))
  clear k0
  have HW : x.wt = x.name.size + x.ty.name.size + (x.dflt.length + wtL x.dflt) := rfl
  go_enter Tryz.func8, Tryz.ntmps8
  go_wp2_with fail
  refine (toTy x.ty.kind x.ty.len x.ty.name _).mono ?_
  rintro e wt ⟨rfl, bt⟩
  have Bt := Lib.hid (show Below w.heap.size w wt from Below.call bt (by ((repeat (first | refine Below.alloc ?_ (by first | omega | (simp; done) | (simp; omega)) _ | refine Below.setCell ?_ (by first | omega | (simp; done) | (simp; omega)) _)); first | exact Below.refl _ _ | exact Below.refl _ _)))
  have At := Lib.hid (show Blk wt w.heap.size [.string x.name, .int .i64 x.ty.kind, .int .i64 x.ty.len, .string x.ty.name, .bool x.notNull, .slice a0 x.dflt.length c0] from Blk.call bt (((blk_new w _ [.string x.name, .int .i64 x.ty.kind, .int .i64 x.ty.len, .string x.ty.name, .bool x.notNull, .slice a0 x.dflt.length c0]).alloc _).alloc _))
  have Yt := Lib.hid (show Blk wt (w.heap.size + 1) [.string ByteArray.empty, .int .i64 0, .int .i64 0, .string ByteArray.empty, .bool false, .slice none 0 0] from Blk.call bt ((blk_new' (w := w.alloc _) (b := w.heap.size + 1) (by simp) _ [.string ByteArray.empty, .int .i64 0, .int .i64 0, .string ByteArray.empty, .bool false, .slice none 0 0]).alloc _))
  have Gt := Lib.hid (show Blk wt (w.heap.size + 1 + 1) [.string x.name, .int .i64 0, .int .i64 0, .string ByteArray.empty, .bool false, .slice none 0 0] from Blk.call bt (blk_new' (w := (w.alloc _).alloc _) (b := w.heap.size + 1 + 1) (by simp) _ [.string x.name, .int .i64 0, .int .i64 0, .string ByteArray.empty, .bool false, .slice none 0 0]))
  clear bt
  have gt_4 : wt.cell? ⟨w.heap.size, 4, none⟩ = some (.bool x.notNull) := (At.out.2 4 (by simp)).1
  have gt_5 : wt.cell? ⟨w.heap.size, 5, none⟩ = some (.slice a0 x.dflt.length c0) := (At.out.2 5 (by simp)).1
  have ht_1 : wt.cell? ⟨w.heap.size + 1 + 1, 1, none⟩ = some (.int .i64 0) := (Gt.out.2 1 (by simp)).1
  have zt_1 : wt.frozen? ⟨w.heap.size + 1 + 1, 1, none⟩ = false := (Gt.out.2 1 (by simp)).2
  have ht_2 : wt.cell? ⟨w.heap.size + 1 + 1, 2, none⟩ = some (.int .i64 0) := (Gt.out.2 2 (by simp)).1
  have zt_2 : wt.frozen? ⟨w.heap.size + 1 + 1, 2, none⟩ = false := (Gt.out.2 2 (by simp)).2
  have ht_3 : wt.cell? ⟨w.heap.size + 1 + 1, 3, none⟩ = some (.string ByteArray.empty) := (Gt.out.2 3 (by simp)).1
  have zt_3 : wt.frozen? ⟨w.heap.size + 1 + 1, 3, none⟩ = false := (Gt.out.2 3 (by simp)).2
  have ht_4 : wt.cell? ⟨w.heap.size + 1 + 1, 4, none⟩ = some (.bool false) := (Gt.out.2 4 (by simp)).1
  have zt_4 : wt.frozen? ⟨w.heap.size + 1 + 1, 4, none⟩ = false := (Gt.out.2 4 (by simp)).2
  go_wp2_with fail
  refine (toKs a0 c0 x.dflt _ (K0.out _ ?_) (by omega)).mono ?_
  · (refine Below.setCell ?_ (by first | omega | (simp; done) | (simp; omega)) _; refine Below.setCell ?_ (by first | omega | (simp; done) | (simp; omega)) _; refine Below.setCell ?_ (by first | omega | (simp; done) | (simp; omega)) _; refine Below.setCell ?_ (by first | omega | (simp; done) | (simp; omega)) _; exact Bt.out)
  rintro e w0 ⟨p0, q0, rfl, s0, b0⟩
  have B0 := Lib.hid (show Below w.heap.size w w0 from Below.call b0 (by (refine Below.setCell ?_ (by first | omega | (simp; done) | (simp; omega)) _; refine Below.setCell ?_ (by first | omega | (simp; done) | (simp; omega)) _; refine Below.setCell ?_ (by first | omega | (simp; done) | (simp; omega)) _; refine Below.setCell ?_ (by first | omega | (simp; done) | (simp; omega)) _; exact Bt.out)))
  have A0 := Lib.hid (show Blk w0 w.heap.size [.string x.name, .int .i64 x.ty.kind, .int .i64 x.ty.len, .string x.ty.name, .bool x.notNull, .slice a0 x.dflt.length c0] from Blk.call b0 (((((At.out).other (b' := w.heap.size + 1 + 1) (by omega) 1 (.int .i64 x.ty.kind)).other (b' := w.heap.size + 1 + 1) (by omega) 2 (.int .i64 x.ty.len)).other (b' := w.heap.size + 1 + 1) (by omega) 3 (.string x.ty.name)).other (b' := w.heap.size + 1 + 1) (by omega) 4 (.bool x.notNull)))
  have Y0 := Lib.hid (show Blk w0 (w.heap.size + 1) [.string ByteArray.empty, .int .i64 0, .int .i64 0, .string ByteArray.empty, .bool false, .slice none 0 0] from Blk.call b0 (((((Yt.out).other (b' := w.heap.size + 1 + 1) (by omega) 1 (.int .i64 x.ty.kind)).other (b' := w.heap.size + 1 + 1) (by omega) 2 (.int .i64 x.ty.len)).other (b' := w.heap.size + 1 + 1) (by omega) 3 (.string x.ty.name)).other (b' := w.heap.size + 1 + 1) (by omega) 4 (.bool x.notNull)))
  have G0 := Lib.hid (show Blk w0 (w.heap.size + 1 + 1) [.string x.name, .int .i64 x.ty.kind, .int .i64 x.ty.len, .string x.ty.name, .bool x.notNull, .slice none 0 0] from Blk.call b0 (((((Gt.out).set 1 (.int .i64 x.ty.kind)).set 2 (.int .i64 x.ty.len)).set 3 (.string x.ty.name)).set 4 (.bool x.notNull)))
  have S0 := Lib.hid (s0.lower (show w.heap.size + 3 ≤ _ by (have h3 := Gt.out.1; first | omega | (simp; done) | (simp; omega) | (simp [World.setCell]; done) | (simp [World.setCell]; omega))))
  clear s0 b0
  clear gt_4 gt_5 ht_1 zt_1 ht_2 zt_2 ht_3 zt_3 ht_4 zt_4
  have h0_0 : w0.cell? ⟨w.heap.size + 1 + 1, 0, none⟩ = some (.string x.name) := (G0.out.2 0 (by simp)).1
  have y0_0 : w0.cell? ⟨w.heap.size + 1, 0, none⟩ = some (.string ByteArray.empty) := (Y0.out.2 0 (by simp)).1
  have r0_0 : w0.frozen? ⟨w.heap.size + 1, 0, none⟩ = false := (Y0.out.2 0 (by simp)).2
  have h0_1 : w0.cell? ⟨w.heap.size + 1 + 1, 1, none⟩ = some (.int .i64 x.ty.kind) := (G0.out.2 1 (by simp)).1
  have y0_1 : w0.cell? ⟨w.heap.size + 1, 1, none⟩ = some (.int .i64 0) := (Y0.out.2 1 (by simp)).1
  have r0_1 : w0.frozen? ⟨w.heap.size + 1, 1, none⟩ = false := (Y0.out.2 1 (by simp)).2
  have h0_2 : w0.cell? ⟨w.heap.size + 1 + 1, 2, none⟩ = some (.int .i64 x.ty.len) := (G0.out.2 2 (by simp)).1
  have y0_2 : w0.cell? ⟨w.heap.size + 1, 2, none⟩ = some (.int .i64 0) := (Y0.out.2 2 (by simp)).1
  have r0_2 : w0.frozen? ⟨w.heap.size + 1, 2, none⟩ = false := (Y0.out.2 2 (by simp)).2
  have h0_3 : w0.cell? ⟨w.heap.size + 1 + 1, 3, none⟩ = some (.string x.ty.name) := (G0.out.2 3 (by simp)).1
  have y0_3 : w0.cell? ⟨w.heap.size + 1, 3, none⟩ = some (.string ByteArray.empty) := (Y0.out.2 3 (by simp)).1
  have r0_3 : w0.frozen? ⟨w.heap.size + 1, 3, none⟩ = false := (Y0.out.2 3 (by simp)).2
  have h0_4 : w0.cell? ⟨w.heap.size + 1 + 1, 4, none⟩ = some (.bool x.notNull) := (G0.out.2 4 (by simp)).1
  have y0_4 : w0.cell? ⟨w.heap.size + 1, 4, none⟩ = some (.bool false) := (Y0.out.2 4 (by simp)).1
  have r0_4 : w0.frozen? ⟨w.heap.size + 1, 4, none⟩ = false := (Y0.out.2 4 (by simp)).2
  have h0_5 : w0.cell? ⟨w.heap.size + 1 + 1, 5, none⟩ = some (.slice none 0 0) := (G0.out.2 5 (by simp)).1
  have z0_5 : w0.frozen? ⟨w.heap.size + 1 + 1, 5, none⟩ = false := (G0.out.2 5 (by simp)).2
  have y0_5 : w0.cell? ⟨w.heap.size + 1, 5, none⟩ = some (.slice none 0 0) := (Y0.out.2 5 (by simp)).1
  have r0_5 : w0.frozen? ⟨w.heap.size + 1, 5, none⟩ = false := (Y0.out.2 5 (by simp)).2
  go_wp2_with fail
  refine bodyPost_ret (v := .agg #[.string x.name, .int .i64 x.ty.kind, .int .i64 x.ty.len, .string x.ty.name, .bool x.notNull, .slice p0 x.dflt.length q0]) (by simp [results, Tryz.results8, go_sem, *]) rfl ⟨[.string x.name, .int .i64 x.ty.kind, .int .i64 x.ty.len, .string x.ty.name, .bool x.notNull, .slice p0 x.dflt.length q0], rfl, rfl, ⟨p0, q0, rfl, hfit, ?_⟩, ?_⟩
  · exact (S0.out.kept (by (refine Kept.set ?_ (by first | omega | (simp; done) | (simp; omega)) _; refine Kept.set ?_ (by first | omega | (simp; done) | (simp; omega)) _; refine Kept.set ?_ (by first | omega | (simp; done) | (simp; omega)) _; refine Kept.set ?_ (by first | omega | (simp; done) | (simp; omega)) _; refine Kept.set ?_ (by first | omega | (simp; done) | (simp; omega)) _; refine Kept.set ?_ (by first | omega | (simp; done) | (simp; omega)) _; refine Kept.set ?_ (by first | omega | (simp; done) | (simp; omega)) _; exact Kept.refl _ _))).lower (by omega)
  · (refine Below.setCell ?_ (by first | omega | (simp; done) | (simp; omega)) _; refine Below.setCell ?_ (by first | omega | (simp; done) | (simp; omega)) _; refine Below.setCell ?_ (by first | omega | (simp; done) | (simp; omega)) _; refine Below.setCell ?_ (by first | omega | (simp; done) | (simp; omega)) _; refine Below.setCell ?_ (by first | omega | (simp; done) | (simp; omega)) _; refine Below.setCell ?_ (by first | omega | (simp; done) | (simp; omega)) _; refine Below.setCell ?_ (by first | omega | (simp; done) | (simp; omega)) _; exact B0.out)

theorem Tryz.infoCol : (Tryz.prog.info? 32).map (fun i => (i.zero, i.size, i.bytes)) = some (some (.agg #[.string ByteArray.empty, .int .i64 0, .int .i64 0, .string ByteArray.empty, .bool false, .slice none 0 0]), 6, 80) := by kernel_rfl

set_option maxHeartbeats 2000000 in
theorem toCoS (a : Option Addr) (c : Nat) (xs : List Co) (w : World) (hx : Sl 6 RCo 0 w a c xs) (hn : xs.length + wtS Co.wt xs ≤ 1048576) :
    Calls Tryz.prog 52 #[.slice a xs.length c] w fun e w' => ∃ a' c', e = .returned (.slice a' xs.length c') ∧ Sl 6 RCo w.heap.size w' a' c' xs ∧ Below w.heap.size w w' := by
  obtain ⟨i0, hi0, hz0, hz1, hz2⟩ := info_parts Tryz.infoCol
  have hb16 : i0.bytes * xs.length ≤ 281474976710656 := by rw [hz2]; omega
  have hl := hx.len
  have HX := Lib.hid (fun w' (hb : Below w.heap.size w w') => hx.kept goodCo (Kept.below hb))
  clear hx
  go_enter Tryz.func52, Tryz.ntmps52
  go_wp2_with (at_make; refine wpList_make_full _ rfl _ _ 52 rfl w.heap.size 32 i0 (.agg #[.string ByteArray.empty, .int .i64 0, .int .i64 0, .string ByteArray.empty, .bool false, .slice none 0 0]) 6 Tryz.underlying52 hi0 hz0 hz1 .i64 .i64 _ _ xs.length rfl rfl rfl rfl hb16 (by unfold maxLen; omega) (Nat.le_refl _) ?_; intro w1 hown hg)
  have HD0 : DoneR 32 6 RCo [.string ByteArray.empty, .int .i64 0, .int .i64 0, .string ByteArray.empty, .bool false, .slice none 0 0] w xs 0 w1 := DoneR.new (z := [.string ByteArray.empty, .int .i64 0, .int .i64 0, .string ByteArray.empty, .bool false, .slice none 0 0]) (by simp) hown hg
  clear hown hg
  go_loopw [4] (fun i wr => ∃ k : Nat, i = .int .i64 k ∧ DoneR 32 6 RCo [.string ByteArray.empty, .int .i64 0, .int .i64 0, .string ByteArray.empty, .bool false, .slice none 0 0] w xs k wr) (fun i _ => xs.length - (intOf i).toNat)
  case atStart => exact ⟨0, rfl, HD0⟩
  case round =>
    obtain ⟨k, rfl, hd⟩ := hrel
    by_cases hlt : k < xs.length
    · obtain ⟨b, off, vs, rfl, hbl, hcs, hR⟩ := (HX.out _ hd.2.2.2).spot hlt
      have HR := hR
      obtain ⟨a0, c0, rfl, _⟩ := hR
      have hc0 : wr.cell? ⟨b, off + k * 6, none⟩ = some (.string xs[k].name) := hcs 0 (by simp)
      have hc1 : wr.cell? ⟨b, off + k * 6 + 1, none⟩ = some (.int .i64 xs[k].ty.kind) := hcs 1 (by simp)
      have hc2 : wr.cell? ⟨b, off + k * 6 + 2, none⟩ = some (.int .i64 xs[k].ty.len) := hcs 2 (by simp)
      have hc3 : wr.cell? ⟨b, off + k * 6 + 3, none⟩ = some (.string xs[k].ty.name) := hcs 3 (by simp)
      have hc4 : wr.cell? ⟨b, off + k * 6 + 4, none⟩ = some (.bool xs[k].notNull) := hcs 4 (by simp)
      have hc5 : wr.cell? ⟨b, off + k * 6 + 5, none⟩ = some (.slice a0 xs[k].dflt.length c0) := hcs 5 (by simp)
      have HK := Lib.hid HR
      have HD := Lib.hid hd
      have HWt := wtS_get Co.wt hlt
      clear HR hd hcs HD0
      go_wp2_with fail
      refine (toCo _ xs[k] _ HK.out (by omega)).mono ?_
      rintro e w2 ⟨vs2, hvl, rfl, hk2, hb2⟩
      have HR2 := hk2
      obtain ⟨p0, q0, rfl, _⟩ := hk2
      have DC := HD.out.cells rfl hlt hb2
      have hd0 : w2.cell? ⟨w.heap.size, k * 6, none⟩ = some (.string ByteArray.empty) := DC.1 0 (by simp)
      have hf0 : w2.frozen? ⟨w.heap.size, k * 6, none⟩ = false := DC.2 _
      have hd1 : w2.cell? ⟨w.heap.size, k * 6 + 1, none⟩ = some (.int .i64 0) := DC.1 1 (by simp)
      have hf1 : w2.frozen? ⟨w.heap.size, k * 6 + 1, none⟩ = false := DC.2 _
      have hd2 : w2.cell? ⟨w.heap.size, k * 6 + 2, none⟩ = some (.int .i64 0) := DC.1 2 (by simp)
      have hf2 : w2.frozen? ⟨w.heap.size, k * 6 + 2, none⟩ = false := DC.2 _
      have hd3 : w2.cell? ⟨w.heap.size, k * 6 + 3, none⟩ = some (.string ByteArray.empty) := DC.1 3 (by simp)
      have hf3 : w2.frozen? ⟨w.heap.size, k * 6 + 3, none⟩ = false := DC.2 _
      have hd4 : w2.cell? ⟨w.heap.size, k * 6 + 4, none⟩ = some (.bool false) := DC.1 4 (by simp)
      have hf4 : w2.frozen? ⟨w.heap.size, k * 6 + 4, none⟩ = false := DC.2 _
      have hd5 : w2.cell? ⟨w.heap.size, k * 6 + 5, none⟩ = some (.slice none 0 0) := DC.1 5 (by simp)
      have hf5 : w2.frozen? ⟨w.heap.size, k * 6 + 5, none⟩ = false := DC.2 _
      have HS := Lib.hid (HD.out.step goodCo rfl hlt hvl HR2 hb2 rfl)
      clear DC HR2 hb2 HD HK hc0 hc1 hc2 hc3 hc4 hc5 hbl hvl
      go_wp2_with fail
      go_roundw
      case rel => exact ⟨k + 1, by go_num, HS.out⟩
      case measure => simp [intOf]; omega
    · have hle := hd.1
      obtain rfl : k = xs.length := by omega
      have HE := Lib.hid (hd.end goodCo (by unfold maxLen; omega))
      have hbl := hd.2.2.2
      clear hd
      go_wp2_with fail
      go_ret
      exact ⟨_, _, rfl, HE.out, hbl⟩

end Go.Proofs.YtpdcmmhhgnackaaGreatDoor

namespace Go.Proofs.YtpdcmmhhgnackaaGreatDoor
open Go.RowKit

set_option maxHeartbeats 2000000 in
theorem eqCo (vs us : List Value) (x : Co) (w : World) (hR : RCo 0 w vs x) (hU : RCo 0 w us x) :
    Calls Tryz.prog 10 #[.agg vs.toArray, .agg us.toArray] w fun e w' => e = .returned (.bool true) ∧ Below w.heap.size w w' := by
  obtain ⟨a0, c0, rfl, hfit, k0⟩ := hR
  obtain ⟨p0, q0, rfl, _, m0⟩ := hU
  have N0 := k0.len
  have K0 := Lib.hid (fun w' (hb : Below w.heap.size w w') => k0.kept (Kept.below hb))
  have M0 := Lib.hid (fun w' (hb : Below w.heap.size w w') => m0.kept (Kept.below hb))
  clear k0 m0
  have e_name : (!(x.name.toList == x.name.toList)) = false := by simp
  have e_notNull : (x.notNull != x.notNull) = false := by simp
  go_enter Tryz.func10, Tryz.ntmps10
  go_wp2_with fail
  refine (eqTy0 x.ty.kind x.ty.len x.ty.name _).mono ?_
  rintro e wt ⟨rfl, bt⟩
  have Bt := Lib.hid (show Below w.heap.size w wt from Below.call bt (by ((repeat (first | refine Below.alloc ?_ (by first | omega | (simp; done) | (simp; omega)) _ | refine Below.setCell ?_ (by first | omega | (simp; done) | (simp; omega)) _)); first | exact Below.refl _ _ | exact Below.refl _ _)))
  have At := Lib.hid (show Blk wt w.heap.size [.string x.name, .int .i64 x.ty.kind, .int .i64 x.ty.len, .string x.ty.name, .bool x.notNull, .slice a0 x.dflt.length c0] from Blk.call bt ((blk_new w _ [.string x.name, .int .i64 x.ty.kind, .int .i64 x.ty.len, .string x.ty.name, .bool x.notNull, .slice a0 x.dflt.length c0]).alloc _))
  have Yt := Lib.hid (show Blk wt (w.heap.size + 1) [.string x.name, .int .i64 x.ty.kind, .int .i64 x.ty.len, .string x.ty.name, .bool x.notNull, .slice p0 x.dflt.length q0] from Blk.call bt (blk_new' (w := w.alloc _) (b := w.heap.size + 1) (by simp) _ [.string x.name, .int .i64 x.ty.kind, .int .i64 x.ty.len, .string x.ty.name, .bool x.notNull, .slice p0 x.dflt.length q0]))
  clear bt
  have gt_0 : wt.cell? ⟨w.heap.size, 0, none⟩ = some (.string x.name) := (At.out.2 0 (by simp)).1
  have yt_0 : wt.cell? ⟨w.heap.size + 1, 0, none⟩ = some (.string x.name) := (Yt.out.2 0 (by simp)).1
  have gt_1 : wt.cell? ⟨w.heap.size, 1, none⟩ = some (.int .i64 x.ty.kind) := (At.out.2 1 (by simp)).1
  have yt_1 : wt.cell? ⟨w.heap.size + 1, 1, none⟩ = some (.int .i64 x.ty.kind) := (Yt.out.2 1 (by simp)).1
  have gt_2 : wt.cell? ⟨w.heap.size, 2, none⟩ = some (.int .i64 x.ty.len) := (At.out.2 2 (by simp)).1
  have yt_2 : wt.cell? ⟨w.heap.size + 1, 2, none⟩ = some (.int .i64 x.ty.len) := (Yt.out.2 2 (by simp)).1
  have gt_3 : wt.cell? ⟨w.heap.size, 3, none⟩ = some (.string x.ty.name) := (At.out.2 3 (by simp)).1
  have yt_3 : wt.cell? ⟨w.heap.size + 1, 3, none⟩ = some (.string x.ty.name) := (Yt.out.2 3 (by simp)).1
  have gt_4 : wt.cell? ⟨w.heap.size, 4, none⟩ = some (.bool x.notNull) := (At.out.2 4 (by simp)).1
  have yt_4 : wt.cell? ⟨w.heap.size + 1, 4, none⟩ = some (.bool x.notNull) := (Yt.out.2 4 (by simp)).1
  have gt_5 : wt.cell? ⟨w.heap.size, 5, none⟩ = some (.slice a0 x.dflt.length c0) := (At.out.2 5 (by simp)).1
  have yt_5 : wt.cell? ⟨w.heap.size + 1, 5, none⟩ = some (.slice p0 x.dflt.length q0) := (Yt.out.2 5 (by simp)).1
  go_wp2_with fail
  refine (eqKs a0 p0 c0 q0 x.dflt _ (K0.out _ Bt.out) (M0.out _ Bt.out)).mono ?_
  rintro e w0 ⟨rfl, b0⟩
  have B0 := Lib.hid (Below.call b0 Bt.out)
  have A0 := Lib.hid (show Blk w0 w.heap.size [.string x.name, .int .i64 x.ty.kind, .int .i64 x.ty.len, .string x.ty.name, .bool x.notNull, .slice a0 x.dflt.length c0] from Blk.call b0 (At.out))
  have Y0 := Lib.hid (show Blk w0 (w.heap.size + 1) [.string x.name, .int .i64 x.ty.kind, .int .i64 x.ty.len, .string x.ty.name, .bool x.notNull, .slice p0 x.dflt.length q0] from Blk.call b0 (Yt.out))
  clear b0
  clear gt_0 gt_1 gt_2 gt_3 gt_4 gt_5 yt_0 yt_1 yt_2 yt_3 yt_4 yt_5
  have g0_0 : w0.cell? ⟨w.heap.size, 0, none⟩ = some (.string x.name) := (A0.out.2 0 (by simp)).1
  have y0_0 : w0.cell? ⟨w.heap.size + 1, 0, none⟩ = some (.string x.name) := (Y0.out.2 0 (by simp)).1
  have g0_1 : w0.cell? ⟨w.heap.size, 1, none⟩ = some (.int .i64 x.ty.kind) := (A0.out.2 1 (by simp)).1
  have y0_1 : w0.cell? ⟨w.heap.size + 1, 1, none⟩ = some (.int .i64 x.ty.kind) := (Y0.out.2 1 (by simp)).1
  have g0_2 : w0.cell? ⟨w.heap.size, 2, none⟩ = some (.int .i64 x.ty.len) := (A0.out.2 2 (by simp)).1
  have y0_2 : w0.cell? ⟨w.heap.size + 1, 2, none⟩ = some (.int .i64 x.ty.len) := (Y0.out.2 2 (by simp)).1
  have g0_3 : w0.cell? ⟨w.heap.size, 3, none⟩ = some (.string x.ty.name) := (A0.out.2 3 (by simp)).1
  have y0_3 : w0.cell? ⟨w.heap.size + 1, 3, none⟩ = some (.string x.ty.name) := (Y0.out.2 3 (by simp)).1
  have g0_4 : w0.cell? ⟨w.heap.size, 4, none⟩ = some (.bool x.notNull) := (A0.out.2 4 (by simp)).1
  have y0_4 : w0.cell? ⟨w.heap.size + 1, 4, none⟩ = some (.bool x.notNull) := (Y0.out.2 4 (by simp)).1
  have g0_5 : w0.cell? ⟨w.heap.size, 5, none⟩ = some (.slice a0 x.dflt.length c0) := (A0.out.2 5 (by simp)).1
  have y0_5 : w0.cell? ⟨w.heap.size + 1, 5, none⟩ = some (.slice p0 x.dflt.length q0) := (Y0.out.2 5 (by simp)).1
  go_wp2_with fail
  go_ret
  exact ⟨rfl, B0.out⟩

set_option maxHeartbeats 2000000 in
theorem eqCoS (a a' : Option Addr) (c c' : Nat) (xs : List Co) (w : World) (hx : Sl 6 RCo 0 w a c xs) (hy : Sl 6 RCo 0 w a' c' xs) :
    Calls Tryz.prog 56 #[.slice a xs.length c, .slice a' xs.length c'] w fun e w' => e = .returned (.bool true) ∧ Below w.heap.size w w' := by
  have hl := hx.len
  have hne : (((xs.length : Int)) != (xs.length : Int)) = false := by simp
  have HX := Lib.hid (fun w' (hb : Below w.heap.size w w') => hx.kept goodCo (Kept.below hb))
  have HY := Lib.hid (fun w' (hb : Below w.heap.size w w') => hy.kept goodCo (Kept.below hb))
  clear hx hy
  go_enter Tryz.func56, Tryz.ntmps56
  go_wp2
  go_loopw [5] (fun i wr => ∃ k : Nat, k ≤ xs.length ∧ i = .int .i64 k ∧ Below w.heap.size w wr) (fun i _ => xs.length - (intOf i).toNat)
  case atStart => exact ⟨0, Nat.zero_le _, rfl, Below.refl _ _⟩
  case round =>
    obtain ⟨k, hk, rfl, hbw⟩ := hrel
    by_cases hlt : k < xs.length
    · obtain ⟨b, off, vs, rfl, hbl, hcs, hR⟩ := (HX.out _ hbw).spot hlt
      obtain ⟨b', off', us, rfl, hbl', hds, hU⟩ := (HY.out _ hbw).spot hlt
      have HR := hR
      have HU := hU
      obtain ⟨a0, c0, rfl, _⟩ := hR
      obtain ⟨p0, q0, rfl, _⟩ := hU
      have hc0 : wr.cell? ⟨b, off + k * 6, none⟩ = some (.string xs[k].name) := hcs 0 (by simp)
      have hc1 : wr.cell? ⟨b, off + k * 6 + 1, none⟩ = some (.int .i64 xs[k].ty.kind) := hcs 1 (by simp)
      have hc2 : wr.cell? ⟨b, off + k * 6 + 2, none⟩ = some (.int .i64 xs[k].ty.len) := hcs 2 (by simp)
      have hc3 : wr.cell? ⟨b, off + k * 6 + 3, none⟩ = some (.string xs[k].ty.name) := hcs 3 (by simp)
      have hc4 : wr.cell? ⟨b, off + k * 6 + 4, none⟩ = some (.bool xs[k].notNull) := hcs 4 (by simp)
      have hc5 : wr.cell? ⟨b, off + k * 6 + 5, none⟩ = some (.slice a0 xs[k].dflt.length c0) := hcs 5 (by simp)
      have hd0 : wr.cell? ⟨b', off' + k * 6, none⟩ = some (.string xs[k].name) := hds 0 (by simp)
      have hd1 : wr.cell? ⟨b', off' + k * 6 + 1, none⟩ = some (.int .i64 xs[k].ty.kind) := hds 1 (by simp)
      have hd2 : wr.cell? ⟨b', off' + k * 6 + 2, none⟩ = some (.int .i64 xs[k].ty.len) := hds 2 (by simp)
      have hd3 : wr.cell? ⟨b', off' + k * 6 + 3, none⟩ = some (.string xs[k].ty.name) := hds 3 (by simp)
      have hd4 : wr.cell? ⟨b', off' + k * 6 + 4, none⟩ = some (.bool xs[k].notNull) := hds 4 (by simp)
      have hd5 : wr.cell? ⟨b', off' + k * 6 + 5, none⟩ = some (.slice p0 xs[k].dflt.length q0) := hds 5 (by simp)
      have h0k : (0 : Int) ≤ (k : Int) := by omega
      have hkl : (k : Int) < (xs.length : Int) := by omega
      have HA := Lib.hid (fun w' (hb : Below wr.heap.size wr w') => goodCo.kept HR (Kept.below hb))
      have HB := Lib.hid (fun w' (hb : Below wr.heap.size wr w') => goodCo.kept HU (Kept.below hb))
      clear HR HU hcs hds
      go_wp2_with fail
      go_region_held3 (fun w' => w'.cell? ⟨b, off + k * 6, none⟩ = some (.string xs[k].name) ∧ w'.cell? ⟨b, off + k * 6 + 1, none⟩ = some (.int .i64 xs[k].ty.kind) ∧ w'.cell? ⟨b, off + k * 6 + 2, none⟩ = some (.int .i64 xs[k].ty.len) ∧ w'.cell? ⟨b, off + k * 6 + 3, none⟩ = some (.string xs[k].ty.name) ∧ w'.cell? ⟨b, off + k * 6 + 4, none⟩ = some (.bool xs[k].notNull) ∧ w'.cell? ⟨b, off + k * 6 + 5, none⟩ = some (.slice a0 xs[k].dflt.length c0) ∧ w'.cell? ⟨b', off' + k * 6, none⟩ = some (.string xs[k].name) ∧ w'.cell? ⟨b', off' + k * 6 + 1, none⟩ = some (.int .i64 xs[k].ty.kind) ∧ w'.cell? ⟨b', off' + k * 6 + 2, none⟩ = some (.int .i64 xs[k].ty.len) ∧ w'.cell? ⟨b', off' + k * 6 + 3, none⟩ = some (.string xs[k].ty.name) ∧ w'.cell? ⟨b', off' + k * 6 + 4, none⟩ = some (.bool xs[k].notNull) ∧ w'.cell? ⟨b', off' + k * 6 + 5, none⟩ = some (.slice p0 xs[k].dflt.length q0)) (first | go_keep | exact ⟨(hcw _ _ hbl).trans hc0, (hcw _ _ hbl).trans hc1, (hcw _ _ hbl).trans hc2, (hcw _ _ hbl).trans hc3, (hcw _ _ hbl).trans hc4, (hcw _ _ hbl).trans hc5, (hcw _ _ hbl').trans hd0, (hcw _ _ hbl').trans hd1, (hcw _ _ hbl').trans hd2, (hcw _ _ hbl').trans hd3, (hcw _ _ hbl').trans hd4, (hcw _ _ hbl').trans hd5⟩)
        ((go_at_call 10; refine (eqCo _ _ xs[k] _ (HA.out _ (below_drewE (Below.refl _ _))) (HB.out _ (below_drewE (Below.refl _ _)))).mono ?_; rintro e w2 ⟨rfl, hb2⟩; obtain ⟨hcw, _⟩ := bcellE hb2))
      go_wp2_with fail
      go_roundw
      case rel => exact ⟨k + 1, by omega, by go_num, (below_drewE hbw).trans (hb2.mono hbw.size)⟩
      case measure => simp [intOf]; omega
    · go_wp2
      go_ret
      exact ⟨rfl, hbw⟩

end Go.Proofs.YtpdcmmhhgnackaaGreatDoor

namespace Go.Proofs.YtpdcmmhhgnackaaGreatDoor
open Go.RowKit

def Two2 {X : Type} (R : Rd X) (w : World) (b : Nat) (vs vs4 : List Value) (x : X) (w' : World) : Prop :=
  Blk w' w.heap.size vs ∧ Blk w' b vs4 ∧ R 0 w' vs4 x ∧ Below w.heap.size w w'

theorem Two2.below {X : Type} {R : Rd X} (G : Good R) {w wa wb : World} {b : Nat} {vs vs4 : List Value} {x : X} (h : Two2 R w b vs vs4 x wa) (hb : Below wa.heap.size wa wb) : Two2 R w b vs vs4 x wb :=
  ⟨h.1.below hb, h.2.1.below hb, G.kept h.2.2.1 (Kept.below hb), Below.call hb h.2.2.2⟩

theorem Two2.drew {X : Type} {R : Rd X} (G : Good R) {w wa : World} {b : Nat} {vs vs4 : List Value} {x : X} (h : Two2 R w b vs vs4 x wa) : Two2 R w b vs vs4 x wa.drew := h.below G (below_drewE (Below.refl _ _))

theorem Two2.new {X : Type} {R : Rd X} (G : Good R) {w w4 : World} {vs vs4 : List Value} {x : X} (hX : Blk w4 w.heap.size vs) (hK : R 0 w4 vs4 x) (hB : Below w.heap.size w w4) (T : TypeId) :
    Two2 R w w4.heap.size vs vs4 x (w4.alloc (.cells vs4.toArray T)) :=
  ⟨hX.alloc _, blk_new w4 T vs4, G.kept hK (Kept.below ((Below.refl _ _).alloc (Nat.le_refl _) _)), Below.call ((Below.refl _ _).alloc (Nat.le_refl _) _) hB⟩

end Go.Proofs.YtpdcmmhhgnackaaGreatDoor
