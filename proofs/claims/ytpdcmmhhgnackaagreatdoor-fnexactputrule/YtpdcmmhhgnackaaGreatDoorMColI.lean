/- The program's own look at columns, and how it writes one. -/
/- impl.listFits over names. Written by tools/gen_every.py. -/
import Derived.Test.YtpdcmmhhgnackaaGreatDoorMOkI
import Derived.Test.YtpdcmmhhgnackaaGreatDoorMOkW
import Derived.Test.YtpdcmmhhgnackaaGreatDoorMTypeTextI
import Derived.Test.YtpdcmmhhgnackaaGreatDoorMNameImpl
namespace Go.Proofs.YtpdcmmhhgnackaaGreatDoor
open Go.RowKit

theorem Ks.sl {lo : Nat} {w : World} {a : Option Addr} {c : Nat} {kids : List Ex} (h : Ks lo w a c kids) : ∃ d, Sl 4 (RE d) lo w a c kids := by
  obtain ⟨d, h⟩ := h
  exact ⟨d, h.sl⟩

theorem i64_wf {n : Int} (h : i64E n) : (Lit.int .i64 n).wf = true := by
  have hmin : IntKind.i64.min = -9223372036854775808 := by decide
  have hmax : IntKind.i64.max = 9223372036854775807 := by decide
  simp [Lit.wf, hmin, hmax]
  exact h

set_option maxRecDepth 100000 in
set_option maxHeartbeats 2000000 in
theorem implColFits (vs : List Value) (x : Co) (w : World) (hJ : FormsAt w) (hR : RCo 0 w vs x) (hwt : x.wt ≤ 1048576) (v : Bool) (hv : colB x = v) :
    Calls Tryz.prog 29 #[.agg vs.toArray] w fun e w' => e = .returned (.bool v) ∧ Below w.heap.size w w' := by
  obtain ⟨a0, c0, rfl, hfit, k0⟩ := hR
  have HK := Lib.hid (fun w' (hb : Below w.heap.size w w') => And.intro (k0.kept (Kept.below hb)) (hJ.call hb))
  have HB := Lib.hid (fun T => boxCo_new w x a0 c0 T)
  have hW : x.wt = x.name.size + x.ty.name.size + (x.dflt.length + wtL x.dflt) := rfl
  have HD := Lib.hid (fun (e : Ex) (hm : e ∈ x.dflt) => (show e.wt ≤ 1048576 by have := wtL_mem hm; omega))
  have HF := Lib.hid (i64_wf hfit.2.2.1)
  unfold colB at hv
  clear k0 hW hJ
  cases h1 : nmB x.name with
  | false =>
    have H1 : Hid (nameB x.name.data.toList = false) := h1
    have HV : Hid (v = false) := by unfold Hid; rw [← hv, h1]; rfl
    clear hv h1
    go_enter Tryz.func29, Tryz.ntmps29
    go_wp2_with fail
    refine (implNameOk x.name _ _ H1.out).mono ?_
    rintro e w1 ⟨rfl, rfl⟩
    go_wp2_with fail
    go_ret
    exact ⟨by rw [HV.out] <;> rfl, (HB.out _).2⟩
  | true =>
    have H1 : Hid (nameB x.name.data.toList = true) := h1
    cases h2 : tyB x.ty with
    | false =>
      have H2 := Lib.hid h2
      have HV : Hid (v = false) := by unfold Hid; rw [← hv, h2]; simp
      clear hv h1 h2
      go_enter Tryz.func29, Tryz.ntmps29
      go_wp2_with fail
      refine (implNameOk x.name _ _ H1.out).mono ?_
      rintro e w1 ⟨rfl, rfl⟩
      go_wp2_with fail
      refine (implTypeOk x.ty.kind x.ty.len x.ty.name _ HF.out _ H2.out).mono ?_
      rintro e w2 ⟨rfl, b2⟩
      have B2 := Lib.hid ((HB.out 32).call b2)
      clear b2
      go_wp2_with fail
      go_ret
      exact ⟨by rw [HV.out] <;> rfl, B2.out.2⟩
    | true =>
      have H2 := Lib.hid h2
      have HV : Hid ((inI x.dflt.length 0 1 && x.dflt.all okX) = v) := by unfold Hid; rw [← hv, h1, h2]; rfl
      clear hv h1 h2
      go_enter Tryz.func29, Tryz.ntmps29
      go_wp2_with fail
      refine (implNameOk x.name _ _ H1.out).mono ?_
      rintro e w1 ⟨rfl, rfl⟩
      go_wp2_with fail
      refine (implTypeOk x.ty.kind x.ty.len x.ty.name _ HF.out _ H2.out).mono ?_
      rintro e w2 ⟨rfl, b2⟩
      have B2 := Lib.hid ((HB.out 32).call b2)
      clear b2
      have g5 : w2.cell? ⟨w.heap.size, 5, none⟩ = some (.slice a0 x.dflt.length c0) := (B2.out.1.2 5 (by simp)).1
      go_wp2_with fail
      obtain ⟨d, hsl⟩ := (HK.out _ B2.out.2).1.sl
      refine (fitsX d a0 c0 x.dflt 0 1 _ hsl (HK.out _ B2.out.2).2 HD.out v HV.out).mono ?_
      rintro e w3 ⟨rfl, b3⟩
      have B3 := Lib.hid (B2.out.call b3)
      clear b3
      go_wp2_with fail
      go_ret
      exact ⟨rfl, B3.out.2⟩

theorem Strs.addr {w : World} {a : Option Addr} {c : Nat} {xs : List ByteArray} (h : Strs w a c xs) (hp : 0 < xs.length) : a = none ∨ ∃ b off, a = some ⟨b, off, none⟩ := by
  obtain ⟨b, off, ha, _⟩ := h.2.2.2.2 hp
  exact .inr ⟨b, off, ha⟩

/-- A phrase's own row. -/
theorem rowLit1 (w : World) (xs : List ByteArray) (hs : ∀ s ∈ xs, s.size ≤ maxLen) (hn : xs.length ≤ 1000000) : Strs (w.alloc (.cells (xs.map Value.string).toArray 9)) (some ⟨w.heap.size, 0, none⟩) xs.length xs := by
  refine ⟨Nat.le_refl _, by unfold maxLen; omega, hs, (fun h => by cases h), fun _ => ⟨w.heap.size, 0, rfl, by simp, fun i hi => ?_⟩⟩
  rw [cell_of_row _ _ _ _ _ _ (heap_alloc_new w _)]
  simp [hi]

/-- A phrase with a word and the first expression behind it, if there is one. -/
def dfL (ps : List ByteArray) (wd : ByteArray) : List Ex → List ByteArray
  | [] => ps
  | e :: _ => ps ++ [wd, putT e]

set_option maxRecDepth 100000 in
set_option maxHeartbeats 2000000 in
theorem phraseMaybe (a : Option Addr) (c : Nat) (xs : List ByteArray) (wd : ByteArray) (ka : Option Addr) (kc : Nat) (kids : List Ex) (w : World) (hx : Strs w a c xs) (hp : 0 < xs.length) (hn : xs.length ≤ 1000) (hT : Tabs w) (hk : Ks 0 w ka kc kids) (hwt : ∀ e ∈ kids, e.wt ≤ 1048576) (hwd : wd.size ≤ maxLen)
    (hz : ∀ e ∈ kids, (putT e).size ≤ 8400) (ys : List ByteArray) (hys : ys = dfL xs wd kids) :
    Calls Tryz.prog 33 #[.slice a xs.length c, .string wd, .slice ka kids.length kc] w fun e w' => ∃ a' c', e = .returned (.slice a' ys.length c') ∧ Strs w' a' c' ys ∧ Below w.heap.size w w' := by
  have hl := hk.len
  cases kids with
  | nil =>
    simp only [dfL] at hys
    subst hys
    simp only [List.length_nil]
    go_enter Tryz.func33, Tryz.ntmps33
    go_wp2_with fail
    go_ret
    exact ⟨_, _, rfl, hx, Below.refl _ _⟩
  | cons e1 r =>
    simp only [dfL] at hys
    obtain ⟨d, hs⟩ := hk.sl
    obtain ⟨b, off, vs1, rfl, hbl, hcs, hR1⟩ := hs.spot (i := 0) (by simp)
    obtain ⟨a1, c1, rfl, hfit1, hkid⟩ := hR1
    simp only [List.getElem_cons_zero] at hcs hkid hfit1
    have hc0 : w.cell? ⟨b, off, none⟩ = some (.int .i64 e1.kind) := by have := hcs 0 (by simp); simpa using this
    have hc1 : w.cell? ⟨b, off + 1, none⟩ = some (.string e1.text) := by have := hcs 1 (by simp); simpa using this
    have hc2 : w.cell? ⟨b, off + 2, none⟩ = some (.int .i64 e1.num) := by have := hcs 2 (by simp); simpa using this
    have hc3 : w.cell? ⟨b, off + 3, none⟩ = some (.slice a1 e1.kids.length c1) := by have := hcs 3 (by simp); simpa using this
    have hew : e1.wt ≤ 1048576 := hwt e1 (by simp)
    have hez : (putT e1).size ≤ 8400 := hz e1 (by simp)
    obtain ⟨s, hsE⟩ : ∃ s, putT e1 = s := ⟨_, rfl⟩
    rw [hsE] at hys hez
    have HC := Lib.hid (implPutExpr e1 a1 c1 d w hT hfit1 hkid.at (by have := nodes_wt e1; omega) s hsE)
    have HX := Lib.hid (fun w' (hb : Below w.heap.size w w') => hx.below hb)
    have HA := Lib.hid (hx.addr hp)
    have hne : ((((r.length + 1 : Nat) : Int)) == 0) = false := by simp; omega
    have hlp : (0 : Int) < ((r.length + 1 : Nat) : Int) := by omega
    have HY := Lib.hid hys
    clear hx hs hcs hkid hk hsE hys hT
    simp only [List.length_cons] at hl hp ⊢
    go_enter Tryz.func33, Tryz.ntmps33
    go_wp2_with fail
    refine HC.out.mono ?_
    rintro e w1 ⟨rfl, b1⟩
    have B1 := Lib.hid b1
    have hsz1 := b1.size
    clear b1 hc0 hc1 hc2 hc3
    go_wp2_with fail
    have hrow := rowLit1 w1 [wd, s] (by intro t ht; simp only [List.mem_cons, List.not_mem_nil, or_false] at ht; rcases ht with rfl | rfl; exact hwd; unfold maxLen; omega) (by simp)
    refine (phraseAnd a c xs _ 2 [wd, s] _ ((HX.out _ B1.out).below ((Below.refl _ _).alloc (Nat.le_refl _) _)) hrow HA.out (by simp only [List.length_cons, List.length_nil]; omega)).mono ?_
    rintro e w2 ⟨a2, c2, rfl, hs2, b2⟩
    have B2 := Lib.hid (show Below w.heap.size w w2 from Below.call b2 (B1.out.alloc hsz1 _))
    have HS2 := Lib.hid hs2
    clear b2 hs2
    go_wp2_with fail
    go_ret
    refine ⟨a2, c2, ?_, ?_, B2.out⟩
    · rw [HY.out, List.length_append]; rfl
    · rw [HY.out]; exact HS2.out

def wNN1 : ByteArray := ⟨#[110, 111, 116, 32, 110, 117, 108, 108]⟩
def wDf1 : ByteArray := ⟨#[100, 101, 102, 97, 117, 108, 116]⟩

theorem ba_app (a b c d : ByteArray) (h : b ++ c = d) : a ++ b ++ c = a ++ d := by rw [ba_assoc, h]

theorem join2 (a b : ByteArray) : joinT [a, b] (txt [32]) = a ++ txt [32] ++ b := by rw [joinT_cons, joinT_one]

theorem join_more (xs ys : List ByteArray) (s : ByteArray) (hx : xs ≠ []) (hy : ys ≠ []) : joinT (xs ++ ys) s = joinT xs s ++ s ++ joinT ys s := by
  induction xs with
  | nil => exact absurd rfl hx
  | cons x r ih =>
    cases r with
    | nil =>
      cases ys with
      | nil => exact absurd rfl hy
      | cons y t => rw [List.cons_append, List.nil_append, joinT_cons, joinT_one]
    | cons z t =>
      rw [List.cons_append, List.cons_append, joinT_cons, ← List.cons_append, ih (by simp), joinT_cons]
      simp only [ba_assoc]

theorem sp_nn : txt [32] ++ wNN1 = txt wNN := ba_ext (by rw [ba_list]; rfl)

theorem df_text (s : ByteArray) (e : Ex) : s ++ txt [32] ++ joinT [wDf1, putT e] (txt [32]) = s ++ txt wDf ++ putT e := by
  rw [join2]
  apply ba_ext
  simp only [ba_list, List.append_assoc]
  rfl

set_option maxRecDepth 100000 in
set_option maxHeartbeats 4000000 in
theorem implPutCol (vs : List Value) (x : Co) (w : World) (hT : Tabs w) (hR : RCo 0 w vs x) (hwt : x.wt ≤ 1048576) (r : ByteArray) (hr : colT x = r) :
    Calls Tryz.prog 9 #[.agg vs.toArray] w fun e w' => e = .returned (.string r) ∧ Below w.heap.size w w' := by
  have HC := Lib.hid (fun w' (hb : Below w.heap.size w w') => implColFits vs x w' (hT.call hb).forms (goodCo.kept hR (Kept.below hb)) hwt _ rfl)
  have HT := Lib.hid (fun w' (hb : Below w.heap.size w w') => hT.call hb)
  obtain ⟨a0, c0, rfl, hfit, k0⟩ := hR
  have HK := Lib.hid (fun w' (hb : Below w.heap.size w w') => k0.kept (Kept.below hb))
  have HB := Lib.hid (fun T => boxCo_new w x a0 c0 T)
  have hW : x.wt = x.name.size + x.ty.name.size + (x.dflt.length + wtL x.dflt) := rfl
  have HN := Lib.hid (show x.name.size ≤ 1048576 by omega)
  have HTn := Lib.hid (show x.ty.name.size ≤ 1048576 by omega)
  have HD := Lib.hid (fun (e : Ex) (hm : e ∈ x.dflt) => (show e.wt ≤ 1048576 by have := wtL_mem hm; omega))
  have HF := Lib.hid (i64_wf hfit.2.2.1)
  unfold colT at hr
  clear k0 hW hT
  cases hc : colB x with
  | false =>
    have HCC := Lib.hid hc
    have HV : Hid (r = ⟨#[]⟩) := by unfold Hid; rw [← hr, hc]; rfl
    clear hr hc
    go_enter Tryz.func9, Tryz.ntmps9
    go_wp2_with fail
    refine (HC.out _ (HB.out _).2).mono ?_
    rintro e w1 ⟨rfl, b1⟩
    have B1 := Lib.hid ((HB.out 32).call b1)
    clear b1
    rw [HCC.out]
    go_wp2_with fail
    go_ret
    exact ⟨by rw [HV.out] <;> rfl, B1.out.2⟩
  | true =>
    have HCC := Lib.hid hc
    obtain ⟨q1, q2, q3, q4⟩ := colB_parts hc
    rw [if_pos hc] at hr
    obtain ⟨s1, hs1⟩ : ∃ s, nameT x.name = s := ⟨_, rfl⟩
    obtain ⟨s2, hs2⟩ : ∃ s, tyT x.ty = s := ⟨_, rfl⟩
    have z1 : s1.size ≤ 82 := by rw [← hs1]; exact nameT_small q1
    have z2 : s2.size ≤ 100 := by rw [← hs2]; exact tyT_small q2
    have HNN : Hid (nnT x = if x.notNull = true then joinT [s1, s2, wNN1] (txt [32]) else joinT [s1, s2] (txt [32])) := by
      unfold Hid nnT
      rw [hs1, hs2, show [s1, s2, wNN1] = [s1, s2] ++ [wNN1] from rfl, join_more _ _ _ (by simp) (by simp), joinT_one, join2, ba_app _ _ _ _ sp_nn]
    have HQ4 := Lib.hid q4
    have HS1 := Lib.hid hs1
    have HS2 := Lib.hid hs2
    have HR := Lib.hid hr
    clear hr hc hs1 hs2 q1 q2 q4
    go_enter Tryz.func9, Tryz.ntmps9
    go_wp2_with fail
    refine (HC.out _ (HB.out _).2).mono ?_
    rintro e w1 ⟨rfl, b1⟩
    have B1 := Lib.hid ((HB.out 32).call b1)
    clear b1
    rw [HCC.out]
    go_wp2_with fail
    have hst : Hid (∀ p q : World, (((p.cell? ⟨w.heap.size, 0, none⟩ = some (.string x.name) ∧ p.cell? ⟨w.heap.size, 1, none⟩ = some (.int .i64 x.ty.kind) ∧ p.cell? ⟨w.heap.size, 2, none⟩ = some (.int .i64 x.ty.len) ∧ p.cell? ⟨w.heap.size, 3, none⟩ = some (.string x.ty.name)) ∧ Hid (BoxCo w x a0 c0 p)) → Below p.heap.size p q → ((q.cell? ⟨w.heap.size, 0, none⟩ = some (.string x.name) ∧ q.cell? ⟨w.heap.size, 1, none⟩ = some (.int .i64 x.ty.kind) ∧ q.cell? ⟨w.heap.size, 2, none⟩ = some (.int .i64 x.ty.len) ∧ q.cell? ⟨w.heap.size, 3, none⟩ = some (.string x.ty.name)) ∧ Hid (BoxCo w x a0 c0 q)))) := fun p q h hb => by
      have T := h.2.out.call hb
      exact ⟨⟨(T.1.2 0 (by simp)).1, (T.1.2 1 (by simp)).1, (T.1.2 2 (by simp)).1, (T.1.2 3 (by simp)).1⟩, T⟩
    have D1 := Lib.hid (B1.out.call (below_drewE (Below.refl _ _)))
    go_region_held3 (fun w' => (w'.cell? ⟨w.heap.size, 0, none⟩ = some (.string x.name) ∧ w'.cell? ⟨w.heap.size, 1, none⟩ = some (.int .i64 x.ty.kind) ∧ w'.cell? ⟨w.heap.size, 2, none⟩ = some (.int .i64 x.ty.len) ∧ w'.cell? ⟨w.heap.size, 3, none⟩ = some (.string x.ty.name)) ∧ Hid (BoxCo w x a0 c0 w')) (first | assumption | exact ⟨⟨(D1.out.1.2 0 (by simp)).1, (D1.out.1.2 1 (by simp)).1, (D1.out.1.2 2 (by simp)).1, (D1.out.1.2 3 (by simp)).1⟩, D1.out⟩ | exact hst.out _ _ (by assumption) ((Below.refl _ _).alloc (Nat.le_refl _) _))
      (first
        | (go_at_call 30; refine (implPutName x.name _ HN.out s1 HS1.out).mono ?_; rintro e wq ⟨rfl, bq⟩; have hq := hst.out _ _ (by assumption) bq)
        | (go_at_call 31; refine (implTypeTextC x.ty _ HTn.out HF.out (HT.out _ (And.right (by assumption : _ ∧ Hid (BoxCo w x a0 c0 _))).out.2) s2 HS2.out).mono ?_; rintro e wz ⟨rfl, bz⟩; have hz := hst.out _ _ (by assumption) bz; have T9 := Lib.hid hz.2.out))
    clear hst bz hz bq hq D1
    have zs1 : s1.size ≤ maxLen := by unfold maxLen; omega
    have zs2 : s2.size ≤ maxLen := by unfold maxLen; omega
    have HP : Hid (Strs (wz.alloc (.cells #[.string s1, .string s2] 9)) (some ⟨wz.heap.size, 0, none⟩) 2 [s1, s2]) := rowLit1 wz [s1, s2] (by intro t ht; simp only [List.mem_cons, List.not_mem_nil, or_false] at ht; rcases ht with rfl | rfl; exact zs1; exact zs2) (by simp)
    have B3 : Hid (BoxCo w x a0 c0 (wz.alloc (.cells #[.string s1, .string s2] 9))) := T9.out.call ((Below.refl _ _).alloc (Nat.le_refl _) _)
    clear T9
    generalize wz.alloc (.cells #[.string s1, .string s2] 9) = W3 at HP B3 ⊢
    generalize wz.heap.size = pb at HP ⊢
    have g4 : W3.cell? ⟨w.heap.size, 4, none⟩ = some (.bool x.notNull) := (B3.out.1.2 4 (by simp)).1
    have g5 : W3.cell? ⟨w.heap.size, 5, none⟩ = some (.slice a0 x.dflt.length c0) := (B3.out.1.2 5 (by simp)).1
    have hzd : Hid (∀ e ∈ x.dflt, (putT e).size ≤ 8400) := fun e he => putT_small (HQ4.out e he)
    have hm0 : (ByteArray.mk #[100, 101, 102, 97, 117, 108, 116]).size ≤ maxLen := by decide
    have hdd : Hid (∀ s : ByteArray, dfT wDf s x.dflt = match x.dflt with | [] => s | e :: _ => s ++ txt [32] ++ joinT [wDf1, putT e] (txt [32])) := fun s => by
      cases x.dflt with
      | nil => rfl
      | cons e r => exact (df_text s e).symm
    have hend : Hid (∀ (ps : List ByteArray) (ys : List ByteArray), ps ≠ [] → ps.length ≤ 3 → lets ps ≤ 300 → (ys = dfL ps wDf1 x.dflt) → dfT wDf (joinT ps (txt [32])) x.dflt = joinT ys (txt [32]) ∧ lets ys + ys.length ≤ 1073741824) := by
      intro ps ys hp h3 hlp hys
      rw [hdd.out, hys]
      cases hd : x.dflt with
      | nil => exact ⟨rfl, by simp only [dfL]; omega⟩
      | cons e r =>
        simp only [dfL]
        refine ⟨(join_more _ _ _ hp (by simp)).symm, ?_⟩
        have he := hzd.out e (by rw [hd]; simp)
        have e1 : lets (ps ++ [wDf1, putT e]) = lets ps + (wDf1.size + (putT e).size) := by simp [lets]
        have e2 : wDf1.size = 7 := rfl
        rw [e1, List.length_append]
        simp only [List.length_cons, List.length_nil]
        omega
    cases hnn : x.notNull with
    | false =>
      have HV : Hid (r = dfT wDf (joinT [s1, s2] (txt [32])) x.dflt) := by unfold Hid; rw [← HR.out, HNN.out, hnn]; rfl
      rw [hnn] at g4
      clear hnn
      go_wp2_with fail
      obtain ⟨ys, hys⟩ : ∃ ys, ys = dfL [s1, s2] wDf1 x.dflt := ⟨_, rfl⟩
      have HE := Lib.hid (hend.out [s1, s2] ys (by simp) (by simp) (by simp [lets]; omega) hys)
      refine (phraseMaybe (some ⟨pb, 0, none⟩) 2 [s1, s2] wDf1 a0 c0 x.dflt _ HP.out (by simp) (by simp) (HT.out _ B3.out.2) (HK.out _ B3.out.2) HD.out hm0 hzd.out ys hys).mono ?_
      rintro e w4 ⟨a4, c4, rfl, hs4, b4⟩
      have HS4 := Lib.hid hs4
      have B4 := Lib.hid (B3.out.call b4)
      clear hs4 b4 hys g4 g5
      go_wp2_with fail
      refine (phraseText a4 c4 ys _ HS4.out HE.out.2 r (by rw [HV.out]; exact HE.out.1.symm)).mono ?_
      rintro e w5 ⟨rfl, b5⟩
      have B5 := Lib.hid (B4.out.call b5)
      clear b5
      go_wp2_with fail
      go_ret
      exact ⟨rfl, B5.out.2⟩
    | true =>
      have HV : Hid (r = dfT wDf (joinT [s1, s2, wNN1] (txt [32])) x.dflt) := by unfold Hid; rw [← HR.out, HNN.out, hnn]; rfl
      rw [hnn] at g4
      clear hnn
      go_wp2_with fail
      have hrow := rowLit1 W3 [wNN1] (by intro t ht; simp only [List.mem_cons, List.not_mem_nil, or_false] at ht; rw [ht]; decide) (by simp)
      refine (phraseAnd (some ⟨pb, 0, none⟩) 2 [s1, s2] _ 1 [wNN1] _ (HP.out.below ((Below.refl _ _).alloc (Nat.le_refl _) _)) hrow (.inr ⟨_, _, rfl⟩) (by simp)).mono ?_
      rintro e w4 ⟨a4, c4, rfl, hs4, b4⟩
      have HS4 : Hid (Strs w4 a4 c4 [s1, s2, wNN1]) := hs4
      have B4 := Lib.hid ((B3.out.call ((Below.refl _ _).alloc (Nat.le_refl _) _)).call b4)
      clear hs4 b4 hrow g4 g5
      have g4 : w4.cell? ⟨w.heap.size, 4, none⟩ = some (.bool x.notNull) := (B4.out.1.2 4 (by simp)).1
      have g5 : w4.cell? ⟨w.heap.size, 5, none⟩ = some (.slice a0 x.dflt.length c0) := (B4.out.1.2 5 (by simp)).1
      obtain ⟨ys, hys⟩ : ∃ ys, ys = dfL [s1, s2, wNN1] wDf1 x.dflt := ⟨_, rfl⟩
      have HE := Lib.hid (hend.out [s1, s2, wNN1] ys (by simp) (by simp) (by have : wNN1.size = 8 := rfl; simp [lets]; omega) hys)
      go_wp2_with fail
      refine (phraseMaybe a4 c4 [s1, s2, wNN1] wDf1 a0 c0 x.dflt _ HS4.out (by simp) (by simp) (HT.out _ B4.out.2) (HK.out _ B4.out.2) HD.out hm0 hzd.out ys hys).mono ?_
      rintro e w6 ⟨a6, c6, rfl, hs6, b6⟩
      have HS6 := Lib.hid hs6
      have B6 := Lib.hid (B4.out.call b6)
      clear hs6 b6 hys g4 g5
      go_wp2_with fail
      refine (phraseText a6 c6 ys _ HS6.out HE.out.2 r (by rw [HV.out]; exact HE.out.1.symm)).mono ?_
      rintro e w5 ⟨rfl, b5⟩
      have B5 := Lib.hid (B6.out.call b5)
      clear b5
      go_wp2_with fail
      go_ret
      exact ⟨rfl, B5.out.2⟩

end Go.Proofs.YtpdcmmhhgnackaaGreatDoor

namespace Go.Proofs.YtpdcmmhhgnackaaGreatDoor
open Go.RowKit

theorem okN (vs : List Value) (x : ByteArray) (w : World) (hR : RNm 0 w vs x) (hJ : AnyW w) (hq : True) :
    Calls Tryz.prog 72 #[.string x] w fun e w' => e = .returned (.bool (nmB x)) ∧ Below w.heap.size w w' := by
  refine (implNameOk x w _ rfl).mono ?_
  rintro e w' ⟨rfl, rfl⟩
  exact ⟨rfl, Below.refl _ _⟩

set_option maxRecDepth 100000 in
set_option maxHeartbeats 1000000 in
theorem notN (vs : List Value) (x : ByteArray) (nb : Nat) (w : World) (hR : RNm 0 w vs x) (hJ : AnyW w) (hq : True) (hnb : w.cell? ⟨nb, 0, none⟩ = some (.func (.func 72) #[] #[])) (hlt : nb < w.heap.size) :
    Calls Tryz.prog 153 #[.string x, .pointer (some ⟨nb, 0, none⟩)] w fun e w' => e = .returned (.bool (!nmB x)) ∧ Below w.heap.size w w' := by
  go_enter Tryz.func153, Tryz.ntmps153
  go_wp2_with fail
  refine (okN vs x _ hR hJ hq).mono ?_
  rintro e w2 ⟨rfl, b2⟩
  have B2 := Lib.hid b2
  clear b2
  go_wp2_with fail
  go_ret
  exact ⟨rfl, B2.out⟩

set_option maxRecDepth 100000 in
set_option maxHeartbeats 2000000 in
theorem idxN (a : Option Addr) (c : Nat) (xs : List ByteArray) (nb : Nat) (w : World) (hx : Sl 1 RNm 0 w a c xs) (hJ : AnyW w) (hq : ∀ x ∈ xs, True) (hnb : w.cell? ⟨nb, 0, none⟩ = some (.func (.func 72) #[] #[])) (hlt0 : nb < w.heap.size) :
    Calls Tryz.prog 164 #[.slice a xs.length c, .func (.func 153) #[] #[.pointer (some ⟨nb, 0, none⟩)]] w fun e w' =>
      ∃ r : Int, e = .returned (.int .i64 r) ∧ Hid (decide (0 ≤ r) = !xs.all nmB) ∧ Below w.heap.size w w' := by
  have hl := hx.len
  have HX := Lib.hid (fun w' (hb : Below w.heap.size w w') => hx.kept goodRNm (Kept.below hb))
  have HJ := Lib.hid (fun w' (hb : Below w.heap.size w w') => hJ.call hb)
  have HN := Lib.hid (fun w' (hb : Below w.heap.size w w') => (And.intro ((hb.cell (p := ⟨nb, 0, none⟩) hlt0).trans hnb) (Nat.lt_of_lt_of_le hlt0 hb.size)))
  have HQ := Lib.hid hq
  clear hx hJ hq
  go_enter Tryz.func164, Tryz.ntmps164
  go_wp2
  go_loopw [8] (fun i wr => ∃ k : Nat, k ≤ xs.length ∧ i = .int .i64 k ∧ Hid (∀ m (hm : m < xs.length), m < k → nmB xs[m] = true) ∧ Below w.heap.size w wr) (fun i _ => xs.length - (intOf i).toNat)
  case atStart => exact ⟨0, Nat.zero_le _, rfl, fun m h hm => absurd hm (by omega), Below.refl _ _⟩
  case round =>
    obtain ⟨k, hk, rfl, hall, hb⟩ := hrel
    by_cases hlt : k < xs.length
    · obtain ⟨b, off, vs, rfl, hbl, hcs, hR⟩ := (HX.out _ hb).spot hlt
      obtain ⟨hn1, hn2⟩ := HN.out _ hb
      have HR := hR
      obtain ⟨rfl, _⟩ := hR
      have hc0 : wr.cell? ⟨b, off + k, none⟩ = some (.string xs[k]) := by have := hcs 0 (by simp); simpa using this
      have HK := Lib.hid HR
      clear HR hcs
      go_wp2_with fail
      refine (notN _ xs[k] nb _ HK.out (HJ.out _ hb) (HQ.out _ (List.getElem_mem hlt)) hn1 hn2).mono ?_
      rintro e w2 ⟨rfl, hb2⟩
      have HB2 := Lib.hid (hb.trans (hb2.mono hb.size))
      clear hb2
      cases he : nmB xs[k] with
      | false =>
        have HE := Lib.hid (all_hit nmB xs k hlt he)
        clear he
        go_wp2_with fail
        go_ret
        exact ⟨k, rfl, by unfold Hid; rw [HE.out]; simp, HB2.out⟩
      | true =>
        have HE := Lib.hid he
        clear he
        go_wp2_with fail
        go_roundw
        case rel => exact ⟨k + 1, by omega, by go_num, fun m hm h1 => by
          rcases Nat.lt_or_ge m k with h2 | h2
          · exact hall.out m hm h2
          · obtain rfl : m = k := by omega
            exact HE.out, HB2.out⟩
        case measure => simp [intOf]; omega
    · have HE := Lib.hid (all_miss nmB xs fun m hm => hall.out m hm (by omega))
      go_wp2_with fail
      go_ret
      exact ⟨-1, rfl, by unfold Hid; rw [HE.out]; rfl, hb⟩

set_option maxHeartbeats 1000000 in
theorem contN (a : Option Addr) (c : Nat) (xs : List ByteArray) (nb : Nat) (w : World) (hx : Sl 1 RNm 0 w a c xs) (hJ : AnyW w) (hq : ∀ x ∈ xs, True) (hnb : w.cell? ⟨nb, 0, none⟩ = some (.func (.func 72) #[] #[])) (hlt0 : nb < w.heap.size) :
    Calls Tryz.prog 152 #[.slice a xs.length c, .func (.func 153) #[] #[.pointer (some ⟨nb, 0, none⟩)]] w fun e w' =>
      e = .returned (.bool (!xs.all nmB)) ∧ Below w.heap.size w w' := by
  have HC := Lib.hid (idxN a c xs nb w hx hJ hq hnb hlt0)
  clear hx hJ hq hnb
  go_enter Tryz.func152, Tryz.ntmps152
  go_wp2_with fail
  refine HC.out.mono ?_
  rintro e w2 ⟨r, rfl, hr, b2⟩
  have B2 := Lib.hid b2
  clear b2
  go_wp2_with fail
  go_ret
  exact ⟨by rw [← hr.out]; rfl, B2.out⟩

set_option maxHeartbeats 1000000 in
theorem everyN (a : Option Addr) (c : Nat) (xs : List ByteArray) (w : World) (hx : Sl 1 RNm 0 w a c xs) (hJ : AnyW w) (hq : ∀ x ∈ xs, True) (v : Bool) (hv : xs.all nmB = v) :
    Calls Tryz.prog 144 #[.slice a xs.length c, .func (.func 72) #[] #[]] w fun e w' => e = .returned (.bool v) ∧ Below w.heap.size w w' := by
  have hmf : ∀ (fn : Fn) (first cap : Array Value) (w : World), (Instr.makeFunc fn first cap).run Tryz.prog w = .ok (.func fn first cap) w := fun _ _ _ _ => rfl
  have HX := Lib.hid (fun w' (hb : Below w.heap.size w w') => And.intro (hx.kept goodRNm (Kept.below hb)) (hJ.call hb))
  have HQ := Lib.hid hq
  have HV := Lib.hid hv
  clear hx hJ hq hv
  go_enter Tryz.func144, Tryz.ntmps144
  go_wp2_with fail
  refine (contN a c xs w.heap.size _ (HX.out _ (by ((repeat (first | refine Below.alloc ?_ (by first | omega | (simp; done) | (simp; omega)) _ | refine Below.setCell ?_ (by first | omega | (simp; done) | (simp; omega)) _)); first | exact Below.refl _ _ | exact Below.refl _ _))).1 (HX.out _ (by ((repeat (first | refine Below.alloc ?_ (by first | omega | (simp; done) | (simp; omega)) _ | refine Below.setCell ?_ (by first | omega | (simp; done) | (simp; omega)) _)); first | exact Below.refl _ _ | exact Below.refl _ _))).2 HQ.out (by simp [go_sem]) (by simp)).mono ?_
  rintro e w2 ⟨rfl, b2⟩
  have B2 := Lib.hid (show Below w.heap.size w w2 from Below.call b2 (by ((repeat (first | refine Below.alloc ?_ (by first | omega | (simp; done) | (simp; omega)) _ | refine Below.setCell ?_ (by first | omega | (simp; done) | (simp; omega)) _)); first | exact Below.refl _ _ | exact Below.refl _ _)))
  clear b2
  go_wp2_with fail
  go_ret
  exact ⟨by rw [HV.out]; cases v <;> rfl, B2.out⟩

set_option maxHeartbeats 1000000 in
theorem fitsN (a : Option Addr) (c : Nat) (xs : List ByteArray) (lo hi : Int) (w : World) (hx : Sl 1 RNm 0 w a c xs) (hJ : AnyW w) (hq : ∀ x ∈ xs, True) (v : Bool) (hv : (inI xs.length lo hi && xs.all nmB) = v) :
    Calls Tryz.prog 124 #[.slice a xs.length c, .agg #[.int .i64 lo, .int .i64 hi], .func (.func 72) #[] #[]] w fun e w' => e = .returned (.bool v) ∧ Below w.heap.size w w' := by
  have hl := hx.len
  have HE := Lib.hid (fun w' (hb : Below w.heap.size w w') => everyN a c xs w' (hx.kept goodRNm (Kept.below hb)) (hJ.call hb) hq _ rfl)
  clear hx hJ hq
  cases h1 : inI xs.length lo hi with
  | false =>
    have HV : Hid (v = false) := by unfold Hid; rw [← hv, h1]; rfl
    have HI := Lib.hid h1
    clear hv h1
    go_enter Tryz.func124, Tryz.ntmps124
    go_wp2_with fail
    refine (spanAllows lo hi xs.length _ false HI.out).mono ?_
    rintro e w1 ⟨rfl, b1⟩
    have B1 := Lib.hid (show Below w.heap.size w w1 from Below.call b1 (by ((repeat (first | refine Below.alloc ?_ (by first | omega | (simp; done) | (simp; omega)) _ | refine Below.setCell ?_ (by first | omega | (simp; done) | (simp; omega)) _)); first | exact Below.refl _ _ | exact Below.refl _ _)))
    clear b1
    go_wp2_with fail
    go_ret
    exact ⟨by rw [HV.out] <;> rfl, B1.out⟩
  | true =>
    have HV : Hid (xs.all nmB = v) := by unfold Hid; rw [← hv, h1]; rfl
    have HI := Lib.hid h1
    clear hv h1
    go_enter Tryz.func124, Tryz.ntmps124
    go_wp2_with fail
    refine (spanAllows lo hi xs.length _ true HI.out).mono ?_
    rintro e w1 ⟨rfl, b1⟩
    have B1 := Lib.hid (show Below w.heap.size w w1 from Below.call b1 (by ((repeat (first | refine Below.alloc ?_ (by first | omega | (simp; done) | (simp; omega)) _ | refine Below.setCell ?_ (by first | omega | (simp; done) | (simp; omega)) _)); first | exact Below.refl _ _ | exact Below.refl _ _)))
    clear b1
    go_wp2_with fail
    refine (HE.out _ B1.out).mono ?_
    rintro e w2 ⟨rfl, b2⟩
    have B2 := Lib.hid (show Below w.heap.size w w2 from Below.call b2 B1.out)
    clear b2
    go_wp2_with fail
    go_ret
    exact ⟨by rw [HV.out] <;> rfl, B2.out⟩

end Go.Proofs.YtpdcmmhhgnackaaGreatDoor
