/- What the model and the program say of an expression is one thing: pure. -/
/- The model's and the program's word on an expression agree. -/
/- Trees of expressions that own their blocks: what the laws' copies are, and what a marking turns. -/
/- impl.eachNode with the function that collects the columns. -/
import Derived.Test.YtpdcmmhhgnackaaDoorMShapeE
import Derived.Test.YtpdcmmhhgnackaaDoorMNameImpl
import Derived.Test.YtpdcmmhhgnackaaDoorMDrawPick
import Derived.Test.YtpdcmmhhgnackaaDoorMMem
import Derived.Test.YtpdcmmhhgnackaaDoorMPlain
namespace Go.Proofs.YtpdcmmhhgnackaaDoor
open Go.RowKit

def sortO : Opd → So
  | .plain k => soK k
  | .text _ => soK 1
  | .enum n => ⟨3, n⟩

theorem sortO_kind (o : Opd) : (sortO o).kind = o.kind := by cases o <;> rfl

theorem allS_map (xs : List Opd) (k : Int) : allS (xs.map sortO) k = allK xs k := by
  unfold allS allK
  rw [List.all_map]
  congr 1
  funext x
  simp only [Function.comp_apply, sortO_kind]

/-- A column's operand is no text and no plain enumeration. -/
def colOk (col : ByteArray → Option Opd) : Prop := ∀ s o, col s = some o → (∀ t, o ≠ .text t) ∧ o ≠ .plain 3

/-- An operand is a text just where the expression is one. -/
theorem opd_facts {col : ByteArray → Option Opd} (hcol : colOk col) {ls : List Lb} {e : Ex} {o : Opd} (h : opdE col ls e = some o) : (∀ s, o = .text s → e.kind = 2 ∧ s = e.text) ∧ (e.kind = 2 → o = .text e.text) ∧ o ≠ .plain 3 := by
  obtain ⟨k, t, n, kids⟩ := e
  rw [opdE] at h
  split at h
  · rename_i h0
    have := hcol _ _ h
    refine ⟨fun s hs => absurd hs (this.1 s), fun h2 => ?_, this.2⟩
    simp [Ex.kind] at h0 h2
    omega
  · split at h
    · rename_i h0
      cases h
      refine ⟨fun s hs => by (cases hs), fun h2 => ?_, by simp⟩
      simp [Ex.kind] at h0 h2
      omega
    · split at h
      · rename_i h0
        cases h
        exact ⟨fun s hs => by cases hs; exact ⟨by simpa [Ex.kind] using h0, rfl⟩, fun _ => rfl, by simp⟩
      · rename_i n2
        have hn2 : k ≠ 2 := by simpa using n2
        split at h
        · cases h
          exact ⟨fun s hs => by (cases hs), fun h2 => absurd h2 hn2, by simp⟩
        · split at h
          · cases h
            exact ⟨fun s hs => by (cases hs), fun h2 => absurd h2 hn2, by simp⟩
          · cases hl : opdL col ls kids with
            | none => rw [hl] at h; cases h
            | some xs =>
              rw [hl] at h
              simp only at h
              split at h
              · cases h
                unfold resK
                split
                · exact ⟨fun s hs => by (cases hs), fun h2 => absurd h2 hn2, by simp⟩
                · exact ⟨fun s hs => by (cases hs), fun h2 => absurd h2 hn2, by simp⟩
              · cases h

theorem cmp_fit {ls : List Lb} {x y : Ex} {a b : Opd} (ha : (∀ s, a = .text s → x.kind = 2 ∧ s = x.text) ∧ (x.kind = 2 → a = .text x.text) ∧ a ≠ .plain 3) (hb : (∀ s, b = .text s → y.kind = 2 ∧ s = y.text) ∧ (y.kind = 2 → b = .text y.text) ∧ b ≠ .plain 3) :
    fitS ls x y (sortO a) (sortO b) = cmpB ls a b := by
  obtain ⟨ha1, ha2, ha3⟩ := ha
  obtain ⟨hb1, hb2, hb3⟩ := hb
  cases a with
  | plain k =>
    have hx : (x.kind == 2) = false := by
      cases hh : (x.kind == 2) with
      | false => rfl
      | true => have := ha2 (by simpa using hh); cases this
    have hk : k ≠ 3 := fun h => ha3 (by rw [h])
    cases b with
    | plain m =>
      have hm : m ≠ 3 := fun h => hb3 (by rw [h])
      unfold fitS cmpB
      by_cases h1 : k = 4 <;> by_cases h2 : m = 4 <;> by_cases h3 : k = m <;> simp [sortO, soK, soEq, Opd.kind, hk, hm, h1, h2, h3]
    | text s =>
      unfold fitS cmpB
      by_cases h1 : k = 4 <;> by_cases h3 : k = 1 <;> simp [sortO, soK, soEq, Opd.kind, hk, h1, h3]
    | enum n =>
      unfold fitS cmpB cmpE
      by_cases h1 : k = 4 <;> simp [sortO, soK, soEq, Opd.kind, hk, h1, hx]
  | text s =>
    obtain ⟨hx, rfl⟩ := ha1 s rfl
    cases b with
    | plain m =>
      have hm : m ≠ 3 := fun h => hb3 (by rw [h])
      unfold fitS cmpB
      by_cases h2 : m = 4 <;> by_cases h3 : 1 = m <;> simp [sortO, soK, soEq, Opd.kind, hm, h2, h3]
    | text r =>
      unfold fitS cmpB
      simp [sortO, soK, soEq, Opd.kind]
    | enum n =>
      unfold fitS cmpB cmpE
      simp [sortO, soK, soEq, Opd.kind, hx]
  | enum n =>
    cases b with
    | plain m =>
      have hm : m ≠ 3 := fun h => hb3 (by rw [h])
      have hm' : ¬ (3 = m) := fun h => hm h.symm
      have hy : (y.kind == 2) = false := by
        cases hh : (y.kind == 2) with
        | false => rfl
        | true => have := hb2 (by simpa using hh); cases this
      unfold fitS cmpB cmpE
      by_cases h2 : m = 4 <;> simp [sortO, soK, soEq, Opd.kind, hm, hm', h2, hy]
    | text r =>
      obtain ⟨hy, rfl⟩ := hb1 r rfl
      unfold fitS cmpB cmpE
      simp [sortO, soK, soEq, Opd.kind, hy]
    | enum m =>
      have hy : (y.kind == 2) = false := by
        cases hh : (y.kind == 2) with
        | false => rfl
        | true => have := hb2 (by simpa using hh); cases this
      have hx : (x.kind == 2) = false := by
        cases hh : (x.kind == 2) with
        | false => rfl
        | true => have := ha2 (by simpa using hh); cases this
      unfold fitS cmpB cmpE
      by_cases h : n.toList = m.toList
      · simp [sortO, soEq, Opd.kind, h, hx, hy]
      · have h' : ¬ (m.toList = n.toList) := fun q => h q.symm
        simp [sortO, soEq, Opd.kind, h, h', hx, hy]

end Go.Proofs.YtpdcmmhhgnackaaDoor

namespace Go.Proofs.YtpdcmmhhgnackaaDoor
open Go.RowKit

theorem range_of {k : Int} {m : Nat} (h : (m : Int) = kidsK k) : 0 ≤ k ∧ k ≤ 18 := by
  unfold kidsK at h
  split at h
  · omega
  · omega

theorem node_agree {col : ByteArray → Option Opd} {cf : ByteArray → Option So} {ls : List Lb} (hcf : ∀ s, cf s = (col s).map sortO) (hcol : colOk col) (k : Int) (t : ByteArray) (n : Int) (kids : List Ex) (hk : (kids.length : Int) = kidsK k)
    (ih : srtL cf ls kids = (opdL col ls kids).map (List.map sortO)) (hlk : ∀ xs, opdL col ls kids = some xs → xs.length = kids.length ∧ ∀ (i : Nat) (h : i < kids.length) (h' : i < xs.length), opdE col ls kids[i] = some xs[i]) :
    srtE cf ls (.mk k t n kids) = (opdE col ls (.mk k t n kids)).map sortO := by
  have hr := range_of hk
  rw [srtE, ih, opdE]
  by_cases h5 : k ≤ 5
  · have h0 : kids = [] := by
      have : kidsK k = 0 := by unfold kidsK; rw [if_neg (by omega), if_pos h5]
      exact List.eq_nil_of_length_eq_zero (by omega)
    subst h0
    simp only [opdL, Option.map_some, List.map_nil]
    have hc : k = 0 ∨ k = 1 ∨ k = 2 ∨ k = 3 ∨ k = 4 ∨ k = 5 := by omega
    rcases hc with rfl | rfl | rfl | rfl | rfl | rfl
    · simp [nodeS, hcf]
    all_goals simp [nodeS, sortO]
  · cases hl : opdL col ls kids with
    | none =>
      have e0 : (k == 0) = false := by simp; omega
      have e1 : (k == 1) = false := by simp; omega
      have e2 : (k == 2) = false := by simp; omega
      have e3 : (k == 3) = false := by simp; omega
      have e4 : (k == 4) = false := by simp; omega
      have e5 : (k == 5) = false := by simp; omega
      simp [e0, e1, e2, e3, e4, e5]
    | some xs =>
      simp only [Option.map_some]
      have hc : k = 6 ∨ k = 7 ∨ k = 8 ∨ k = 9 ∨ k = 10 ∨ k = 11 ∨ k = 12 ∨ k = 13 ∨ k = 14 ∨ k = 15 ∨ k = 16 ∨ k = 17 ∨ k = 18 := by omega
      rcases hc with rfl | rfl | rfl | rfl | rfl | rfl | rfl | rfl | rfl | rfl | rfl | rfl | rfl
      case inr.inr.inr.inr.inl =>
        obtain ⟨hxl, hxe⟩ := hlk xs hl
        have h2 : kids.length = 2 := by have : kidsK 10 = 2 := rfl; omega
        obtain ⟨x, y, rfl⟩ : ∃ x y, kids = [x, y] := by
          clear hxe hxl hl ih hlk hk
          match kids, h2 with
          | [x, y], _ => exact ⟨x, y, rfl⟩
        obtain ⟨a, b, rfl⟩ : ∃ a b, xs = [a, b] := by
          clear hxe hl
          match xs, hxl with
          | [a, b], _ => exact ⟨a, b, rfl⟩
        have h1 := hxe 0 (by simp) (by simp)
        have h3 := hxe 1 (by simp) (by simp)
        simp only [List.getElem_cons_zero, List.getElem_cons_succ] at h1 h3
        have hf := cmp_fit (ls := ls) (opd_facts hcol h1) (opd_facts hcol h3)
        simp [nodeS, accB, resK, hf]
        try (split <;> rfl)
      case inr.inr.inr.inr.inr.inl =>
        obtain ⟨hxl, hxe⟩ := hlk xs hl
        have h2 : kids.length = 2 := by have : kidsK 11 = 2 := rfl; omega
        obtain ⟨x, y, rfl⟩ : ∃ x y, kids = [x, y] := by
          clear hxe hxl hl ih hlk hk
          match kids, h2 with
          | [x, y], _ => exact ⟨x, y, rfl⟩
        obtain ⟨a, b, rfl⟩ : ∃ a b, xs = [a, b] := by
          clear hxe hl
          match xs, hxl with
          | [a, b], _ => exact ⟨a, b, rfl⟩
        have h1 := hxe 0 (by simp) (by simp)
        have h3 := hxe 1 (by simp) (by simp)
        simp only [List.getElem_cons_zero, List.getElem_cons_succ] at h1 h3
        have hf := cmp_fit (ls := ls) (opd_facts hcol h1) (opd_facts hcol h3)
        simp [nodeS, accB, resK, hf]
        try (split <;> rfl)
      all_goals
        simp [nodeS, accB, resK, allS_map]
        first | done | rfl | (split <;> rfl) | skip

theorem opdL_get {col : ByteArray → Option Opd} {ls : List Lb} : ∀ {l : List Ex} {xs : List Opd}, opdL col ls l = some xs → xs.length = l.length ∧ ∀ (i : Nat) (h : i < l.length) (h' : i < xs.length), opdE col ls l[i] = some xs[i]
  | [], xs, h => by
    simp only [opdL, Option.some.injEq] at h
    subst h
    exact ⟨rfl, fun i h => by simp at h⟩
  | e :: r, xs, h => by
    rw [opdL] at h
    cases he : opdE col ls e with
    | none => rw [he] at h; cases h
    | some o =>
      rw [he] at h
      simp only at h
      cases hr : opdL col ls r with
      | none => rw [hr] at h; cases h
      | some ys =>
        rw [hr] at h
        simp only [Option.some.injEq] at h
        subst h
        obtain ⟨h1, h2⟩ := opdL_get hr
        refine ⟨by simp [h1], fun i hi hi' => ?_⟩
        cases i with
        | zero => exact he
        | succ i => exact h2 i (by simpa using hi) (by simpa using hi')

mutual
theorem agree {col : ByteArray → Option Opd} {cf : ByteArray → Option So} {ls : List Lb} (hcf : ∀ s, cf s = (col s).map sortO) (hcol : colOk col) : (e : Ex) → shapeE e = true → srtE cf ls e = (opdE col ls e).map sortO
  | .mk k t n kids => by
    intro hs
    rw [shapeE, Bool.and_eq_true] at hs
    have h1 := hs.1
    unfold node1 at h1
    simp only [Bool.and_eq_true, decide_eq_true_eq] at h1
    exact node_agree hcf hcol k t n kids h1.1.1 (agreeL hcf hcol kids hs.2) fun xs hx => opdL_get hx
theorem agreeL {col : ByteArray → Option Opd} {cf : ByteArray → Option So} {ls : List Lb} (hcf : ∀ s, cf s = (col s).map sortO) (hcol : colOk col) : (l : List Ex) → shapeL l = true → srtL cf ls l = (opdL col ls l).map (List.map sortO)
  | [] => fun _ => by simp [srtL, opdL]
  | e :: r => by
    intro hs
    rw [shapeL, Bool.and_eq_true] at hs
    rw [srtL, opdL, agree hcf hcol e hs.1, agreeL hcf hcol r hs.2]
    cases opdE col ls e with
    | none => rfl
    | some o =>
      simp only [Option.map_some]
      cases opdL col ls r with
      | none => rfl
      | some ys => rfl
end

mutual
theorem no_cols {ls : List Lb} : (e : Ex) → shapeE e = true → (opdE (fun _ => none) ls e).isSome = true → e.cols = []
  | .mk k t n kids => by
    intro hs ho
    rw [shapeE, Bool.and_eq_true] at hs
    have h1 := hs.1
    unfold node1 at h1
    simp only [Bool.and_eq_true, decide_eq_true_eq] at h1
    have hk := h1.1.1
    have hr := range_of hk
    rw [opdE] at ho
    rw [Ex.cols]
    by_cases h5 : k ≤ 5
    · have h0 : kids = [] := by
        have : kidsK k = 0 := by unfold kidsK; rw [if_neg (by omega), if_pos h5]
        exact List.eq_nil_of_length_eq_zero (by omega)
      subst h0
      by_cases hz : k = 0
      · subst hz; simp at ho
      · simp [own1, Ex.kind, hz, colsL]
    · have hz : k ≠ 0 := by omega
      cases hl : opdL (fun _ => none) ls kids with
      | none =>
        have e0 : (k == 0) = false := by simp; omega
        have e1 : (k == 1) = false := by simp; omega
        have e2 : (k == 2) = false := by simp; omega
        have e3 : (k == 3) = false := by simp; omega
        have e4 : (k == 4) = false := by simp; omega
        have e5 : (k == 5) = false := by simp; omega
        simp [e0, e1, e2, e3, e4, e5, hl] at ho
      | some xs => rw [no_colsL kids hs.2 (by rw [hl]; rfl)]; simp [own1, Ex.kind, hz]
theorem no_colsL {ls : List Lb} : (l : List Ex) → shapeL l = true → (opdL (fun _ => none) ls l).isSome = true → colsL l = []
  | [] => fun _ _ => by rw [colsL]
  | e :: r => by
    intro hs ho
    rw [shapeL, Bool.and_eq_true] at hs
    rw [opdL] at ho
    cases he : opdE (fun _ => none) ls e with
    | none => rw [he] at ho; cases ho
    | some o =>
      rw [he] at ho
      simp only at ho
      cases hl : opdL (fun _ => none) ls r with
      | none => rw [hl] at ho; cases ho
      | some xs => rw [colsL, no_cols e hs.1 (by rw [he]; rfl), no_colsL r hs.2 (by rw [hl]; rfl)]; rfl
end

theorem opd_plain {ls : List Lb} {e : Ex} {o : Opd} (h : opdE (fun _ => none) ls e = some o) : (∃ s, o = .text s) ∨ o = .plain 0 ∨ o = .plain 2 ∨ o = .plain 4 := by
  obtain ⟨k, t, n, kids⟩ := e
  rw [opdE] at h
  split at h
  · cases h
  · split at h
    · cases h; simp
    · split at h
      · cases h; exact .inl ⟨_, rfl⟩
      · split at h
        · cases h; simp
        · split at h
          · cases h; simp
          · cases hl : opdL (fun _ => none) ls kids with
            | none => rw [hl] at h; cases h
            | some xs =>
              rw [hl] at h
              simp only at h
              split at h
              · cases h
                unfold resK
                split
                · simp
                · simp
              · cases h

theorem gives_agree (ls : List Lb) (t : Ty) (e : Ex) : gvS ls t e = gvI ls t e := by
  have hcf : ∀ s, colF [] s = ((fun _ => none : ByteArray → Option Opd) s).map sortO := fun s => by simp [colF, findAt]
  have hcol : colOk (fun _ => none) := fun s o h => by cases h
  unfold gvS gvI sofS
  cases hok : (decide (e.nodes ≤ 40) && shapeE e) with
  | false => simp
  | true =>
    have hsh : shapeE e = true := by rw [Bool.and_eq_true] at hok; exact hok.2
    have hag := agree (ls := ls) hcf hcol e hsh
    cases ho : opdE (fun _ => none) ls e with
    | none =>
      rw [ho] at hag
      simp only [if_true, gvO]
      rw [hag]
      simp only [Option.map_none]
      split
      · simp
      · simp
    | some o =>
      have hnc := no_cols (ls := ls) e hsh (by rw [ho]; rfl)
      have huc : e.ucols = [] := by
        apply List.eq_nil_iff_forall_not_mem.2
        intro s hs
        have := ((ucols_facts e).2.1 s).1 hs
        rw [hnc] at this
        simp at this
      rw [ho] at hag
      simp only [if_true, gvO, huc, List.all_nil, hag, Option.map_some]
      rw [sortO_kind]
      have hfx := opd_facts hcol ho
      rcases opd_plain ho with ⟨s, rfl⟩ | rfl | rfl | rfl
      · obtain ⟨hk2, rfl⟩ := hfx.1 s rfl
        simp only [Opd.kind, gvK, stoB, stoT]
        by_cases k1 : t.kind = 1 <;> by_cases k3 : t.kind = 3 <;> by_cases k4 : t.kind = 4 <;> by_cases hl : (e.text.size : Int) ≤ t.len <;> simp [k1, k3, k4, hl, hk2]
      · simp [Opd.kind, gvK, stoB]
      · simp [Opd.kind, gvK, stoB]
      · simp [Opd.kind, gvK, stoB]

/-- The content of an enumeration. -/
def Lb.c0 (x : Lb) : Lab := ⟨x.name, x.list⟩

theorem labB_congr : ∀ {l1 l2 : List Lb}, l1.map Lb.c0 = l2.map Lb.c0 → ∀ n s, labB l1 n s = labB l2 n s
  | [], [], _, _, _ => rfl
  | [], _ :: _, h, _, _ => by simp at h
  | _ :: _, [], h, _, _ => by simp at h
  | x :: r, y :: q, h, n, s => by
    simp only [List.map_cons, List.cons.injEq, Lb.c0, Lab.mk.injEq] at h
    rw [labB, labB, h.1.1, h.1.2, labB_congr h.2]

theorem cmpB_congr {l1 l2 : List Lb} (h : ∀ n s, labB l1 n s = labB l2 n s) (x y : Opd) : cmpB l1 x y = cmpB l2 x y := by
  have hE : ∀ n z, cmpE l1 n z = cmpE l2 n z := fun n z => by cases z <;> simp [cmpE, h]
  unfold cmpB
  cases x <;> cases y <;> simp [hE]

theorem accB_congr {l1 l2 : List Lb} (h : ∀ n s, labB l1 n s = labB l2 n s) (k : Int) (xs : List Opd) : accB l1 k xs = accB l2 k xs := by
  have hc : cmpB l1 = cmpB l2 := by funext x y; exact cmpB_congr h x y
  unfold accB
  rw [hc]

mutual
theorem opdE_congr {col : ByteArray → Option Opd} {l1 l2 : List Lb} (h : ∀ n s, labB l1 n s = labB l2 n s) : (e : Ex) → opdE col l1 e = opdE col l2 e
  | .mk k t n kids => by
    rw [opdE, opdE, opdL_congr h kids]
    cases opdL col l2 kids with
    | none => rfl
    | some xs => simp only [accB_congr h k xs]
theorem opdL_congr {col : ByteArray → Option Opd} {l1 l2 : List Lb} (h : ∀ n s, labB l1 n s = labB l2 n s) : (l : List Ex) → opdL col l1 l = opdL col l2 l
  | [] => by rw [opdL, opdL]
  | e :: r => by rw [opdL, opdL, opdE_congr h e, opdL_congr h r]
end

theorem gvI_congr {l1 l2 : List Lb} (h : ∀ n s, labB l1 n s = labB l2 n s) (t : Ty) (e : Ex) : gvI l1 t e = gvI l2 t e := by
  unfold gvI
  rw [opdE_congr h e]
  cases opdE (fun _ => none) l2 e with
  | none => rfl
  | some o =>
    have : stoB l1 t.kind t.len t.name o = stoB l2 t.kind t.len t.name o := by cases o <;> simp [stoB, stoT, h]
    simp only [gvO, this]

theorem Sl.lbs {w : World} {a : Option Addr} {c : Nat} {xs : List Lab} (h : Sl 2 RLab 0 w a c xs) : ∃ ls : List Lb, ls.map Lb.c0 = xs ∧ Lbs w a c ls := by
  have hp : ∀ (i : Nat) (hi : i < xs.length), ∃ x : Lb, x.c0 = xs[i] ∧ ∀ b off, a = some ⟨b, off, none⟩ → LbAt w b (off + i * 2) x := by
    intro i hi
    obtain ⟨b, off, vs, ha, hb, hcs, hR⟩ := h.spot hi
    obtain ⟨a0, c0, rfl, hf, hs⟩ := hR
    refine ⟨⟨xs[i].name, xs[i].list, a0, c0⟩, rfl, fun b' off' ha' => ?_⟩
    rw [ha] at ha'
    cases ha'
    exact ⟨hcs 0 (by simp), hcs 1 (by simp), hf, hs.1⟩
  obtain ⟨ls, hl, hls⟩ : ∃ ls : List Lb, ls.length = xs.length ∧ ∀ (i : Nat) (h1 : i < ls.length) (h2 : i < xs.length), ls[i].c0 = xs[i] ∧ ∀ b off, a = some ⟨b, off, none⟩ → LbAt w b (off + i * 2) ls[i] := by
    suffices H : ∀ z, z ≤ xs.length → ∃ ls : List Lb, ls.length = z ∧ ∀ (i : Nat) (h1 : i < ls.length) (h2 : i < xs.length), ls[i].c0 = xs[i] ∧ ∀ b off, a = some ⟨b, off, none⟩ → LbAt w b (off + i * 2) ls[i] from H _ (Nat.le_refl _)
    intro z
    induction z with
    | zero => exact fun _ => ⟨[], rfl, fun i h => by simp at h⟩
    | succ z ih =>
      intro hz
      obtain ⟨ls, hl, hls⟩ := ih (by omega)
      obtain ⟨x, hx⟩ := hp z (by omega)
      refine ⟨ls ++ [x], by simp [hl], fun i h1 h2 => ?_⟩
      by_cases hi : i < ls.length
      · rw [List.getElem_append_left hi]; exact hls i hi h2
      · have : i = z := by simp at h1; omega
        subst this
        rw [List.getElem_append_right (by omega)]
        simpa [hl] using hx
  refine ⟨ls, ?_, ?_⟩
  · apply List.ext_getElem
    · simp [hl]
    · intro i h1 h2
      rw [List.getElem_map]
      exact (hls i (by simpa using h1) h2).1
  · obtain ⟨h1, h2, h3, h4⟩ := h
    refine ⟨by omega, h2, h3, fun hpos => ?_⟩
    obtain ⟨b, off, ha, _, hb, _⟩ := h4 (by omega)
    exact ⟨b, off, ha, hb, fun i hi => (hls i hi (by omega)).2 b off ha⟩

end Go.Proofs.YtpdcmmhhgnackaaDoor

namespace Go.Proofs.YtpdcmmhhgnackaaDoor
open Go.RowKit

/-- As KidsAt, and every list of kids is a row of its own, in the blocks bs. -/
def KidsO (w : World) : Nat → Option Addr → Nat → List Ex → List Nat → Prop
  | 0, _, _, _, _ => False
  | d + 1, a, c, kids, bs => c ≤ maxLen ∧ kids.length ≤ c ∧ (a = none → c = 0) ∧
    ((kids = [] ∧ bs = []) ∨ ∃ (b : Nat) (es : List Es) (bss : List (List Nat)), a = some ⟨b, 0, none⟩ ∧ kids = es.map Es.e ∧ bss.length = es.length ∧ 0 < es.length ∧ bs = b :: bss.flatten ∧
      w.ownsRow b 26 4 (.slice (some ⟨b, 0, none⟩) es.length c) es.length (ecells es) ∧
      ∀ (i : Nat) (h : i < es.length) (h' : i < bss.length), es[i].e.fit ∧ KidsO w d es[i].a es[i].c es[i].e.kids bss[i])

theorem ownsRow_block {w w' : World} {base : Nat} {e : TypeId} {size : Nat} {v : Value} {n : Nat} {xs : List Value} (h : w.ownsRow base e size v n xs) (hb : ∀ g, v.ownBlock = some g → w'.heap[g]? = w.heap[g]?) : w'.ownsRow base e size v n xs := by
  refine ⟨h.1, ?_⟩
  rcases h.2 with h2 | ⟨g, cap, cur, hv, hB, hg, r⟩
  · exact .inl h2
  · exact .inr ⟨g, cap, cur, hv, hB, by rw [hb g (by rw [hv]; rfl)]; exact hg, r⟩

theorem ownsRow_lt {w : World} {base : Nat} {e : TypeId} {size : Nat} {g n c : Nat} {xs : List Value} (h : w.ownsRow base e size (.slice (some ⟨g, 0, none⟩) n c) n xs) : g < w.heap.size := (h.lt g rfl).2

theorem KidsO.agree {w w' : World} : ∀ {d : Nat} {a : Option Addr} {c : Nat} {kids : List Ex} {bs : List Nat}, (∀ b ∈ bs, w'.heap[b]? = w.heap[b]?) → KidsO w d a c kids bs → KidsO w' d a c kids bs
  | 0, _, _, _, _, _, h => h
  | d + 1, a, c, kids, bs, hc, h => by
    obtain ⟨h1, h2, h3, h4⟩ := h
    refine ⟨h1, h2, h3, ?_⟩
    rcases h4 with h4 | ⟨b, es, bss, ha, hk, hl, hp, rfl, hown, hkid⟩
    · exact .inl h4
    · refine .inr ⟨b, es, bss, ha, hk, hl, hp, rfl, ownsRow_block hown fun g hg => by cases hg; exact hc b (List.mem_cons_self ..), fun i hi hi' => ?_⟩
      obtain ⟨hf, hk⟩ := hkid i hi hi'
      exact ⟨hf, KidsO.agree (fun g hg => hc g (List.mem_cons_of_mem _ (List.mem_flatten.2 ⟨_, List.getElem_mem hi', hg⟩))) hk⟩

theorem KidsO.at {w : World} : ∀ {d : Nat} {a : Option Addr} {c : Nat} {kids : List Ex} {bs : List Nat}, KidsO w d a c kids bs → KidsAt w d a c kids
  | 0, _, _, _, _, h => h
  | d + 1, a, c, kids, bs, h => by
    obtain ⟨h1, h2, h3, h4⟩ := h
    refine ⟨h2, h1, h3, fun hp => ?_⟩
    rcases h4 with ⟨rfl, _⟩ | ⟨b, es, bss, ha, rfl, hl, hp, rfl, hown, hkid⟩
    · simp at hp
    · refine ⟨b, 0, ha, ownsRow_lt hown, fun i hi => ?_⟩
      have hi' : i < es.length := by simpa using hi
      obtain ⟨hf, hk⟩ := hkid i hi' (by omega)
      obtain ⟨c0, c1, c2, c3⟩ := ecells_at es i hi'
      have e0 := (World.ownsRow.cellAt (w := w) hown (i * 4) (by omega)).trans c0
      have e1 := (World.ownsRow.cellAt (w := w) hown (i * 4 + 1) (by omega)).trans c1
      have e2 := (World.ownsRow.cellAt (w := w) hown (i * 4 + 2) (by omega)).trans c2
      have e3 := (World.ownsRow.cellAt (w := w) hown (i * 4 + 3) (by omega)).trans c3
      rw [Nat.zero_add]
      simp only [List.getElem_map]
      exact ⟨e0, e1, e2, hf, _, _, e3, hk.at⟩

theorem KidsO.lt {w : World} : ∀ {d : Nat} {a : Option Addr} {c : Nat} {kids : List Ex} {bs : List Nat}, KidsO w d a c kids bs → ∀ b ∈ bs, b < w.heap.size
  | 0, _, _, _, _, h => h.elim
  | d + 1, a, c, kids, bs, h => by
    obtain ⟨_, _, _, h4⟩ := h
    intro b hb
    rcases h4 with ⟨_, rfl⟩ | ⟨b0, es, bss, ha, rfl, hl, hp, rfl, hown, hkid⟩
    · simp at hb
    · rcases List.mem_cons.1 hb with rfl | hb
      · exact ownsRow_lt hown
      · obtain ⟨l, hl', hbl⟩ := List.mem_flatten.1 hb
        obtain ⟨i, hi, rfl⟩ := List.mem_iff_getElem.1 hl'
        exact (hkid i (by omega) hi).2.lt b hbl

theorem KidsO.below {w w' : World} {d : Nat} {a : Option Addr} {c : Nat} {kids : List Ex} {bs : List Nat} (h : KidsO w d a c kids bs) (hb : Below w.heap.size w w') : KidsO w' d a c kids bs :=
  h.agree fun b hm => hb.block b (h.lt b hm)

theorem KidsO.nil (w : World) (d : Nat) : KidsO w (d + 1) none 0 [] [] := ⟨by unfold maxLen; omega, Nat.le_refl _, fun _ => rfl, .inl ⟨rfl, rfl⟩⟩

/-- What a copy of an expression answers: the same tree, in blocks of its own. -/
def NewO (w : World) (d : Nat) (e : Ex) (x : Ending) (w' : World) : Prop :=
  ∃ a c bs, x = .returned (.agg #[.int .i64 e.kind, .string e.text, .int .i64 e.num, .slice a e.kids.length c]) ∧ KidsO w' d a c e.kids bs ∧ bs.Nodup ∧ (∀ b ∈ bs, w.heap.size ≤ b) ∧ Below w.heap.size w w'

def NewKidsO (w : World) (d : Nat) (kids : List Ex) (x : Ending) (w' : World) : Prop :=
  ∃ a c bs, x = .returned (.slice a kids.length c) ∧ KidsO w' d a c kids bs ∧ bs.Nodup ∧ (∀ b ∈ bs, w.heap.size ≤ b) ∧ Below w.heap.size w w'

def ToO (d : Nat) : Prop := ∀ (e : Ex) (a : Option Addr) (c : Nat) (w : World), e.fit → e.wt ≤ 1048576 → KidsAt w d a c e.kids →
  Calls Tryd.prog 97 #[.agg #[.int .i64 e.kind, .string e.text, .int .i64 e.num, .slice a e.kids.length c]] w (NewO w d e)

/-- What has been copied of a row of expressions. -/
structure DoneO (w : World) (d : Nat) (kids : List Ex) (done : List Es) (bss : List (List Nat)) (wr : World) : Prop where
  le : done.length ≤ kids.length
  len : bss.length = done.length
  kid : ∀ (j : Nat) (h : j < done.length) (h' : j < kids.length) (h2 : j < bss.length), done[j].e = kids[j] ∧ KidsO wr d done[j].a done[j].c kids[j].kids bss[j]
  nodup : bss.flatten.Nodup
  range : ∀ b ∈ bss.flatten, w.heap.size + 1 ≤ b ∧ b < wr.heap.size
  own : wr.ownsRow w.heap.size 26 4 (.slice (some ⟨w.heap.size, 0, none⟩) kids.length kids.length) kids.length (efill done kids.length)
  lt : w.heap.size < wr.heap.size
  bel : Below w.heap.size w wr

theorem DoneO.end {w wr : World} {d : Nat} {kids : List Ex} {done : List Es} {bss : List (List Nat)} (h : DoneO w d kids done bss wr) (hn : done.length = kids.length) (hm : kids.length ≤ maxLen) (hfit : ∀ e ∈ kids, e.fit) :
    ∃ bs, KidsO wr (d + 1) (some ⟨w.heap.size, 0, none⟩) kids.length kids bs ∧ bs.Nodup ∧ ∀ b ∈ bs, w.heap.size ≤ b := by
  have hk : kids = done.map Es.e := by
    refine List.ext_getElem (by simp [hn]) fun i h1 h2 => ?_
    have h3 : i < done.length := by simpa using h2
    rw [List.getElem_map, (h.kid i h3 h1 (by rw [h.len]; exact h3)).1]
  by_cases h0 : kids.length = 0
  · have : kids = [] := List.eq_nil_of_length_eq_zero h0
    subst this
    exact ⟨[], ⟨by simp [maxLen], Nat.le_refl _, (fun h => by cases h), .inl ⟨rfl, rfl⟩⟩, by simp, by simp⟩
  · refine ⟨w.heap.size :: bss.flatten, ⟨hm, Nat.le_refl _, (fun h => by cases h), .inr ⟨w.heap.size, done, bss, rfl, hk, h.len, by omega, rfl, ?_, fun i hi hi' => ?_⟩⟩, ?_, ?_⟩
    · have := h.own
      rw [← hn, efill_all] at this
      rw [hn] at this ⊢
      exact this
    · obtain ⟨he, hko⟩ := h.kid i hi (by omega) hi'
      rw [he]
      exact ⟨hfit _ (List.getElem_mem _), hko⟩
    · exact List.nodup_cons.2 ⟨fun hm => by have := (h.range _ hm).1; omega, h.nodup⟩
    · intro b hb
      rcases List.mem_cons.1 hb with rfl | hb
      · exact Nat.le_refl _
      · have := (h.range b hb).1; omega

theorem DoneO.step {w wr w2 w3 : World} {d : Nat} {kids : List Ex} {done : List Es} {bss : List (List Nat)} (h : DoneO w d kids done bss wr) (hlt : done.length < kids.length) {a : Option Addr} {c : Nat} {nb : List Nat}
    (hk : KidsO w2 d a c kids[done.length].kids nb) (hnd : nb.Nodup) (hnb : ∀ b ∈ nb, wr.heap.size ≤ b) (hb2 : Below wr.heap.size wr w2)
    (h3 : w3 = (((w2.setCell ⟨w.heap.size, done.length * 4, none⟩ (.int .i64 kids[done.length].kind)).setCell ⟨w.heap.size, done.length * 4 + 1, none⟩ (.string kids[done.length].text)).setCell ⟨w.heap.size, done.length * 4 + 2, none⟩ (.int .i64 kids[done.length].num)).setCell ⟨w.heap.size, done.length * 4 + 3, none⟩ (.slice a kids[done.length].kids.length c)) :
    DoneO w d kids (done ++ [⟨kids[done.length], a, c⟩]) (bss ++ [nb]) w3 := by
  have hlw := h.lt
  have hown2 : w2.ownsRow w.heap.size 26 4 (.slice (some ⟨w.heap.size, 0, none⟩) kids.length kids.length) kids.length (efill done kids.length) := ownsRow_block h.own fun g hg => by cases hg; exact hb2.block _ hlw
  have R0 := hown2.stored (done.length * 4) (.int .i64 kids[done.length].kind)
  have R1 := R0.1.stored (done.length * 4 + 1) (.string kids[done.length].text)
  have R2 := R1.1.stored (done.length * 4 + 2) (.int .i64 kids[done.length].num)
  have R3 := R2.1.stored (done.length * 4 + 3) (.slice a kids[done.length].kids.length c)
  have hset := efill_set done kids.length ⟨kids[done.length], a, c⟩ hlt
  unfold Es.k Es.t Es.n Es.s at hset
  simp only at hset
  rw [hset] at R3
  have hbw2 : Below w.heap.size w w2 := h.bel.trans (hb2.mono h.bel.size)
  have RB := (((hbw2.setCell (p := ⟨w.heap.size, done.length * 4, none⟩) (Nat.le_refl _) (.int .i64 kids[done.length].kind)).setCell (p := ⟨w.heap.size, done.length * 4 + 1, none⟩) (Nat.le_refl _) (.string kids[done.length].text)).setCell (p := ⟨w.heap.size, done.length * 4 + 2, none⟩) (Nat.le_refl _) (.int .i64 kids[done.length].num)).setCell (p := ⟨w.heap.size, done.length * 4 + 3, none⟩) (Nat.le_refl _) (.slice a kids[done.length].kids.length c)
  have hsz : w3.heap.size = w2.heap.size := by subst h3; simp [World.setCell]
  have hbl : ∀ b, b ≠ w.heap.size → w3.heap[b]? = w2.heap[b]? := by
    intro b hb
    subst h3
    rw [Below.heap_setCell _ _ _ _ hb, Below.heap_setCell _ _ _ _ hb, Below.heap_setCell _ _ _ _ hb, Below.heap_setCell _ _ _ _ hb]
  have hs2 := hb2.size
  have hll := h.len
  have hfl : (bss ++ [nb]).flatten = bss.flatten ++ nb := by simp
  refine ⟨by simp; omega, by simp [hll], fun j hj hj' hj2 => ?_, ?_, ?_, by subst h3; exact R3.1, by omega, by subst h3; exact RB⟩
  · by_cases hjl : j < done.length
    · have hjb : j < bss.length := by omega
      rw [List.getElem_append_left hjl, List.getElem_append_left hjb]
      obtain ⟨h1, h2⟩ := h.kid j hjl hj' hjb
      refine ⟨h1, h2.agree fun b hb => ?_⟩
      have hr := h.range b (List.mem_flatten.2 ⟨_, List.getElem_mem hjb, hb⟩)
      rw [hbl b (by omega), hb2.block b hr.2]
    · have hje : j = done.length := by simp at hj; omega
      subst hje
      rw [List.getElem_append_right (Nat.le_refl _), List.getElem_append_right (by omega)]
      simp only [Nat.sub_self, hll, List.getElem_cons_zero]
      refine ⟨by first | rfl | trivial, hk.agree fun b hb => hbl b (by have := hnb b hb; omega)⟩
  · rw [hfl, List.nodup_append]
    refine ⟨h.nodup, hnd, fun x hx y hy e => ?_⟩
    have := (h.range x hx).2
    have := hnb y hy
    omega
  · intro b hb
    rw [hfl] at hb
    rcases List.mem_append.1 hb with hb | hb
    · have := h.range b hb; omega
    · have := hnb b hb
      have := hk.lt b hb
      omega

set_option maxHeartbeats 1000000 in
theorem toKidsO (d : Nat) (ih : ToO d) (a : Option Addr) (c : Nat) (xs : List Ex) (w : World) (hx : KidsAt w (d + 1) a c xs) (hn : xs.length + wtL xs ≤ 1048576) :
    Calls Tryd.prog 59 #[.slice a xs.length c] w (NewKidsO w (d + 1) xs) := by
  obtain ⟨i0, hi0, hz0, hz1, hz2⟩ := info_parts Tryd.infoExpr
  have hb16 : i0.bytes * xs.length ≤ 281474976710656 := by rw [hz2]; omega
  have hfits := Lib.hid hx.fits
  have hl := hx.len
  go_enter Tryd.func59, Tryd.ntmps59
  go_wp2_with (at_make; refine wpList_make_full _ rfl _ _ 24 rfl w.heap.size 26 i0 (.agg #[.int .i64 0, .string ByteArray.empty, .int .i64 0, .slice none 0 0]) 4 Tryd.underlying24 hi0 hz0 hz1 .i64 .i64 _ _ xs.length rfl rfl rfl rfl hb16 (by unfold maxLen; omega) (Nat.le_refl _) ?_; intro w1 hown hg)
  have hown1 : DoneO w d xs [] [] w1 := by
    refine ⟨Nat.zero_le _, rfl, fun j h => by simp at h, by simp, by simp, ?_, ?_, (Below.refl _ _).grown hg (Nat.le_refl _) (fun k hk => by cases hk)⟩
    · unfold efill
      rw [List.nil_append, List.length_nil, Nat.sub_zero, ecells_none]
      exact hown
    · rcases hown.2 with ⟨h, _⟩ | ⟨g, cap, cur, hv, _, hgg, _⟩
      · cases h
      · simp only [Value.slice.injEq, Option.some.injEq, Addr.mk.injEq] at hv
        rcases Nat.lt_or_ge w.heap.size w1.heap.size with h | h
        · exact h
        · rw [← hv.1.1, Array.getElem?_eq_none h] at hgg; cases hgg
  clear hown hg
  go_loopw [4] (fun i wr => ∃ (done : List Es) (bss : List (List Nat)), i = .int .i64 done.length ∧ DoneO w d xs done bss wr) (fun i _ => xs.length - (intOf i).toNat)
  case atStart => exact ⟨[], [], rfl, hown1⟩
  case round =>
    obtain ⟨done, bss, rfl, hd⟩ := hrel
    by_cases hlt : done.length < xs.length
    · obtain ⟨b, off, rfl, hbl, hc0, hc1, hc2, hfit, a', c', hc3, hkid⟩ := (hx.below hd.bel).spot hlt
      have HK := Lib.hid hkid
      have HD := Lib.hid hd
      clear hkid hx hd
      go_wp2_with fail
      refine (ih xs[done.length] a' c' _ hfit (Nat.le_trans (wtL_get hlt) (by omega)) HK.out).mono ?_
      rintro e w2 ⟨a2, c2, nb, rfl, hk2, hnd2, hnb2, hb2⟩
      have hown2 : w2.ownsRow w.heap.size 26 4 (.slice (some ⟨w.heap.size, 0, none⟩) xs.length xs.length) xs.length (efill done xs.length) := ownsRow_block HD.out.own fun g hg => by cases hg; exact hb2.block _ HD.out.lt
      obtain ⟨hs0, hs1, hs2, hs3⟩ := efill_at done xs.length hlt
      have hd0 : w2.cell? ⟨w.heap.size, done.length * 4, none⟩ = some (.int .i64 0) := (hown2.cellAt _ (by omega)).trans hs0
      have hd1 : w2.cell? ⟨w.heap.size, done.length * 4 + 1, none⟩ = some (.string ByteArray.empty) := (hown2.cellAt _ (by omega)).trans hs1
      have hd2 : w2.cell? ⟨w.heap.size, done.length * 4 + 2, none⟩ = some (.int .i64 0) := (hown2.cellAt _ (by omega)).trans hs2
      have hd3 : w2.cell? ⟨w.heap.size, done.length * 4 + 3, none⟩ = some (.slice none 0 0) := (hown2.cellAt _ (by omega)).trans hs3
      have hf0 : w2.frozen? ⟨w.heap.size, done.length * 4, none⟩ = false := hown2.frozenAt _
      have hf1 : w2.frozen? ⟨w.heap.size, done.length * 4 + 1, none⟩ = false := hown2.frozenAt _
      have hf2 : w2.frozen? ⟨w.heap.size, done.length * 4 + 2, none⟩ = false := hown2.frozenAt _
      have hf3 : w2.frozen? ⟨w.heap.size, done.length * 4 + 3, none⟩ = false := hown2.frozenAt _
      have HS := Lib.hid (HD.out.step hlt hk2 hnd2 hnb2 hb2 rfl)
      clear hown2 hs0 hs1 hs2 hs3 hc0 hc1 hc2 hc3 hbl hk2 hnd2 hnb2 hb2 HD HK
      go_wp2_with fail
      go_roundw
      case rel => exact ⟨done ++ [⟨xs[done.length], a2, c2⟩], bss ++ [nb], by simp, HS.out⟩
      case measure => simp [intOf]; omega
    · have hle := hd.le
      have hee : done.length = xs.length := by omega
      have HE := Lib.hid (hd.end hee (by unfold maxLen; omega) hfits.out)
      have hbl := hd.bel
      clear hd
      go_wp2_with fail
      go_ret
      obtain ⟨bs, h1, h2, h3⟩ := HE.out
      exact ⟨_, _, bs, rfl, h1, h2, h3, hbl⟩

set_option maxHeartbeats 1000000 in
theorem toO : ∀ d, ToO d
  | 0 => fun _ _ _ _ _ _ h => h.elim
  | d + 1 => by
    intro e a c w hfit hwt hk
    have hks := toKidsO d (toO d) a c e.kids
    have hw := Ex.wt_eq e
    have HK := Lib.hid (fun w' (hb : Below w.heap.size w w') => hk.below hb)
    clear hk
    go_enter Tryd.func97, Tryd.ntmps97
    go_wp2_with fail
    refine (hks _ (HK.out _ ?_) (by omega)).mono ?_
    · exact (((Below.refl _ _).alloc (Nat.le_refl _) _).alloc (by simp) _).alloc (by simp; omega) _
    rintro x w2 ⟨a2, c2, bs, rfl, hk2, hnd2, hnb2, hb2⟩
    have hB : Below w.heap.size w w2 := ((((Below.refl _ _).alloc (Nat.le_refl _) _).alloc (by simp) _).alloc (by simp; omega) _).trans (hb2.mono (by simp; omega))
    obtain ⟨hcw, hfw⟩ := bcellE hb2
    have g0 : w2.cell? ⟨w.heap.size + 1 + 1, 0, none⟩ = some (.int .i64 e.kind) := (hcw _ _ (by simp)).trans (by simp [go_sem])
    have g1 : w2.cell? ⟨w.heap.size + 1 + 1, 1, none⟩ = some (.string e.text) := (hcw _ _ (by simp)).trans (by simp [go_sem])
    have g2 : w2.cell? ⟨w.heap.size + 1 + 1, 2, none⟩ = some (.int .i64 e.num) := (hcw _ _ (by simp)).trans (by simp [go_sem])
    have g3 : w2.cell? ⟨w.heap.size + 1 + 1, 3, none⟩ = some (.slice none 0 0) := (hcw _ _ (by simp)).trans (by simp [go_sem])
    have z3 : w2.frozen? ⟨w.heap.size + 1 + 1, 3, none⟩ = false := (hfw _ _ (by simp)).trans (by simp [go_sem])
    have y0 : w2.cell? ⟨w.heap.size + 1, 0, none⟩ = some (.int .i64 0) := (hcw _ _ (by simp)).trans (by simp [go_sem])
    have y1 : w2.cell? ⟨w.heap.size + 1, 1, none⟩ = some (.string ByteArray.empty) := (hcw _ _ (by simp)).trans (by simp [go_sem]; rfl)
    have y2 : w2.cell? ⟨w.heap.size + 1, 2, none⟩ = some (.int .i64 0) := (hcw _ _ (by simp)).trans (by simp [go_sem])
    have y3 : w2.cell? ⟨w.heap.size + 1, 3, none⟩ = some (.slice none 0 0) := (hcw _ _ (by simp)).trans (by simp [go_sem])
    have x0 : w2.frozen? ⟨w.heap.size + 1, 0, none⟩ = false := (hfw _ _ (by simp)).trans (by simp [go_sem])
    have x1 : w2.frozen? ⟨w.heap.size + 1, 1, none⟩ = false := (hfw _ _ (by simp)).trans (by simp [go_sem])
    have x2 : w2.frozen? ⟨w.heap.size + 1, 2, none⟩ = false := (hfw _ _ (by simp)).trans (by simp [go_sem])
    have x3 : w2.frozen? ⟨w.heap.size + 1, 3, none⟩ = false := (hfw _ _ (by simp)).trans (by simp [go_sem])
    have HE : Hid ((∀ w5 : World, (∀ b, w.heap.size + 3 ≤ b → w5.heap[b]? = w2.heap[b]?) → KidsO w5 (d + 1) a2 c2 e.kids bs) ∧ bs.Nodup ∧ ∀ b ∈ bs, w.heap.size + 3 ≤ b) := by
      have hr : ∀ b ∈ bs, w.heap.size + 3 ≤ b := fun b hb => by have := hnb2 b hb; simp at this; omega
      exact ⟨fun w5 h2 => hk2.agree fun b hb => h2 b (hr b hb), hnd2, hr⟩
    have HB := Lib.hid hB
    clear hk2 hb2 hB hcw hfw hnd2 hnb2
    go_wp2_with fail
    refine bodyPost_ret (v := .agg #[.int .i64 e.kind, .string e.text, .int .i64 e.num, .slice a2 e.kids.length c2]) (by simp [results, Tryd.results97, go_sem, *]) rfl ⟨_, _, bs, rfl, HE.out.1 _ ?_, HE.out.2.1, fun b hb => by have := HE.out.2.2 b hb; omega, ?_⟩
    · intro b hb
      have ho : ∀ (wv : World) (q : Addr) (v : Value), q.block < w.heap.size + 3 → (wv.setCell q v).heap[b]? = wv.heap[b]? := fun wv q v hq => Below.heap_setCell _ _ _ _ (by omega)
      exact (ho _ _ _ (by simp)).trans ((ho _ _ _ (by simp)).trans ((ho _ _ _ (by simp)).trans ((ho _ _ _ (by simp)).trans (ho _ _ _ (by simp)))))
    · exact ((((HB.out.setCell (by simp; omega) _).setCell (by simp) _).setCell (by simp) _).setCell (by simp) _).setCell (by simp) _

end Go.Proofs.YtpdcmmhhgnackaaDoor

namespace Go.Proofs.YtpdcmmhhgnackaaDoor
open Go.RowKit

/-- What has turned: the block wb, the block of one row, and new ones. -/
def Turn2 (w w' : World) (wb : Nat) (row : Option Nat) : Prop :=
  w'.os = w.os ∧ w'.tape = w.tape ∧ w'.output = w.output ∧ w.heap.size ≤ w'.heap.size ∧ ∀ k, k < w.heap.size → k ≠ wb → some k ≠ row → w'.heap[k]? = w.heap[k]?

/-- The texts collected so far lie in a row of their own, to which the cell of block wb points. -/
structure Coll (wb B : Nat) (a : Option Addr) (c : Nat) (outs : List ByteArray) (w : World) : Prop where
  cell : w.cell? ⟨wb, 0, none⟩ = some (.slice a outs.length c)
  frozen : w.frozen? ⟨wb, 0, none⟩ = false
  own : Own w B a c outs
  lt : wb < B
  le : B ≤ w.heap.size

theorem Coll.wlt {wb B : Nat} {a : Option Addr} {c : Nat} {outs : List ByteArray} {w : World} (h : Coll wb B a c outs w) : wb < w.heap.size := Nat.lt_of_lt_of_le h.lt h.le

theorem Coll.below {wb B : Nat} {a : Option Addr} {c : Nat} {outs : List ByteArray} {w w' : World} (h : Coll wb B a c outs w) (hb : Below w.heap.size w w') : Coll wb B a c outs w' :=
  ⟨(hb.cell (p := ⟨wb, 0, none⟩) h.wlt).trans h.cell, (hb.frozen (p := ⟨wb, 0, none⟩) h.wlt).trans h.frozen, h.own.below hb, h.lt, Nat.le_trans h.le hb.size⟩

/-- One text more. -/
theorem coll_more {wb B : Nat} {a a' : Option Addr} {c c' : Nat} {outs : List ByteArray} {s : ByteArray} {w w1 w2 w3 : World} (h : Coll wb B a c outs w) (hb : Below w.heap.size w w1)
    (hown : Own w2 B a' c' (outs ++ [s])) (hg : w1.grownBy w2 (Value.slice a outs.length c).ownBlock) (hat : (Value.slice a' (outs ++ [s]).length c').ownBlock = (Value.slice a outs.length c).ownBlock ∨ (Value.slice a' (outs ++ [s]).length c').ownBlock = some w1.heap.size)
    {n : Nat} (hn : n = (outs ++ [s]).length) (h3 : w3 = w2.setCell ⟨wb, 0, none⟩ (.slice a' n c')) :
    Coll wb B a' c' (outs ++ [s]) w3 ∧ Turn2 w w3 wb (Value.slice a outs.length c).ownBlock ∧ ((Value.slice a' (outs ++ [s]).length c').ownBlock = (Value.slice a outs.length c).ownBlock ∨ ∃ g, (Value.slice a' (outs ++ [s]).length c').ownBlock = some g ∧ w.heap.size ≤ g) := by
  subst hn h3
  have hlt := h.lt
  have hle := h.le
  have h1s := hb.size
  have h2s := hg.size
  have hne : some wb ≠ (Value.slice a outs.length c).ownBlock := fun e => by have := (h.own.lt e.symm).1; omega
  have hne' : ∀ g, (Value.slice a' (outs ++ [s]).length c').ownBlock = some g → g ≠ wb := fun g e => by have := (hown.lt e).1; omega
  have hcell : w2.cell? ⟨wb, 0, none⟩ = some (.slice a outs.length c) := (hg.cell_far ⟨wb, 0, none⟩ (by show wb < _; omega) hne).trans ((hb.cell (p := ⟨wb, 0, none⟩) h.wlt).trans h.cell)
  have hfz : w2.frozen? ⟨wb, 0, none⟩ = false := (hg.frozen_far ⟨wb, 0, none⟩ (by show wb < _; omega) hne).trans ((hb.frozen (p := ⟨wb, 0, none⟩) h.wlt).trans h.frozen)
  refine ⟨⟨World.cell?_setCell_same _ _ _ hcell, by rw [World.frozen?_setCell]; exact hfz, ?_, hlt, by simp [World.setCell]; omega⟩, ⟨?_, ?_, ?_, by simp [World.setCell]; omega, fun k hk hkw hkr => ?_⟩, ?_⟩
  · exact ownsRow_block hown fun g hg' => Below.heap_setCell _ _ _ _ (hne' g hg')
  · rw [← hb.os, ← hg.os]; rfl
  · rw [← hb.tape, ← hg.tape]; rfl
  · rw [← hb.output, ← hg.output]; rfl
  · rw [Below.heap_setCell _ _ _ _ hkw, hg.block k (by omega) hkr, hb.block k hk]
  · rcases hat with e | e
    · exact .inl e
    · exact .inr ⟨_, e, hb.size⟩

def SeesC (w : World) (wb B : Nat) (a : Option Addr) (c : Nat) (outs : List ByteArray) (e : Ex) (x : Ending) (w' : World) : Prop :=
  x = .returned (.tuple #[]) ∧ ∃ a' c', Coll wb B a' c' (outs ++ own1 e) w' ∧ Turn2 w w' wb (Value.slice a outs.length c).ownBlock ∧
    ((Value.slice a' (outs ++ own1 e).length c').ownBlock = (Value.slice a outs.length c).ownBlock ∨ ∃ g, (Value.slice a' (outs ++ own1 e).length c').ownBlock = some g ∧ w.heap.size ≤ g)

theorem below_turn2 {w w' : World} (hb : Below w.heap.size w w') (wb : Nat) (row : Option Nat) : Turn2 w w' wb row := ⟨hb.os, hb.tape, hb.output, hb.size, fun k hk _ _ => hb.block k hk⟩

/-- append of one text, and where the new row lies. -/
theorem wpAppendOne {w : World} {ops : Array Oper} {rest : List Oper} {o : Oper} {A : Act} {Q : Exit → Act → World → Prop} (hgd : o.guard = none) (s x : Operand)
    (ho : o.op = .call { callee := .builtin .append, args := #[s, x], argTypes := #[33, 33] })
    (i0 : TypeInfo) (hi0 : Tryd.prog.info? 9 = some i0) (hz0 : i0.zero = some (.string ByteArray.empty)) (hz1 : i0.size = 1) (hz2 : i0.bytes = 16)
    (B : Nat) (a : Option Addr) (c : Nat) (xs : List ByteArray) (y : ByteArray) (w0 : World) (hw : w = w0.alloc (.cells #[.string y] 9))
    (hs : A.eval s = .slice a xs.length c) (hown : Own w0 B a c xs) (hx : A.eval x = .slice (some ⟨w0.heap.size, 0, none⟩) 1 1)
    (hn : xs.length + 1 ≤ 8388608) (hB : B ≤ w0.heap.size)
    (h : ∀ a' c' w', Hid (Own w' B a' c' (xs ++ [y]) ∧ w.grownBy w' (Value.slice a xs.length c).ownBlock ∧ ((Value.slice a' (xs ++ [y]).length c').ownBlock = (Value.slice a xs.length c).ownBlock ∨ (Value.slice a' (xs ++ [y]).length c').ownBlock = some w.heap.size)) → wpList Tryd.prog ops Q rest (A.put o.dst (.slice a' (xs.length + 1) c')) w') :
    wpList Tryd.prog ops Q (o :: rest) A w := by
  subst hw
  have hown1 : Own (w0.alloc (.cells #[.string y] 9)) B a c xs := hown.alloc _
  refine wpList_append_own_at _ hgd s x 33 ho B 9 i0 (.string ByteArray.empty) 1 16 Tryd.underlying33 hi0 hz0 hz1 hz2 rfl (by decide) (.slice a xs.length c) xs.length (xs.map Value.string) hs hown1
    ⟨w0.heap.size, 0, none⟩ 1 1 [.string y] hx rfl (cell_one_new _ _ _) (fun u hu => by simp at hu; subst hu; rfl) (by unfold maxLen; omega) (by omega) (by simp; omega) ?_
  intro v' w' hown' hg _ hat
  obtain ⟨a', c', rfl⟩ : ∃ a' c', v' = .slice a' (xs.length + 1) c' := by
    rcases hown'.2 with ⟨_, h0⟩ | ⟨g, cap, cur, rfl, _⟩
    · omega
    · exact ⟨_, _, rfl⟩
  refine h a' c' w' ⟨?_, hg, ?_⟩
  · unfold Own; simpa using hown'
  · simpa using hat

set_option maxRecDepth 100000 in
set_option maxHeartbeats 1000000 in
theorem colSees (wb B : Nat) (a : Option Addr) (c : Nat) (outs : List ByteArray) (e : Ex) (ak : Option Addr) (ck : Nat) (w : World) (hC : Coll wb B a c outs w) (hn : outs.length + 1 ≤ 8388608) :
    Calls Tryd.prog 32 #[.agg #[.int .i64 e.kind, .string e.text, .int .i64 e.num, .slice ak e.kids.length ck], .pointer (some ⟨wb, 0, none⟩)] w (SeesC w wb B a c outs e) := by
  obtain ⟨i0, hi0, hz0, hz1, hz2⟩ := info_parts Tryd.infoString
  have hc := hC.cell
  have hz := hC.frozen
  have hwl := hC.wlt
  have hB0 := fun o => (Below.refl w.heap.size w).alloc (Nat.le_refl _) o
  have HB0 := Lib.hid hB0
  have HC := Lib.hid hC
  clear hC hB0
  by_cases h0 : e.kind = 0
  · have hk0 : (e.kind == 0) = true := by simp [h0]
    have HO : Hid (own1 e = [e.text]) := by unfold Hid own1; rw [if_pos h0]
    clear h0
    go_enter Tryd.func32, Tryd.ntmps32
    have hbb : Below w.heap.size w ((w.alloc (.cells #[.int .i64 e.kind, .string e.text, .int .i64 e.num, .slice ak e.kids.length ck] 26)).alloc (.cells #[.string e.text] 9)) := (HB0.out _).alloc (by simp) _
    have HBB := Lib.hid hbb
    have HOA := Lib.hid (HC.out.own.alloc (.cells #[.int .i64 e.kind, .string e.text, .int .i64 e.num, .slice ak e.kids.length ck] 26))
    have HBl : Hid (B ≤ (w.alloc (.cells #[.int .i64 e.kind, .string e.text, .int .i64 e.num, .slice ak e.kids.length ck] 26)).heap.size) := by have := HC.out.le; unfold Hid; simp; omega
    clear hbb
    go_wp2_with (at_builtin; (refine wpAppendOne rfl (.tmp 6) (.tmp 9) rfl i0 hi0 hz0 hz1 hz2 B a c outs e.text (w.alloc (.cells #[.int .i64 e.kind, .string e.text, .int .i64 e.num, .slice ak e.kids.length ck] 26)) rfl rfl HOA.out (by simp [Act.eval]) hn HBl.out ?_; intro a2 c2 w2 H2; have hcw : w2.cell? ⟨wb, 0, none⟩ = some (.slice a outs.length c) := (H2.out.2.1.cell_far ⟨wb, 0, none⟩ (Nat.lt_of_lt_of_le hwl HBB.out.size) (fun e => by have := (HC.out.own.lt e.symm).1; have := HC.out.lt; simp only at *; omega)).trans ((HBB.out.cell (p := ⟨wb, 0, none⟩) hwl).trans hc); have hfw : w2.frozen? ⟨wb, 0, none⟩ = false := (H2.out.2.1.frozen_far ⟨wb, 0, none⟩ (Nat.lt_of_lt_of_le hwl HBB.out.size) (fun e => by have := (HC.out.own.lt e.symm).1; have := HC.out.lt; simp only at *; omega)).trans ((HBB.out.frozen (p := ⟨wb, 0, none⟩) hwl).trans hz)))
    refine bodyPost_end (results_none rfl _ _ _) rfl ?_
    have := coll_more HC.out HBB.out H2.out.1 H2.out.2.1 H2.out.2.2 (n := outs.length + 1) (by simp) rfl
    rw [← HO.out] at this
    exact ⟨rfl, a2, c2, this.1, this.2.1, this.2.2⟩
  · have hk0 : (e.kind == 0) = false := by simp [h0]
    have HO : Hid (own1 e = []) := by unfold Hid own1; rw [if_neg h0]
    clear h0
    go_enter Tryd.func32, Tryd.ntmps32
    go_wp2_with fail
    refine bodyPost_end (results_none rfl _ _ _) rfl ?_
    exact ⟨rfl, a, c, by rw [HO.out, List.append_nil]; exact HC.out.below (HB0.out _), below_turn2 (HB0.out _) _ _, .inl (by rw [HO.out, List.append_nil])⟩

end Go.Proofs.YtpdcmmhhgnackaaDoor
