/- The order of texts by their bytes. -/
/- The columns of an expression, as lists of texts; the rising list of them. -/
import Derived.WalkKit
import Derived.Lib.Strings
import Derived.Test.YtefjjcoaeanagaaDoorMEx
import Derived.Test.YtefjjcoaeanagaaDoorPut
import Derived.Lib.SlicesCompact
import Derived.Sort.Walk0
namespace Go.Proofs.YtefjjcoaeanagaaDoor
open Go.RowKit

theorem less_trans : ∀ (a b c : List UInt8), Op.bytesLess a b = true → Op.bytesLess b c = true → Op.bytesLess a c = true
  | _, _, [], _, h => by simp [Op.bytesLess] at h
  | [], _, _ :: _, _, _ => by simp [Op.bytesLess]
  | _ :: _, [], _ :: _, h, _ => by simp [Op.bytesLess] at h
  | x :: a, y :: b, z :: c, h1, h2 => by
    simp only [Op.bytesLess, Bool.or_eq_true, Bool.and_eq_true, decide_eq_true_eq, beq_iff_eq] at h1 h2 ⊢
    rcases h1 with h1 | ⟨rfl, h1⟩
    · rcases h2 with h2 | ⟨rfl, h2⟩
      · exact .inl (UInt8.lt_trans h1 h2)
      · exact .inl h1
    · rcases h2 with h2 | ⟨rfl, h2⟩
      · exact .inl h2
      · exact .inr ⟨rfl, less_trans a b c h1 h2⟩

theorem less_total : ∀ (a b : List UInt8), Op.bytesLess a b = false → (a == b) = false → Op.bytesLess b a = true
  | a, [], _, h => by cases a <;> simp [Op.bytesLess] at h ⊢
  | [], _ :: _, h, _ => by simp [Op.bytesLess] at h
  | x :: a, y :: b, h1, h2 => by
    simp only [Op.bytesLess, Bool.or_eq_false_iff, decide_eq_false_iff_not] at h1
    simp only [Op.bytesLess, Bool.or_eq_true, Bool.and_eq_true, decide_eq_true_eq, beq_iff_eq]
    obtain ⟨hn, hr⟩ := h1
    by_cases hxy : x = y
    · subst hxy
      refine .inr ⟨rfl, less_total a b (by simpa using hr) ?_⟩
      rw [beq_eq_false_iff_ne] at h2 ⊢
      intro e
      exact h2 (by rw [e])
    · refine .inl ?_
      rw [UInt8.lt_iff_toNat_lt] at hn ⊢
      have : x.toNat ≠ y.toNat := fun e => hxy (UInt8.toNat_inj.1 e)
      omega

theorem less_irrefl (a : List UInt8) : Op.bytesLess a a = false := by
  induction a with
  | nil => rfl
  | cons x a ih => simp [Op.bytesLess, ih]

theorem less_asym (a b : List UInt8) (h : Op.bytesLess a b = true) : Op.bytesLess b a = false ∧ (a == b) = false := by
  constructor
  · cases h2 : Op.bytesLess b a with
    | false => rfl
    | true =>
      have := less_trans a b a h h2
      rw [less_irrefl] at this
      cases this
  · rw [beq_eq_false_iff_ne]
    rintro rfl
    rw [less_irrefl] at h
    cases h

/-- Of two texts one is ahead, or they are one. -/
theorem less_three (a b : List UInt8) : (Op.bytesLess a b = true ∧ Op.bytesLess b a = false ∧ (a == b) = false) ∨ (Op.bytesLess a b = false ∧ Op.bytesLess b a = true ∧ (a == b) = false) ∨ (Op.bytesLess a b = false ∧ Op.bytesLess b a = false ∧ (a == b) = true) := by
  cases h1 : Op.bytesLess a b with
  | true => exact .inl ⟨rfl, less_asym a b h1⟩
  | false =>
    cases h2 : (a == b) with
    | true =>
      have e : a = b := by simpa using h2
      subst e
      exact .inr (.inr ⟨rfl, h1, rfl⟩)
    | false => exact .inr (.inl ⟨rfl, less_total a b h1 h2, rfl⟩)

end Go.Proofs.YtefjjcoaeanagaaDoor

namespace Go.Proofs.YtefjjcoaeanagaaDoor
open Go.RowKit

/-- A node's own column. -/
def own1 (e : Ex) : List ByteArray := if e.kind = 0 then [e.text] else []

mutual
/-- All columns, as they stand. -/
def Ex.cols : Ex → List ByteArray
  | .mk k t n kids => own1 (.mk k t n kids) ++ colsL kids
def colsL : List Ex → List ByteArray
  | [] => []
  | e :: r => e.cols ++ colsL r
end

theorem Ex.cols_eq (e : Ex) : e.cols = own1 e ++ colsL e.kids := by
  cases e; rw [Ex.cols]; rfl

def putAll (xs ys : List ByteArray) : List ByteArray := ys.foldl putL xs

theorem putAll_take (xs ys : List ByteArray) (k : Nat) (h : k < ys.length) : putAll xs (ys.take (k + 1)) = putL (putAll xs (ys.take k)) ys[k] := by
  unfold putAll
  rw [List.take_succ_eq_append_getElem h, List.foldl_append]
  rfl

mutual
/-- What spec.Columns answers. -/
def Ex.ucols : Ex → List ByteArray
  | .mk k t n kids => ucolsL (own1 (.mk k t n kids)) kids
def ucolsL : List ByteArray → List Ex → List ByteArray
  | out, [] => out
  | out, e :: r => ucolsL (putAll out e.ucols) r
end

theorem Ex.ucols_eq (e : Ex) : e.ucols = ucolsL (own1 e) e.kids := by
  cases e; rw [Ex.ucols]; rfl

theorem ucolsL_take (out : List ByteArray) (l : List Ex) (k : Nat) (h : k < l.length) : ucolsL out (l.take (k + 1)) = putAll (ucolsL out (l.take k)) l[k].ucols := by
  induction l generalizing k out with
  | nil => simp at h
  | cons e r ih =>
    cases k with
    | zero => simp [ucolsL]
    | succ k =>
      simp only [List.take_succ_cons, ucolsL, List.getElem_cons_succ]
      exact ih _ k (by simpa using h)

def ris (xs : List ByteArray) : Prop := xs.Pairwise fun a b => lessB a b = true

theorem ris_put (xs : List ByteArray) (s : ByteArray) (h : ris xs) : ris (putL xs s) := by
  induction xs with
  | nil => simp [putL, ris]
  | cons x r ih =>
    obtain ⟨h1, h2⟩ := List.pairwise_cons.1 h
    rw [putL]
    split
    · rename_i hl
      refine List.pairwise_cons.2 ⟨fun y hy => ?_, ih h2⟩
      rcases putL_mem hy with rfl | hy
      · exact hl
      · exact h1 y hy
    · split
      · rename_i _ he
        have : x = s := ba_eq he
        subst this
        exact h
      · rename_i hl he
        have hsx : lessB s x = true := less_total _ _ (by simpa [lessB] using hl) (by simpa using he)
        refine List.pairwise_cons.2 ⟨fun y hy => ?_, h⟩
        rcases List.mem_cons.1 hy with rfl | hy
        · exact hsx
        · exact less_trans _ _ _ hsx (h1 y hy)

theorem put_mem (xs : List ByteArray) (s t : ByteArray) : t ∈ putL xs s ↔ t = s ∨ t ∈ xs := by
  refine ⟨putL_mem, fun h => ?_⟩
  induction xs with
  | nil => simpa [putL] using h
  | cons x r ih =>
    rw [putL]
    split
    · rcases h with h | h
      · exact List.mem_cons_of_mem _ (ih (.inl h))
      · rcases List.mem_cons.1 h with rfl | h
        · exact List.mem_cons_self ..
        · exact List.mem_cons_of_mem _ (ih (.inr h))
    · split
      · rename_i _ he
        have : x = s := ba_eq he
        subst this
        rcases h with rfl | h
        · exact List.mem_cons_self ..
        · exact h
      · rcases h with rfl | h
        · exact List.mem_cons_self ..
        · exact List.mem_cons_of_mem _ h

theorem putAll_facts (ys xs : List ByteArray) : (ris xs → ris (putAll xs ys)) ∧ (∀ t, t ∈ putAll xs ys ↔ t ∈ xs ∨ t ∈ ys) ∧ (putAll xs ys).length ≤ xs.length + ys.length := by
  induction ys generalizing xs with
  | nil => exact ⟨id, fun t => by simp [putAll], by simp [putAll]⟩
  | cons y r ih =>
    obtain ⟨h1, h2, h3⟩ := ih (putL xs y)
    have e : putAll xs (y :: r) = putAll (putL xs y) r := rfl
    rw [e]
    refine ⟨fun h => h1 (ris_put xs y h), fun t => ?_, ?_⟩
    · rw [h2, put_mem, List.mem_cons]
      constructor
      · rintro ((h | h) | h)
        · exact .inr (.inl h)
        · exact .inl h
        · exact .inr (.inr h)
      · rintro (h | h | h)
        · exact .inl (.inr h)
        · exact .inl (.inl h)
        · exact .inr h
    · have := putL_len xs y
      rw [List.length_cons]
      omega

theorem own1_facts (e : Ex) : ris (own1 e) ∧ (own1 e).length ≤ 1 ∧ (∀ t ∈ own1 e, t = e.text) := by
  unfold own1
  split
  · exact ⟨by simp [ris], by simp, by simp⟩
  · exact ⟨by simp [ris], by simp, by simp⟩

mutual
theorem ucols_facts : (e : Ex) → ris e.ucols ∧ (∀ t, t ∈ e.ucols ↔ t ∈ e.cols) ∧ e.ucols.length ≤ e.nodes
  | .mk k t n kids => by
    obtain ⟨h1, h2, h3⟩ := ucolsL_facts kids (own1 (.mk k t n kids))
    obtain ⟨o1, o2, o3⟩ := own1_facts (.mk k t n kids)
    rw [Ex.ucols, Ex.cols, Ex.nodes]
    exact ⟨h1 o1, fun t => by rw [h2, List.mem_append], by omega⟩
theorem ucolsL_facts : (l : List Ex) → (out : List ByteArray) → (ris out → ris (ucolsL out l)) ∧ (∀ t, t ∈ ucolsL out l ↔ t ∈ out ∨ t ∈ colsL l) ∧ (ucolsL out l).length ≤ out.length + nodesL l
  | [], out => ⟨id, fun t => by simp [ucolsL, colsL], by simp [ucolsL, nodesL]⟩
  | e :: r, out => by
    obtain ⟨e1, e2, e3⟩ := ucols_facts e
    obtain ⟨p1, p2, p3⟩ := putAll_facts e.ucols out
    obtain ⟨h1, h2, h3⟩ := ucolsL_facts r (putAll out e.ucols)
    rw [ucolsL, colsL, nodesL]
    exact ⟨fun h => h1 (p1 h), fun t => by rw [h2, p2, e2, List.mem_append, or_assoc], by omega⟩
end

theorem less_self (a : ByteArray) : lessB a a = false := less_irrefl _

/-- A rising list is told by what stands in it. -/
theorem ris_ext : ∀ {xs ys : List ByteArray}, ris xs → ris ys → (∀ t, t ∈ xs ↔ t ∈ ys) → xs = ys
  | [], [], _, _, _ => rfl
  | [], y :: r, _, _, h => absurd ((h y).2 (by simp)) (by simp)
  | x :: r, [], _, _, h => absurd ((h x).1 (by simp)) (by simp)
  | x :: r, y :: s, hx, hy, h => by
    obtain ⟨x1, x2⟩ := List.pairwise_cons.1 hx
    obtain ⟨y1, y2⟩ := List.pairwise_cons.1 hy
    have hxy : x = y := by
      rcases List.mem_cons.1 ((h x).1 (by simp)) with e | e
      · exact e
      · rcases List.mem_cons.1 ((h y).2 (by simp)) with e' | e'
        · exact e'.symm
        · have a3 : lessB y y = true := less_trans _ _ _ (y1 x e) (x1 y e')
          rw [less_self] at a3
          cases a3
    subst hxy
    rw [ris_ext x2 y2 ?_]
    intro t
    constructor
    · intro ht
      rcases List.mem_cons.1 ((h t).1 (List.mem_cons_of_mem _ ht)) with rfl | h2
      · have a3 := x1 t ht
        rw [less_self] at a3
        cases a3
      · exact h2
    · intro ht
      rcases List.mem_cons.1 ((h t).2 (List.mem_cons_of_mem _ ht)) with rfl | h2
      · have a3 := y1 t ht
        rw [less_self] at a3
        cases a3
      · exact h2

/-- What slices.Sort and slices.Compact leave. -/
def sortU (zs : List (List UInt8)) : List (List UInt8) := Lib.compact (zs.mergeSort fun x y => decide (x ≤ y))
def ba (l : List UInt8) : ByteArray := ⟨l.toArray⟩
def la (s : ByteArray) : List UInt8 := s.data.toList
theorem ba_la (s : ByteArray) : ba (la s) = s := by unfold ba la; apply ByteArray.ext; simp
theorem la_ba (l : List UInt8) : la (ba l) = l := by simp [ba, la]

theorem le_less (x y : List UInt8) : decide (x ≤ y) = !Op.bytesLess y x := by
  rw [Go.Proofs.bytesLess_eq]
  by_cases h : y < x
  · rw [decide_eq_true h, decide_eq_false (fun hle => absurd h (List.not_lt.2 hle))]; rfl
  · rw [decide_eq_false h, decide_eq_true (List.not_lt.1 h)]; rfl

theorem le_trans_less (a b c : List UInt8) (h1 : Op.bytesLess b a = false) (h2 : Op.bytesLess c b = false) : Op.bytesLess c a = false := by
  cases hca : Op.bytesLess c a with
  | false => rfl
  | true =>
    by_cases hab : (b == a) = true
    · have : b = a := by simpa using hab
      subst this
      rw [hca] at h2
      cases h2
    · have := less_total b a h1 (by simpa using hab)
      rw [less_trans _ _ _ hca this] at h2
      cases h2

theorem sorted_pair (zs : List (List UInt8)) : (zs.mergeSort fun x y => decide (x ≤ y)).Pairwise fun a b => Op.bytesLess b a = false := by
  have := List.pairwise_mergeSort (le := fun x y : List UInt8 => decide (x ≤ y)) (fun a b c h1 h2 => by
    rw [le_less] at h1 h2 ⊢
    rw [le_trans_less a b c (by simpa using h1) (by simpa using h2)]
    rfl) (fun a b => by
    rw [le_less, le_less]
    cases h : Op.bytesLess b a with
    | false => rfl
    | true => rw [(less_asym _ _ h).1]; rfl) zs
  refine this.imp fun h => ?_
  rw [le_less] at h
  simpa using h

theorem compact_mem (zs : List (List UInt8)) (t : List UInt8) : t ∈ Lib.compact zs ↔ t ∈ zs := by
  unfold Lib.compact Lib.compactUpTo
  constructor
  · intro h
    obtain ⟨m, hm, rfl⟩ := List.mem_map.1 h
    have hm' := List.mem_range.1 (List.mem_filter.1 hm).1
    simp [hm']
  · intro h
    obtain ⟨m, hm, rfl⟩ := List.mem_iff_getElem.1 h
    induction m with
    | zero => exact List.mem_map.2 ⟨0, List.mem_filter.2 ⟨List.mem_range.2 hm, by simp [Lib.keeps]⟩, by simp [hm]⟩
    | succ m ih =>
      by_cases he : zs[m + 1] = zs[m]
      · rw [he]
        exact ih (by omega) (List.getElem_mem _)
      · refine List.mem_map.2 ⟨m + 1, List.mem_filter.2 ⟨List.mem_range.2 hm, Lib.keeps_pos ?_⟩, by simp [hm]⟩
        simpa [hm, show m < zs.length by omega] using he

theorem compact_ris (zs : List (List UInt8)) (h : zs.Pairwise fun a b => Op.bytesLess b a = false) : (Lib.compact zs).Pairwise fun a b => Op.bytesLess a b = true := by
  unfold Lib.compact Lib.compactUpTo
  rw [List.pairwise_map, List.pairwise_filter]
  have hr : (List.range zs.length).Pairwise (· < ·) := List.pairwise_lt_range
  refine List.Pairwise.imp_of_mem (R := (· < ·)) ?_ hr
  intro i j hi hj hlt _ hkj
  have hi' := List.mem_range.1 hi
  have hj' := List.mem_range.1 hj
  have hne : zs[j] ≠ zs[j - 1] := by
    intro e
    rw [Lib.keeps_neg (d := zs.toArray) (m := j) (by omega) (by simpa [hj', show j - 1 < zs.length by omega] using e)] at hkj
    cases hkj
  have h1 : Op.bytesLess zs[j] zs[j - 1] = false := List.pairwise_iff_getElem.1 h (j - 1) j (by omega) hj' (by omega)
  have h2 : Op.bytesLess zs[j - 1] zs[j] = true := less_total _ _ h1 (by simpa using hne)
  have h3 : i = j - 1 ∨ Op.bytesLess zs[j - 1] zs[i] = false := by
    rcases Nat.lt_or_ge i (j - 1) with hlt2 | hge
    · exact .inr (List.pairwise_iff_getElem.1 h i (j - 1) hi' (by omega) hlt2)
    · exact .inl (by omega)
  have h4 : Op.bytesLess zs[i] zs[j] = true := by
    rcases h3 with rfl | h3
    · exact h2
    · by_cases he : zs[j - 1] = zs[i]
      · rw [← he]; exact h2
      · exact less_trans _ _ _ (less_total _ _ h3 (by simpa using he)) h2
  simpa [hi', hj'] using h4

/-- The list that impl.Columns makes is the one that spec.Columns makes, in whatever order the nodes were seen. -/
theorem sortU_eq (e : Ex) (xs : List ByteArray) (h : ∀ t, t ∈ xs ↔ t ∈ e.cols) : (sortU (xs.map la)).map ba = e.ucols := by
  obtain ⟨h1, h2, _⟩ := ucols_facts e
  refine ris_ext ?_ h1 fun t => ?_
  · unfold ris
    rw [List.pairwise_map]
    refine (compact_ris _ (sorted_pair _)).imp fun h => ?_
    unfold lessB ba
    rw [Lib.toList_data, Lib.toList_data]
    simpa using h
  · rw [h2, ← h, List.mem_map]
    unfold sortU
    constructor
    · rintro ⟨l, hl, rfl⟩
      rw [compact_mem, List.mem_mergeSort] at hl
      obtain ⟨s, hs, rfl⟩ := List.mem_map.1 hl
      rw [ba_la]; exact hs
    · intro ht
      exact ⟨la t, by rw [compact_mem, List.mem_mergeSort]; exact List.mem_map.2 ⟨t, ht, rfl⟩, ba_la t⟩

mutual
theorem cols_wt : (e : Ex) → ∀ t ∈ e.cols, t.size ≤ e.wt
  | .mk k t n kids => by
    intro s hs
    rw [Ex.cols] at hs
    rw [Ex.wt]
    rcases List.mem_append.1 hs with h | h
    · have := (own1_facts (.mk k t n kids)).2.2 s h
      rw [this]
      show t.size ≤ _
      omega
    · have := colsL_wt kids s h
      omega
theorem colsL_wt : (l : List Ex) → ∀ t ∈ colsL l, t.size ≤ wtL l
  | [] => by simp [colsL]
  | e :: r => by
    intro s hs
    rw [colsL] at hs
    rw [wtL]
    rcases List.mem_append.1 hs with h | h
    · have := cols_wt e s h; omega
    · have := colsL_wt r s h; omega
end

theorem ucols_wt (e : Ex) : ∀ t ∈ e.ucols, t.size ≤ e.wt := fun t ht => cols_wt e t (((ucols_facts e).2.1 t).1 ht)

theorem colsL_take (l : List Ex) (k : Nat) : ∀ t ∈ colsL (l.take k), t ∈ colsL l := by
  induction l generalizing k with
  | nil => simp
  | cons e r ih =>
    cases k with
    | zero => simp [colsL]
    | succ k =>
      intro t ht
      simp only [List.take_succ_cons, colsL] at ht ⊢
      rcases List.mem_append.1 ht with h | h
      · exact List.mem_append_left _ h
      · exact List.mem_append_right _ (ih k t h)

theorem nodesL_takeC (l : List Ex) (k : Nat) : nodesL (l.take k) ≤ nodesL l := by
  induction l generalizing k with
  | nil => simp
  | cons x r ih =>
    cases k with
    | zero => simp [nodesL]
    | succ k => simp only [List.take_succ_cons, nodesL]; have := ih k; omega

/-- The texts on the way are small, and few. -/
theorem ucolsL_on (e : Ex) (k : Nat) : (∀ t ∈ ucolsL (own1 e) (e.kids.take k), t.size ≤ e.wt) ∧ (ucolsL (own1 e) (e.kids.take k)).length ≤ e.nodes := by
  obtain ⟨_, h2, h3⟩ := ucolsL_facts (e.kids.take k) (own1 e)
  refine ⟨fun t ht => cols_wt e t ?_, ?_⟩
  · rw [Ex.cols_eq]
    rcases (h2 t).1 ht with h | h
    · exact List.mem_append_left _ h
    · exact List.mem_append_right _ (colsL_take _ k t h)
  · have h4 := (own1_facts e).2.1
    have h5 := Ex.nodes_eq e
    have h6 := nodesL_takeC e.kids k
    omega

theorem putAll_on (xs ys : List ByteArray) (k N : Nat) (hx : ∀ t ∈ xs, t.size ≤ N) (hy : ∀ t ∈ ys, t.size ≤ N) : (∀ t ∈ putAll xs (ys.take k), t.size ≤ N) ∧ (putAll xs (ys.take k)).length ≤ xs.length + ys.length := by
  obtain ⟨_, h2, h3⟩ := putAll_facts (ys.take k) xs
  refine ⟨fun t ht => ?_, by simp at h3; omega⟩
  rcases (h2 t).1 ht with h | h
  · exact hx t h
  · exact hy t (List.mem_of_mem_take h)

end Go.Proofs.YtefjjcoaeanagaaDoor
