/- spec.TableUse. Written by tools/gen_useTS.py. -/
import Derived.Test.YtjjdcdnaonfnmaaGreatMUseNB
namespace Go.Proofs.YtjjdcdnaonfnmaaGreat
open Go.RowKit

theorem wtS_in {X : Type} (f : X → Nat) {xs : List X} {x : X} (h : x ∈ xs) : f x ≤ wtS f xs := by
  obtain ⟨i, hi, rfl⟩ := List.mem_iff_getElem.1 h
  exact wtS_get f hi

/-- What a table puts: its own name, once for each rule that refers. -/
def refK (n : ByteArray) (t : Tb) (j : Nat) : List ByteArray := if (t.name.toList == n.toList) = true then [] else ((t.rules.take j).filter (isRefB n)).map (fun _ => t.name)
def refF (n : ByteArray) (t : Tb) : List ByteArray := refK n t t.rules.length
def refA (n : ByteArray) (x : Pl) (k : Nat) : List ByteArray := (x.tables.take k).flatMap (refF n)
def spL2 (n : ByteArray) (x : Pl) (k : Nat) : List ByteArray := refA n x x.tables.length ++ ((x.indexes.take k).filter (onIx n)).map Ix.name
def spL3 (n : ByteArray) (x : Pl) (k : Nat) : List ByteArray := spL2 n x x.indexes.length ++ ((x.views.take k).filter (onVw n)).map Vw.name

theorem refK_step (n : ByteArray) (t : Tb) (j : Nat) (h : j < t.rules.length) : refK n t (j + 1) = refK n t j ++ (if (!(t.name.toList == n.toList) && isRefB n t.rules[j]) = true then [t.name] else []) := by
  unfold refK
  cases hc : (t.name.toList == n.toList) with
  | true => simp
  | false =>
    rw [if_neg (by decide), if_neg (by decide), take_filter _ _ _ h, List.map_append]
    cases h2 : isRefB n t.rules[j] <;> simp

theorem refA_step (n : ByteArray) (x : Pl) (k : Nat) (h : k < x.tables.length) : refA n x (k + 1) = refA n x k ++ refF n x.tables[k] := take_flat _ _ _ h
theorem spL2_step (n : ByteArray) (x : Pl) (k : Nat) (h : k < x.indexes.length) : spL2 n x (k + 1) = spL2 n x k ++ (if onIx n x.indexes[k] = true then [x.indexes[k].name] else []) := by
  unfold spL2
  rw [take_filter _ _ _ h, List.map_append, ← List.append_assoc]
  split <;> simp
theorem spL3_step (n : ByteArray) (x : Pl) (k : Nat) (h : k < x.views.length) : spL3 n x (k + 1) = spL3 n x k ++ (if onVw n x.views[k] = true then [x.views[k].name] else []) := by
  unfold spL3
  rw [take_filter _ _ _ h, List.map_append, ← List.append_assoc]
  split <;> simp
theorem spL2_zero (n : ByteArray) (x : Pl) : spL2 n x 0 = refA n x x.tables.length := by unfold spL2; simp
theorem spL3_zero (n : ByteArray) (x : Pl) : spL3 n x 0 = spL2 n x x.indexes.length := by unfold spL3; simp

theorem refK_ok (n : ByteArray) (t : Tb) (j : Nat) : (refK n t j).length ≤ t.rules.length ∧ ∀ s ∈ refK n t j, s = t.name := by
  unfold refK
  split
  · exact ⟨by simp, fun s hs => by simp at hs⟩
  · refine ⟨?_, fun s hs => ?_⟩
    · rw [List.length_map]
      exact Nat.le_trans (List.length_filter_le _ _) (by rw [List.length_take]; omega)
    · obtain ⟨_, _, rfl⟩ := List.mem_map.1 hs
      rfl

theorem refA_ok (n : ByteArray) : ∀ (ts : List Tb), (ts.flatMap (refF n)).length ≤ wtS Tb.wt ts ∧ ∀ s ∈ ts.flatMap (refF n), s.size ≤ wtS Tb.wt ts := by
  intro ts
  refine ⟨?_, fun s hs => ?_⟩
  · induction ts with
    | nil => simp
    | cons t r ih =>
      have h1 := (refK_ok n t t.rules.length).1
      have h2 : t.wt = t.name.size + (t.cols.length + wtS Co.wt t.cols) + (t.rules.length + wtS Ru.wt t.rules) := rfl
      have h3 : wtS Tb.wt (t :: r) = t.wt + wtS Tb.wt r := by unfold wtS; rw [List.map_cons, List.sum_cons]
      rw [List.flatMap_cons, List.length_append, h3]
      unfold refF at ih ⊢
      omega
  · obtain ⟨t, ht, hs⟩ := List.mem_flatMap.1 hs
    rw [(refK_ok n t t.rules.length).2 s hs]
    have h1 := wtS_in Tb.wt ht
    have h2 : t.wt = t.name.size + (t.cols.length + wtS Co.wt t.cols) + (t.rules.length + wtS Ru.wt t.rules) := rfl
    omega

theorem filter_take_ok {X : Type} (p : X → Bool) (f : X → ByteArray) (wt : X → Nat) (hf : ∀ x, (f x).size ≤ wt x) (xs : List X) (k : Nat) : (((xs.take k).filter p).map f).length ≤ xs.length ∧ ∀ s ∈ ((xs.take k).filter p).map f, s.size ≤ wtS wt xs := by
  obtain ⟨h1, h2⟩ := filter_map_ok p f wt hf (xs.take k)
  have h3 := wtS_le wt xs k
  rw [List.length_take] at h1
  exact ⟨by omega, fun s hs => Nat.le_trans (h2 s hs) h3⟩

/-- Few, and short. -/
def Few (L : List ByteArray) : Prop := L.length ≤ 1048576 ∧ ∀ s ∈ L, s.size ≤ 1048576

theorem few_step (x : Pl) (n : ByteArray) (hn : x.wt ≤ 1048576) (k : Nat) (h : k < x.tables.length) (j : Nat) : Few (refA n x k ++ refK n x.tables[k] j) := by
  have h3 : x.wt = (x.enums.length + wtS Lab.wt x.enums) + (x.seqs.length + wtS Sq.wt x.seqs) + (x.tables.length + wtS Tb.wt x.tables) + (x.indexes.length + wtS Ix.wt x.indexes) + (x.views.length + wtS Vw.wt x.views) := rfl
  obtain ⟨h1, h2⟩ := refA_ok n (x.tables.take k)
  obtain ⟨h4, h5⟩ := refK_ok n x.tables[k] j
  have h6 := wtS_take Tb.wt x.tables k h
  have h7 := wtS_le Tb.wt x.tables (k + 1)
  have h8 : x.tables[k].wt = x.tables[k].name.size + (x.tables[k].cols.length + wtS Co.wt x.tables[k].cols) + (x.tables[k].rules.length + wtS Ru.wt x.tables[k].rules) := rfl
  unfold refA
  refine ⟨by rw [List.length_append]; omega, fun s hs => ?_⟩
  rcases List.mem_append.1 hs with hs | hs
  · have := h2 s hs; omega
  · rw [h5 s hs]; omega

theorem few_three (x : Pl) (n : ByteArray) (hn : x.wt ≤ 1048576) (k j : Nat) :
    Few (refA n x x.tables.length ++ ((x.indexes.take k).filter (onIx n)).map Ix.name ++ ((x.views.take j).filter (onVw n)).map Vw.name) := by
  have h3 : x.wt = (x.enums.length + wtS Lab.wt x.enums) + (x.seqs.length + wtS Sq.wt x.seqs) + (x.tables.length + wtS Tb.wt x.tables) + (x.indexes.length + wtS Ix.wt x.indexes) + (x.views.length + wtS Vw.wt x.views) := rfl
  obtain ⟨p1, q1⟩ := refA_ok n (x.tables.take x.tables.length)
  rw [List.take_length] at p1 q1
  obtain ⟨p2, q2⟩ := filter_take_ok (onIx n) Ix.name Ix.wt (fun t => by have h : t.wt = t.name.size + t.table.size + (t.cols.length + lets t.cols) := rfl; omega) x.indexes k
  obtain ⟨p3, q3⟩ := filter_take_ok (onVw n) Vw.name Vw.wt (fun t => by have h : t.wt = t.name.size + t.table.size + (t.cols.length + lets t.cols) + (t.whr.length + wtL t.whr) := rfl; omega) x.views j
  unfold refA
  rw [List.take_length]
  refine ⟨by rw [List.length_append, List.length_append]; omega, fun s hs => ?_⟩
  rcases List.mem_append.1 hs with hs | hs
  · rcases List.mem_append.1 hs with hs | hs
    · have := q1 s hs; omega
    · have := q2 s hs; omega
  · have := q3 s hs; omega

theorem few_two (x : Pl) (n : ByteArray) (hn : x.wt ≤ 1048576) (k : Nat) : Few (spL2 n x k) := by
  have h := few_three x n hn k 0
  simpa [spL2] using h
theorem few_end (x : Pl) (n : ByteArray) (hn : x.wt ≤ 1048576) (k : Nat) : Few (spL3 n x k) := by
  have h := few_three x n hn x.indexes.length k
  exact h

/-- Both sides put the same names. -/
theorem spL3_same (x : Pl) (n : ByteArray) : risingU (spL3 n x x.views.length) = risingU (tabL x n) := by
  obtain ⟨h1, h2⟩ := risingU_facts (spL3 n x x.views.length)
  obtain ⟨h3, h4⟩ := risingU_facts (tabL x n)
  refine ris_ext h1 h3 fun s => ?_
  rw [h2, h4]
  unfold spL3 spL2 refA tabL tabL2 tabL3
  rw [List.take_length, List.take_length, List.take_length, List.append_assoc]
  simp only [List.mem_append]
  refine or_congr_left ?_
  unfold tabL1
  rw [List.mem_flatMap, List.mem_map]
  constructor
  · rintro ⟨t, ht, hs⟩
    unfold refF refK at hs
    split at hs
    · simp at hs
    · rename_i hne
      rw [List.take_length] at hs
      obtain ⟨r, hr, rfl⟩ := List.mem_map.1 hs
      obtain ⟨hr1, hr2⟩ := List.mem_filter.1 hr
      refine ⟨t, List.mem_filter.2 ⟨ht, ?_⟩, rfl⟩
      unfold tabB
      rw [Bool.and_eq_true]
      exact ⟨by simpa using hne, List.any_eq_true.2 ⟨r, hr1, hr2⟩⟩
  · rintro ⟨t, ht, rfl⟩
    obtain ⟨ht1, ht2⟩ := List.mem_filter.1 ht
    unfold tabB at ht2
    rw [Bool.and_eq_true] at ht2
    obtain ⟨hne, hany⟩ := ht2
    obtain ⟨r, hr1, hr2⟩ := List.any_eq_true.1 hany
    refine ⟨t, ht1, ?_⟩
    unfold refF refK
    rw [if_neg (by simpa using hne), List.take_length]
    exact List.mem_map.2 ⟨r, List.mem_filter.2 ⟨hr1, hr2⟩, rfl⟩

/-- What lies ahead of a Put. -/
theorem SQ.put {w wo : World} {PV TV : List Value} {Z : List ByteArray} {ys : List ByteArray} {a' : Option Addr} {c' : Nat} {wr : World} (h : SQ w wo PV TV [] Z ys a' c' wr) (hf : Few Z) : Strs wr a' c' ys ∧ ys.length ≤ 4194304 := by
  have h1 := putAll_len [] Z
  rw [← h.eq] at h1
  have h2 := hf.1
  refine ⟨h.own.strs fun s hs => ?_, by simp at h1; omega⟩
  rw [h.eq, putAll_mem] at hs
  rcases hs with hs | hs
  · simp at hs
  · have := hf.2 s hs
    unfold maxLen; omega

set_option maxRecDepth 100000 in
set_option maxHeartbeats 8000000 in
theorem specTableUse (vs : List Value) (x : Pl) (n : ByteArray) (w : World) (hR : RPl 0 w vs x) (hn : x.wt ≤ 1048576) :
    Calls Tryz.prog 15 #[.agg vs.toArray, .string n] w (NewStrs w (risingU (tabL x n))) := by
  obtain ⟨a0, c0, a1, c1, a2, c2, a3, c3, a4, c4, rfl, _, _, _, k2, k3, k4⟩ := hR
  have hl2 := k2.len
  have hl3 := k3.len
  have hl4 := k4.len
  have K2 := Lib.hid (fun w' (hb : Below w.heap.size w w') => k2.kept goodTb (Kept.below hb))
  have K3 := Lib.hid (fun w' (hb : Below w.heap.size w w') => k3.kept goodIx (Kept.below hb))
  have K4 := Lib.hid (fun w' (hb : Below w.heap.size w w') => k4.kept goodVw (Kept.below hb))
  have HF1 := Lib.hid (few_step x n hn)
  have HF2 := Lib.hid (few_two x n hn)
  have HF3 := Lib.hid (few_end x n hn)
  have HS1 := Lib.hid (refA_step n x)
  have HS2 := Lib.hid (spL2_step n x)
  have HS3 := Lib.hid (spL3_step n x)
  have HNM : Hid (∀ s, (∃ t ∈ x.tables, s = t.name) ∨ (∃ t ∈ x.indexes, s = t.name) ∨ (∃ t ∈ x.views, s = t.name) → s.size ≤ maxLen) := by
    intro s hs
    have h3 : x.wt = (x.enums.length + wtS Lab.wt x.enums) + (x.seqs.length + wtS Sq.wt x.seqs) + (x.tables.length + wtS Tb.wt x.tables) + (x.indexes.length + wtS Ix.wt x.indexes) + (x.views.length + wtS Vw.wt x.views) := rfl
    unfold maxLen
    rcases hs with ⟨t, ht, rfl⟩ | ⟨t, ht, rfl⟩ | ⟨t, ht, rfl⟩
    · have h1 := wtS_in Tb.wt ht
      have h2 : t.wt = t.name.size + (t.cols.length + wtS Co.wt t.cols) + (t.rules.length + wtS Ru.wt t.rules) := rfl
      omega
    · have h1 := wtS_in Ix.wt ht
      have h2 : t.wt = t.name.size + t.table.size + (t.cols.length + lets t.cols) := rfl
      omega
    · have h1 := wtS_in Vw.wt ht
      have h2 : t.wt = t.name.size + t.table.size + (t.cols.length + lets t.cols) + (t.whr.length + wtL t.whr) := rfl
      omega
  have hba : Below w.heap.size w ((w.alloc (.cells #[.slice a0 x.enums.length c0, .slice a1 x.seqs.length c1, .slice a2 x.tables.length c2, .slice a3 x.indexes.length c3, .slice a4 x.views.length c4, .int .i64 x.next] 38)).alloc (.cells #[] 9)) := below2 _ _ _
  have A0 := (blk_new w 38 [.slice a0 x.enums.length c0, .slice a1 x.seqs.length c1, .slice a2 x.tables.length c2, .slice a3 x.indexes.length c3, .slice a4 x.views.length c4, .int .i64 x.next]).alloc (.cells #[] 9)
  have hown0 := ownEmpty (w.alloc (.cells #[.slice a0 x.enums.length c0, .slice a1 x.seqs.length c1, .slice a2 x.tables.length c2, .slice a3 x.indexes.length c3, .slice a4 x.views.length c4, .int .i64 x.next] 38))
  have hz1 : (w.alloc (.cells #[.slice a0 x.enums.length c0, .slice a1 x.seqs.length c1, .slice a2 x.tables.length c2, .slice a3 x.indexes.length c3, .slice a4 x.views.length c4, .int .i64 x.next] 38)).heap.size = w.heap.size + 1 := by simp
  rw [hz1] at hown0
  have HO0 := Lib.hid (show SQ w w [.slice a0 x.enums.length c0, .slice a1 x.seqs.length c1, .slice a2 x.tables.length c2, .slice a3 x.indexes.length c3, .slice a4 x.views.length c4, .int .i64 x.next] [.slice a0 x.enums.length c0, .slice a1 x.seqs.length c1, .slice a2 x.tables.length c2, .slice a3 x.indexes.length c3, .slice a4 x.views.length c4, .int .i64 x.next] [] (refA n x 0) [] _ 0 _ from ⟨rfl, hown0.lower (B' := w.heap.size) (by omega), hba, A0, A0⟩)
  clear k2 k3 k4 hba hown0 hz1 A0
  go_enter Tryz.func15, Tryz.ntmps15
  go_wp2_with fail
  go_loopw [5, 6] (fun o i wr => ∃ (k : Nat) (ys : List ByteArray) (a' : Option Addr) (c' : Nat), k ≤ x.tables.length ∧ i = .int .i64 k ∧ o = .slice a' ys.length c' ∧ Hid (SQ w w [.slice a0 x.enums.length c0, .slice a1 x.seqs.length c1, .slice a2 x.tables.length c2, .slice a3 x.indexes.length c3, .slice a4 x.views.length c4, .int .i64 x.next] [.slice a0 x.enums.length c0, .slice a1 x.seqs.length c1, .slice a2 x.tables.length c2, .slice a3 x.indexes.length c3, .slice a4 x.views.length c4, .int .i64 x.next] [] (refA n x k) ys a' c' wr)) (fun _ i _ => x.tables.length - (intOf i).toNat)
  case atStart => exact ⟨0, [], _, 0, Nat.zero_le _, rfl, rfl, HO0⟩
  case round =>
    rename World => wo
    obtain ⟨k, ys, a9, c9, hk, rfl, rfl, hS⟩ := hrel
    have g2 : wo.cell? ⟨w.heap.size, 2, none⟩ = some (.slice a2 x.tables.length c2) := (hS.out.pbox.2 2 (by simp)).1
    by_cases hlt : k < x.tables.length
    · obtain ⟨b, off, us, ha2, hbl, hcs, hT⟩ := (K2.out _ hS.out.bel).spot hlt
      have g2' : wo.cell? ⟨w.heap.size, 2, none⟩ = some (.slice (some ⟨b, off, none⟩) x.tables.length c2) := by rw [← ha2]; exact g2
      clear g2 ha2
      obtain ⟨p0, q0, p1, q1, rfl, hfit, _, kc⟩ := hT
      have hc0 : wo.cell? ⟨b, off + k * 4, none⟩ = some (.string x.tables[k].name) := hcs 0 (by simp)
      have hc1 : wo.cell? ⟨b, off + k * 4 + 1, none⟩ = some (.slice p0 x.tables[k].cols.length q0) := hcs 1 (by simp)
      have hc2 : wo.cell? ⟨b, off + k * 4 + 2, none⟩ = some (.slice p1 x.tables[k].rules.length q1) := hcs 2 (by simp)
      have hc3 : wo.cell? ⟨b, off + k * 4 + 3, none⟩ = some (.int .i64 x.tables[k].token) := hcs 3 (by simp)
      have hcl := kc.len
      have KC := Lib.hid (fun w' (hb : Below wo.heap.size wo w') => kc.kept goodRu (Kept.below hb))
      have hw : w.heap.size ≤ wo.heap.size := hS.out.bel.size
      have HSQ0 : Hid (SQ w wo [.slice a0 x.enums.length c0, .slice a1 x.seqs.length c1, .slice a2 x.tables.length c2, .slice a3 x.indexes.length c3, .slice a4 x.views.length c4, .int .i64 x.next] [.string x.tables[k].name, .slice p0 x.tables[k].cols.length q0, .slice p1 x.tables[k].rules.length q1, .int .i64 x.tables[k].token] [] (refA n x k ++ refK n x.tables[k] 0) ys a9 c9 (wo.alloc (.cells #[.string x.tables[k].name, .slice p0 x.tables[k].cols.length q0, .slice p1 x.tables[k].rules.length q1, .int .i64 x.tables[k].token] 55))) :=
        ⟨by have := hS.out.eq; unfold refK; simpa using this, hS.out.own.alloc _, hS.out.bel.alloc hw _, hS.out.pbox.alloc _, blk_new wo 55 [.string x.tables[k].name, .slice p0 x.tables[k].cols.length q0, .slice p1 x.tables[k].rules.length q1, .int .i64 x.tables[k].token]⟩
      have HBA : Hid (Below wo.heap.size wo (wo.alloc (.cells #[.string x.tables[k].name, .slice p0 x.tables[k].cols.length q0, .slice p1 x.tables[k].rules.length q1, .int .i64 x.tables[k].token] 55))) := (Below.refl _ _).alloc (Nat.le_refl _) _
      have HS1k := Lib.hid (HS1.out k hlt)
      have HF1k := Lib.hid (HF1.out k hlt)
      have HTN : Hid (x.tables[k].name.size ≤ maxLen) := HNM.out _ (.inl ⟨_, List.getElem_mem hlt, rfl⟩)
      clear kc hcs
      go_wp2_with fail
      go_loopw [5, 8] (fun o i wr => ∃ (j : Nat) (us' : List ByteArray) (a' : Option Addr) (c' : Nat), j ≤ x.tables[k].rules.length ∧ i = .int .i64 j ∧ o = .slice a' us'.length c' ∧ Hid (SQ w wo [.slice a0 x.enums.length c0, .slice a1 x.seqs.length c1, .slice a2 x.tables.length c2, .slice a3 x.indexes.length c3, .slice a4 x.views.length c4, .int .i64 x.next] [.string x.tables[k].name, .slice p0 x.tables[k].cols.length q0, .slice p1 x.tables[k].rules.length q1, .int .i64 x.tables[k].token] [] (refA n x k ++ refK n x.tables[k] j) us' a' c' wr ∧ Below wo.heap.size wo wr)) (fun _ i _ => x.tables[k].rules.length - (intOf i).toNat)
      case atStart => exact ⟨0, ys, a9, c9, Nat.zero_le _, rfl, rfl, HSQ0.out, HBA.out⟩
      case round =>
        obtain ⟨j, us', a8, c8, hj, rfl, rfl, hQ⟩ := hrel
        have e0 : wr.cell? ⟨wo.heap.size, 0, none⟩ = some (.string x.tables[k].name) := (hQ.out.1.tbox.2 0 (by simp)).1
        have e2 : wr.cell? ⟨wo.heap.size, 2, none⟩ = some (.slice p1 x.tables[k].rules.length q1) := (hQ.out.1.tbox.2 2 (by simp)).1
        by_cases hlj : j < x.tables[k].rules.length
        · obtain ⟨b1, off1, ws, hp0, hbl1, hcs1, hC⟩ := (KC.out _ hQ.out.2).spot hlj
          have e2' : wr.cell? ⟨wo.heap.size, 2, none⟩ = some (.slice (some ⟨b1, off1, none⟩) x.tables[k].rules.length q1) := by rw [← hp0]; exact e2
          clear e2 hp0
          obtain ⟨u0, v0, u1, v1, u2, v2, rfl, _⟩ := hC
          have d1 : wr.cell? ⟨b1, off1 + j * 6 + 1, none⟩ = some (.int .i64 x.tables[k].rules[j].kind) := hcs1 1 (by simp)
          have d4 : wr.cell? ⟨b1, off1 + j * 6 + 4, none⟩ = some (.string x.tables[k].rules[j].table) := hcs1 4 (by simp)
          have HP := Lib.hid (refK_step n x.tables[k] j hlj)
          have hj0 : (0 : Int) ≤ (j : Int) := by omega
          have hj1 : (j : Int) < (x.tables[k].rules.length : Int) := by omega
          have HQ := Lib.hid hQ.out
          clear hcs1 hQ
          cases hv : (!(x.tables[k].name.toList == n.toList) && isRefB n x.tables[k].rules[j]) with
          | false =>
            have HE : Hid (refK n x.tables[k] (j + 1) = refK n x.tables[k] j) := by unfold Hid; rw [HP.out, hv, if_neg (by decide), List.append_nil]
            have hv' : (!(x.tables[k].name.toList == n.toList) && (x.tables[k].rules[j].kind == 3 && x.tables[k].rules[j].table.toList == n.toList)) = false := hv
            clear hv
            cases h4 : (x.tables[k].name.toList == n.toList) with
            | true =>
              clear hv'
              go_wp2_with fail
              go_roundw
              case rel => exact ⟨j + 1, us', a8, c8, by omega, by go_num, rfl, by rw [HE.out]; exact HQ.out⟩
              case measure => simp [intOf]; omega
            | false =>
              rw [h4, Bool.not_false, Bool.true_and] at hv'
              cases h5 : (x.tables[k].rules[j].kind == 3) with
              | false =>
                clear hv'
                go_wp2_with fail
                go_roundw
                case rel => exact ⟨j + 1, us', a8, c8, by omega, by go_num, rfl, by rw [HE.out]; exact HQ.out⟩
                case measure => simp [intOf]; omega
              | true =>
                rw [h5, Bool.true_and] at hv'
                go_wp2_with fail
                go_roundw
                case rel => exact ⟨j + 1, us', a8, c8, by omega, by go_num, rfl, by rw [HE.out]; exact HQ.out⟩
                case measure => simp [intOf]; omega
          | true =>
            have HE : Hid (refA n x k ++ refK n x.tables[k] (j + 1) = (refA n x k ++ refK n x.tables[k] j) ++ [x.tables[k].name]) := by unfold Hid; rw [HP.out, hv, if_pos rfl, List.append_assoc]
            have hv' : (!(x.tables[k].name.toList == n.toList) && (x.tables[k].rules[j].kind == 3 && x.tables[k].rules[j].table.toList == n.toList)) = true := hv
            rw [Bool.and_eq_true, Bool.and_eq_true, Bool.not_eq_true'] at hv'
            obtain ⟨h4, h5, h6⟩ := hv'
            have HST := Lib.hid (HQ.out.1.put (HF1k.out j))
            clear hv
            go_wp2_with fail
            refine (specPut a8 c8 us' x.tables[k].name _ HST.out.1 HTN.out HST.out.2).mono ?_
            rintro e w2 ⟨a7, c7, rfl, own7, b7⟩
            have HN := Lib.hid (And.intro (HQ.out.1.next own7 b7) (HQ.out.2.trans (b7.mono HQ.out.2.size)))
            clear own7 b7
            go_wp2_with fail
            go_roundw
            case rel => exact ⟨j + 1, putL us' x.tables[k].name, a7, c7, by omega, by go_num, rfl, by rw [HE.out]; exact HN.out⟩
            case measure => simp [intOf]; omega
        · obtain rfl : j = x.tables[k].rules.length := by omega
          have HE : Hid (SQ w w [.slice a0 x.enums.length c0, .slice a1 x.seqs.length c1, .slice a2 x.tables.length c2, .slice a3 x.indexes.length c3, .slice a4 x.views.length c4, .int .i64 x.next] [.slice a0 x.enums.length c0, .slice a1 x.seqs.length c1, .slice a2 x.tables.length c2, .slice a3 x.indexes.length c3, .slice a4 x.views.length c4, .int .i64 x.next] [] (refA n x (k + 1)) us' a8 c8 wr) := by
            unfold Hid
            rw [HS1k.out]
            exact ⟨hQ.out.1.eq, hQ.out.1.own, hQ.out.1.bel, hQ.out.1.pbox, hQ.out.1.pbox⟩
          go_wp2_with fail
          go_roundw
          case rel => exact ⟨k + 1, us', a8, c8, by omega, by go_num, rfl, HE⟩
          case measure => simp [intOf]; omega
    · obtain rfl : k = x.tables.length := by omega
      have H20 : Hid (SQ w w [.slice a0 x.enums.length c0, .slice a1 x.seqs.length c1, .slice a2 x.tables.length c2, .slice a3 x.indexes.length c3, .slice a4 x.views.length c4, .int .i64 x.next] [.slice a0 x.enums.length c0, .slice a1 x.seqs.length c1, .slice a2 x.tables.length c2, .slice a3 x.indexes.length c3, .slice a4 x.views.length c4, .int .i64 x.next] [] (spL2 n x 0) ys a9 c9 wo) := by unfold Hid; rw [spL2_zero]; exact hS.out
      clear hS
      go_wp2_with fail
      go_loopw [5, 9] (fun o i wr => ∃ (k : Nat) (ys : List ByteArray) (a' : Option Addr) (c' : Nat), k ≤ x.indexes.length ∧ i = .int .i64 k ∧ o = .slice a' ys.length c' ∧ Hid (SQ w w [.slice a0 x.enums.length c0, .slice a1 x.seqs.length c1, .slice a2 x.tables.length c2, .slice a3 x.indexes.length c3, .slice a4 x.views.length c4, .int .i64 x.next] [.slice a0 x.enums.length c0, .slice a1 x.seqs.length c1, .slice a2 x.tables.length c2, .slice a3 x.indexes.length c3, .slice a4 x.views.length c4, .int .i64 x.next] [] (spL2 n x k) ys a' c' wr)) (fun _ i _ => x.indexes.length - (intOf i).toNat)
      case atStart => exact ⟨0, ys, a9, c9, Nat.zero_le _, rfl, rfl, H20⟩
      case round =>
        rename World => woIndex
        obtain ⟨k, ys, a9, c9, hk, rfl, rfl, hS⟩ := hrel
        have g2 : woIndex.cell? ⟨w.heap.size, 3, none⟩ = some (.slice a3 x.indexes.length c3) := (hS.out.pbox.2 3 (by simp)).1
        by_cases hlt : k < x.indexes.length
        · obtain ⟨b, off, us, ha2, hbl, hcs, hT⟩ := (K3.out _ hS.out.bel).spot hlt
          have g2' : woIndex.cell? ⟨w.heap.size, 3, none⟩ = some (.slice (some ⟨b, off, none⟩) x.indexes.length c3) := by rw [← ha2]; exact g2
          clear g2 ha2
          obtain ⟨p0, q0, rfl, _⟩ := hT
          have hc0 : woIndex.cell? ⟨b, off + k * 4, none⟩ = some (.string x.indexes[k].name) := hcs 0 (by simp)
          have hc1 : woIndex.cell? ⟨b, off + k * 4 + 1, none⟩ = some (.string x.indexes[k].table) := hcs 1 (by simp)
          have hk0 : (0 : Int) ≤ (k : Int) := by omega
          have hk1 : (k : Int) < (x.indexes.length : Int) := by omega
          have HP := Lib.hid (HS2.out k hlt)
          have HQ := Lib.hid hS.out
          clear hcs hS
          cases hv : onIx n x.indexes[k] with
          | false =>
            have HE : Hid (spL2 n x (k + 1) = spL2 n x k) := by unfold Hid; rw [HP.out, hv, if_neg (by decide), List.append_nil]
            have hv' : (x.indexes[k].table.toList == n.toList) = false := hv
            clear hv
            go_wp2_with fail
            go_roundw
            case rel => exact ⟨k + 1, ys, a9, c9, by omega, by go_num, rfl, by rw [HE.out]; exact HQ⟩
            case measure => simp [intOf]; omega
          | true =>
            have HE : Hid (spL2 n x (k + 1) = spL2 n x k ++ [x.indexes[k].name]) := by unfold Hid; rw [HP.out, hv, if_pos rfl]
            have hv' : (x.indexes[k].table.toList == n.toList) = true := hv
            have HST := Lib.hid (HQ.out.put (HF2.out k))
            have HTN : Hid (x.indexes[k].name.size ≤ maxLen) := HNM.out _ (.inr (.inl ⟨_, List.getElem_mem hlt, rfl⟩))
            clear hv
            go_wp2_with fail
            refine (specPut a9 c9 ys x.indexes[k].name _ HST.out.1 HTN.out HST.out.2).mono ?_
            rintro e w2 ⟨a7, c7, rfl, own7, b7⟩
            have HN := Lib.hid (HQ.out.next own7 b7)
            clear own7 b7
            go_wp2_with fail
            go_roundw
            case rel => exact ⟨k + 1, putL ys x.indexes[k].name, a7, c7, by omega, by go_num, rfl, by rw [HE.out]; exact HN⟩
            case measure => simp [intOf]; omega
        · obtain rfl : k = x.indexes.length := by omega
          have H20 : Hid (SQ w w [.slice a0 x.enums.length c0, .slice a1 x.seqs.length c1, .slice a2 x.tables.length c2, .slice a3 x.indexes.length c3, .slice a4 x.views.length c4, .int .i64 x.next] [.slice a0 x.enums.length c0, .slice a1 x.seqs.length c1, .slice a2 x.tables.length c2, .slice a3 x.indexes.length c3, .slice a4 x.views.length c4, .int .i64 x.next] [] (spL3 n x 0) ys a9 c9 woIndex) := by unfold Hid; rw [spL3_zero]; exact hS.out
          clear hS
          go_wp2_with fail
          go_loopw [5, 10] (fun o i wr => ∃ (k : Nat) (ys : List ByteArray) (a' : Option Addr) (c' : Nat), k ≤ x.views.length ∧ i = .int .i64 k ∧ o = .slice a' ys.length c' ∧ Hid (SQ w w [.slice a0 x.enums.length c0, .slice a1 x.seqs.length c1, .slice a2 x.tables.length c2, .slice a3 x.indexes.length c3, .slice a4 x.views.length c4, .int .i64 x.next] [.slice a0 x.enums.length c0, .slice a1 x.seqs.length c1, .slice a2 x.tables.length c2, .slice a3 x.indexes.length c3, .slice a4 x.views.length c4, .int .i64 x.next] [] (spL3 n x k) ys a' c' wr)) (fun _ i _ => x.views.length - (intOf i).toNat)
          case atStart => exact ⟨0, ys, a9, c9, Nat.zero_le _, rfl, rfl, H20⟩
          case round =>
            rename World => woView
            obtain ⟨k, ys, a9, c9, hk, rfl, rfl, hS⟩ := hrel
            have g2 : woView.cell? ⟨w.heap.size, 4, none⟩ = some (.slice a4 x.views.length c4) := (hS.out.pbox.2 4 (by simp)).1
            by_cases hlt : k < x.views.length
            · obtain ⟨b, off, us, ha2, hbl, hcs, hT⟩ := (K4.out _ hS.out.bel).spot hlt
              have g2' : woView.cell? ⟨w.heap.size, 4, none⟩ = some (.slice (some ⟨b, off, none⟩) x.views.length c4) := by rw [← ha2]; exact g2
              clear g2 ha2
              obtain ⟨p0, q0, p1, q1, rfl, _⟩ := hT
              have hc0 : woView.cell? ⟨b, off + k * 4, none⟩ = some (.string x.views[k].name) := hcs 0 (by simp)
              have hc1 : woView.cell? ⟨b, off + k * 4 + 1, none⟩ = some (.string x.views[k].table) := hcs 1 (by simp)
              have hk0 : (0 : Int) ≤ (k : Int) := by omega
              have hk1 : (k : Int) < (x.views.length : Int) := by omega
              have HP := Lib.hid (HS3.out k hlt)
              have HQ := Lib.hid hS.out
              clear hcs hS
              cases hv : onVw n x.views[k] with
              | false =>
                have HE : Hid (spL3 n x (k + 1) = spL3 n x k) := by unfold Hid; rw [HP.out, hv, if_neg (by decide), List.append_nil]
                have hv' : (x.views[k].table.toList == n.toList) = false := hv
                clear hv
                go_wp2_with fail
                go_roundw
                case rel => exact ⟨k + 1, ys, a9, c9, by omega, by go_num, rfl, by rw [HE.out]; exact HQ⟩
                case measure => simp [intOf]; omega
              | true =>
                have HE : Hid (spL3 n x (k + 1) = spL3 n x k ++ [x.views[k].name]) := by unfold Hid; rw [HP.out, hv, if_pos rfl]
                have hv' : (x.views[k].table.toList == n.toList) = true := hv
                have HST := Lib.hid (HQ.out.put (HF3.out k))
                have HTN : Hid (x.views[k].name.size ≤ maxLen) := HNM.out _ (.inr (.inr ⟨_, List.getElem_mem hlt, rfl⟩))
                clear hv
                go_wp2_with fail
                refine (specPut a9 c9 ys x.views[k].name _ HST.out.1 HTN.out HST.out.2).mono ?_
                rintro e w2 ⟨a7, c7, rfl, own7, b7⟩
                have HN := Lib.hid (HQ.out.next own7 b7)
                clear own7 b7
                go_wp2_with fail
                go_roundw
                case rel => exact ⟨k + 1, putL ys x.views[k].name, a7, c7, by omega, by go_num, rfl, by rw [HE.out]; exact HN⟩
                case measure => simp [intOf]; omega
            · obtain rfl : k = x.views.length := by omega
              go_wp2_with fail
              go_ret
              have h1 := hS.out.eq
              rw [put_all, spL3_same] at h1
              subst h1
              exact ⟨a9, c9, rfl, hS.out.own, hS.out.bel⟩

end Go.Proofs.YtjjdcdnaonfnmaaGreat
