/- spec.l05Sort: what the values of an expression are. -/
import Derived.Test.YtpdcmmhhgnackaaDoorMDat
import Derived.Test.YtpdcmmhhgnackaaDoorMMem
import Derived.Maps.AppendAt
namespace Go.Proofs.YtpdcmmhhgnackaaDoor
open Go.RowKit

/-- What a node is, of what its kids are. -/
def nodeS (cf : ByteArray → Option So) (ls : List Lb) (k : Int) (s : ByteArray) (kids : List Ex) (xs : List So) : Option So :=
  if (k == 0) = true then cf s else if (k == 1) = true then some (soK 0) else if (k == 2) = true then some (soK 1) else if (k == 5) = true then some (soK 4)
  else if (k == 3) = true ∨ (k == 4) = true ∨ (k == 7) = true then some (soK 2)
  else if (k == 6) = true ∨ (k == 8) = true ∨ (k == 9) = true then (if allS xs 2 = true then some (soK 2) else none)
  else if (k == 10) = true ∨ (k == 11) = true then (match kids, xs with | [x, y], [a, b] => if fitS ls x y a b = true then some (soK 2) else none | _, _ => none)
  else if (k == 12) = true ∨ (k == 13) = true ∨ (k == 14) = true ∨ (k == 15) = true then (if (allS xs 0 || allS xs 1) = true then some (soK 2) else none)
  else (if allS xs 0 = true then some (soK 0) else none)

mutual
def srtE (cf : ByteArray → Option So) (ls : List Lb) : Ex → Option So
  | .mk k s _ kids => match srtL cf ls kids with
    | none => none
    | some xs => nodeS cf ls k s kids xs
def srtL (cf : ByteArray → Option So) (ls : List Lb) : List Ex → Option (List So)
  | [] => some []
  | e :: r => match srtE cf ls e with
    | none => none
    | some o => match srtL cf ls r with
      | none => none
      | some xs => some (o :: xs)
end

theorem srtE_eq (cf : ByteArray → Option So) (ls : List Lb) (e : Ex) : srtE cf ls e = (match srtL cf ls e.kids with | none => none | some xs => nodeS cf ls e.kind e.text e.kids xs) := by
  cases e; rw [srtE]; rfl

theorem srtL_take {cf : ByteArray → Option So} {ls : List Lb} {l : List Ex} {k : Nat} (h : k < l.length) {xs : List So} (hx : srtL cf ls (l.take k) = some xs) :
    (∀ o, srtE cf ls l[k] = some o → srtL cf ls (l.take (k + 1)) = some (xs ++ [o])) ∧ (srtE cf ls l[k] = none → srtL cf ls l = none) := by
  induction l generalizing k xs with
  | nil => simp at h
  | cons e r ih =>
    cases k with
    | zero =>
      simp only [List.take_zero, srtL, Option.some.injEq] at hx
      subst hx
      refine ⟨fun o ho => ?_, fun hn => ?_⟩
      · simp only [List.getElem_cons_zero] at ho
        simp [srtL, ho]
      · simp only [List.getElem_cons_zero] at hn
        rw [srtL, hn]
    | succ k =>
      rw [List.take_succ_cons, srtL] at hx
      cases he : srtE cf ls e with
      | none => rw [he] at hx; cases hx
      | some o0 =>
        rw [he] at hx
        simp only at hx
        cases hr : srtL cf ls (r.take k) with
        | none => rw [hr] at hx; cases hx
        | some ys =>
          rw [hr] at hx
          simp only [Option.some.injEq] at hx
          subst hx
          obtain ⟨i1, i2⟩ := ih (by simpa using h) hr
          simp only [List.getElem_cons_succ]
          refine ⟨fun o ho => ?_, fun hn => ?_⟩
          · rw [List.take_succ_cons, srtL, he]
            simp only
            rw [i1 o ho]
            rfl
          · rw [srtL, he]
            simp only
            rw [i2 hn]

theorem srtL_len {cf : ByteArray → Option So} {ls : List Lb} : ∀ {l : List Ex} {xs : List So}, srtL cf ls l = some xs → xs.length = l.length
  | [], xs, h => by simp only [srtL, Option.some.injEq] at h; rw [← h]; rfl
  | e :: r, xs, h => by
    rw [srtL] at h
    cases he : srtE cf ls e with
    | none => rw [he] at h; cases h
    | some o =>
      rw [he] at h
      simp only at h
      cases hr : srtL cf ls r with
      | none => rw [hr] at h; cases h
      | some ys =>
        rw [hr] at h
        simp only [Option.some.injEq] at h
        rw [← h, List.length_cons, List.length_cons, srtL_len hr]

def soRow (s : So) : List Value := [.int .i64 s.kind, .string s.name]
def soCells (xs : List So) : List Value := (xs.map soRow).flatten

/-- A row of sorts of the call's own. -/
def OwnS (w : World) (B : Nat) (a : Option Addr) (c : Nat) (xs : List So) : Prop := w.ownsRow B 39 2 (.slice a xs.length c) xs.length (soCells xs)

theorem OwnS.below {w w' : World} {B : Nat} {a : Option Addr} {c : Nat} {xs : List So} (h : OwnS w B a c xs) (hb : Below w.heap.size w w') : OwnS w' B a c xs := by
  unfold OwnS at h ⊢
  refine ⟨h.1, ?_⟩
  rcases h.2 with h2 | ⟨g, cap, cur, hv, hB, hg, r⟩
  · exact .inl h2
  · exact .inr ⟨g, cap, cur, hv, hB, by rw [hb.block g (h.lt g (by rw [hv]; rfl)).2]; exact hg, r⟩

theorem OwnS.sl {w : World} {B : Nat} {a : Option Addr} {c : Nat} {xs : List So} (h : OwnS w B a c xs) : Sl 2 RSo 0 w a c xs := by
  unfold OwnS at h
  rcases h.2 with ⟨hv, hn⟩ | ⟨g, cap, cur, hv, hb, hg, hnc, hcm, hcs, ht⟩
  · simp only [Value.slice.injEq] at hv
    obtain ⟨rfl, h0, rfl⟩ := hv
    exact ⟨by omega, by unfold maxLen; omega, fun _ => rfl, fun hp => by omega⟩
  · simp only [Value.slice.injEq] at hv
    obtain ⟨rfl, _, rfl⟩ := hv
    refine ⟨hnc, hcm, (fun h => by cases h), fun hp => ⟨g, 0, rfl, Nat.zero_le _, (h.lt g rfl).2, fun i hi => ⟨soRow xs[i], fun j hj => ?_, rfl⟩⟩⟩
    have hj2 : j < 2 := hj
    have := World.ownsRow.cellAt (w := w) h (i * 2 + j) (by omega)
    have hr : ∀ r ∈ xs.map soRow, r.length = 2 := fun r hr => by obtain ⟨s, _, rfl⟩ := List.mem_map.1 hr; rfl
    rw [Nat.zero_add, this, soCells, flat_at hr i (by simpa using hi) j hj2, List.getElem_map, List.getElem?_eq_getElem hj]

theorem Tryd.infoSort : (Tryd.prog.info? 39).map (fun i => (i.zero, i.size, i.bytes)) = some (some (.agg #[.int .i64 0, .string ByteArray.empty]), 2, 24) := by kernel_rfl

theorem soCells_append (l : List So) (y : So) : soCells (l ++ [y]) = soCells l ++ [.int .i64 y.kind, .string y.name] := by
  unfold soCells
  rw [List.map_append, List.flatten_append]
  simp [soRow]

theorem wpAppendSo {w : World} {ops : Array Oper} {rest : List Oper} {o : Oper} {A : Act} {Q : Exit → Act → World → Prop} (hgd : o.guard = none) (s x : Operand)
    (ho : o.op = .call { callee := .builtin .append, args := #[s, x], argTypes := #[137, 137] })
    (i0 : TypeInfo) (hi0 : Tryd.prog.info? 39 = some i0) (hz0 : i0.zero = some (.agg #[.int .i64 0, .string ByteArray.empty])) (hz1 : i0.size = 2) (hz2 : i0.bytes = 24)
    (B : Nat) (a : Option Addr) (c : Nat) (l : List So) (g : Nat) (y : So) (hs : A.eval s = .slice a l.length c) (hown : OwnS w B a c l) (hx : A.eval x = .slice (some ⟨g, 0, none⟩) 1 1) (hc : w.heap[g]? = some (.cells #[.int .i64 y.kind, .string y.name] 39 (0, 0)))
    (hn : l.length + 1 ≤ 1073741824) (hB : B ≤ w.heap.size)
    (h : ∀ a' c' w' l', Hid (l' = l ++ [y]) → OwnS w' B a' c' l' → w.grownBy w' (Value.slice a l.length c).ownBlock → wpList Tryd.prog ops Q rest (A.put o.dst (.slice a' l'.length c')) w') :
    wpList Tryd.prog ops Q (o :: rest) A w := by
  refine wpList_append_own_at _ hgd s x 137 ho B 39 i0 (.agg #[.int .i64 0, .string ByteArray.empty]) 2 24 Tryd.underlying137 hi0 hz0 hz1 hz2 rfl (by decide) (.slice a l.length c) l.length (soCells l) hs hown
    ⟨g, 0, none⟩ 1 1 [.int .i64 y.kind, .string y.name] hx rfl ?_ (fun u hu => by simp at hu; rcases hu with rfl | rfl <;> rfl) (by unfold maxLen; omega) (by omega) hB ?_
  · intro j u hu
    have hadd : (⟨g, 0, none⟩ : Addr).add j = ⟨g, j, none⟩ := by unfold Addr.add; by_cases h0 : j = 0 <;> simp [h0]
    rw [hadd, cell_of_row _ _ _ _ _ _ hc]
    simpa using hu
  · intro v' w' hown' hg _ _
    have hf : ∃ a' c', v' = .slice a' (l.length + 1) c' := by
      rcases hown'.2 with ⟨_, h0⟩ | ⟨g', cap, cur, rfl, _⟩
      · omega
      · exact ⟨_, _, rfl⟩
    obtain ⟨a', c', rfl⟩ := hf
    rw [← soCells_append] at hown'
    have hll : (l ++ [y]).length = l.length + 1 := by simp
    have := h a' c' w' (l ++ [y]) rfl (by unfold OwnS; rw [hll]; exact hown') hg
    rw [hll] at this
    exact this

/-- Each column that is asked for is there; where two are compared there are two. -/
def okS (cf : ByteArray → Option So) (e : Ex) : Bool := (e.kind != 0 || (cf e.text).isSome) && (!((e.kind == 10) || (e.kind == 11)) || e.kids.length == 2)

theorem nodesL_lenS : (l : List Ex) → l.length ≤ nodesL l
  | [] => by simp [nodesL]
  | e :: r => by rw [nodesL, List.length_cons]; have := nodesL_lenS r; have := Ex.nodes_eq e; omega

theorem nodesL_getS {l : List Ex} {k : Nat} (h : k < l.length) : l[k].nodes ≤ nodesL l := by
  induction l generalizing k with
  | nil => simp at h
  | cons e r ih =>
    rw [nodesL]
    cases k with
    | zero => simp only [List.getElem_cons_zero]; omega
    | succ k => simp only [List.getElem_cons_succ]; have := ih (k := k) (by simpa using h); omega

theorem allL_get {chk : Ex → Bool} {l : List Ex} (h : allL chk l = true) {k : Nat} (hk : k < l.length) : l[k].all chk = true := by
  induction l generalizing k with
  | nil => simp at hk
  | cons e r ih =>
    rw [allL, Bool.and_eq_true] at h
    cases k with
    | zero => exact h.1
    | succ k => exact ih h.2 (by simpa using hk)

end Go.Proofs.YtpdcmmhhgnackaaDoor
