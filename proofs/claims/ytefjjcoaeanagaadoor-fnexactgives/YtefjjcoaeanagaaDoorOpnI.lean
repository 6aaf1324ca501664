/- (impl.sorter).operand and operation, over any contract of column. -/
import Derived.Test.YtefjjcoaeanagaaDoorMAccI
import Derived.Test.YtefjjcoaeanagaaDoorMEx
import Derived.Test.YtefjjcoaeanagaaDoorMOpen
namespace Go.Proofs.YtefjjcoaeanagaaDoor
open Go.RowKit

def resK (kind : Int) : Opd := if (kind == 16) = true ∨ (kind == 17) = true ∨ (kind == 18) = true then .plain 0 else .plain 2

mutual
/-- The operand of an expression, by the program's own rules. -/
def opdE (col : ByteArray → Option Opd) (ls : List Lb) : Ex → Option Opd
  | .mk k s _ kids =>
    if (k == 0) = true then col s else if (k == 1) = true then some (.plain 0) else if (k == 2) = true then some (.text s)
    else if (k == 3) = true ∨ (k == 4) = true then some (.plain 2) else if (k == 5) = true then some (.plain 4)
    else match opdL col ls kids with
      | none => none
      | some xs => if accB ls k xs = true then some (resK k) else none
def opdL (col : ByteArray → Option Opd) (ls : List Lb) : List Ex → Option (List Opd)
  | [] => some []
  | e :: r => match opdE col ls e with
    | none => none
    | some o => match opdL col ls r with
      | none => none
      | some xs => some (o :: xs)
end

/-- The operand of an operation. -/
def opnE (col : ByteArray → Option Opd) (ls : List Lb) (e : Ex) : Option Opd :=
  match opdL col ls e.kids with
  | none => none
  | some xs => if accB ls e.kind xs = true then some (resK e.kind) else none

theorem opdL_take {col : ByteArray → Option Opd} {ls : List Lb} {l : List Ex} {k : Nat} (h : k < l.length) {xs : List Opd} (hx : opdL col ls (l.take k) = some xs) :
    (∀ o, opdE col ls l[k] = some o → opdL col ls (l.take (k + 1)) = some (xs ++ [o])) ∧ (opdE col ls l[k] = none → opdL col ls l = none) := by
  induction l generalizing k xs with
  | nil => simp at h
  | cons e r ih =>
    cases k with
    | zero =>
      simp only [List.take_zero, opdL, Option.some.injEq] at hx
      subst hx
      refine ⟨fun o ho => ?_, fun hn => ?_⟩
      · simp only [List.getElem_cons_zero] at ho
        simp [opdL, ho]
      · simp only [List.getElem_cons_zero] at hn
        rw [opdL, hn]
    | succ k =>
      rw [List.take_succ_cons, opdL] at hx
      cases he : opdE col ls e with
      | none => rw [he] at hx; cases hx
      | some o0 =>
        rw [he] at hx
        simp only at hx
        cases hr : opdL col ls (r.take k) with
        | none => rw [hr] at hx; cases hx
        | some ys =>
          rw [hr] at hx
          simp only [Option.some.injEq] at hx
          subst hx
          obtain ⟨i1, i2⟩ := ih (by simpa using h) hr
          simp only [List.getElem_cons_succ]
          refine ⟨fun o ho => ?_, fun hn => ?_⟩
          · rw [List.take_succ_cons, opdL, he]
            simp only
            rw [i1 o ho]
            rfl
          · rw [opdL, he]
            simp only
            rw [i2 hn]

def resV : Option Opd → Value
  | none => .tuple #[.nilIface, .bool false]
  | some o => .tuple #[o.v, .bool true]

mutual
/-- Where two operands are compared there are two. -/
def arE : Ex → Bool
  | .mk k _ _ kids => (!((k == 10) || (k == 11)) || kids.length == 2) && arL kids
def arL : List Ex → Bool
  | [] => true
  | e :: r => arE e && arL r
end

theorem arE_eq (e : Ex) : arE e = ((!((e.kind == 10) || (e.kind == 11)) || e.kids.length == 2) && arL e.kids) := by
  cases e; rw [arE]; rfl

theorem arL_get {l : List Ex} (h : arL l = true) {k : Nat} (hk : k < l.length) : arE l[k] = true := by
  induction l generalizing k with
  | nil => simp at hk
  | cons e r ih =>
    rw [arL, Bool.and_eq_true] at h
    cases k with
    | zero => exact h.1
    | succ k => exact ih h.2 (by simpa using hk)

/-- A row of operands of the call's own. -/
def OwnO (w : World) (B : Nat) (a : Option Addr) (c : Nat) (xs : List Opd) : Prop :=
  w.ownsRow B 71 1 (.slice a xs.length c) xs.length (xs.map Opd.v)

theorem OwnO.opds {w : World} {B : Nat} {a : Option Addr} {c : Nat} {xs : List Opd} (h : OwnO w B a c xs) : Opds w a c xs := by
  unfold OwnO at h
  rcases h.2 with ⟨hv, hn⟩ | ⟨g, cap, cur, hv, hb, hg, hnc, hcm, hcs, ht⟩
  · simp only [Value.slice.injEq] at hv
    obtain ⟨rfl, h0, rfl⟩ := hv
    exact ⟨by omega, by unfold maxLen; omega, fun _ => rfl, fun hp => by omega⟩
  · simp only [Value.slice.injEq] at hv
    obtain ⟨rfl, _, rfl⟩ := hv
    refine ⟨hnc, hcm, (fun h => by cases h), fun hp => ⟨g, 0, rfl, (h.lt g rfl).2, fun i hi => ?_⟩⟩
    have := World.ownsRow.cellAt (w := w) h i (by omega)
    rw [Nat.zero_add, this, List.getElem?_map, List.getElem?_eq_getElem hi]
    rfl

theorem OwnO.below {w w' : World} {B : Nat} {a : Option Addr} {c : Nat} {xs : List Opd} (h : OwnO w B a c xs) (hb : Below w.heap.size w w') : OwnO w' B a c xs := by
  unfold OwnO at h ⊢
  refine ⟨h.1, ?_⟩
  rcases h.2 with h2 | ⟨g, cap, cur, hv, hB, hg, r⟩
  · exact .inl h2
  · exact .inr ⟨g, cap, cur, hv, hB, by rw [hb.block g (h.lt g (by rw [hv]; rfl)).2]; exact hg, r⟩

theorem Tryd.infoOperand : (Tryd.prog.info? 71).map (fun i => (i.zero, i.size, i.bytes)) = some (some .nilIface, 1, 16) := by kernel_rfl

theorem Opd.one (o : Opd) : o.v.oneCell' = true := by cases o <;> rfl

theorem nodesL_lenO : (l : List Ex) → l.length ≤ nodesL l
  | [] => by simp [nodesL]
  | e :: r => by rw [nodesL, List.length_cons]; have := nodesL_lenO r; have := Ex.nodes_eq e; omega

end Go.Proofs.YtefjjcoaeanagaaDoor
