/- impl.typeForms: the map of the forms, and what is looked up in it. -/
import Derived.Test.YtndbmnnomokfkaaDoorTyp
import Derived.Maps.OwnSet
import Derived.Carry
namespace Go.Proofs.YtndbmnnomokfkaaDoor
open Go.RowKit Go.Maps

/-- How a form reads. -/
def formR : Value → Option (DataW Unit × List MemPlace)
  | .agg cs => match cs.toList with
    | [.string s, .int .i64 a, .int .i64 b, .bool c] => some (.agg [.lit (.string s.data.toList), .lit (.int .i64 a), .lit (.int .i64 b), .lit (.bool c)], [])
    | _ => none
  | _ => none

def formD (l : List UInt8) (a b : Int) (c : Bool) : DataW Unit := .agg [.lit (.string l), .lit (.int .i64 a), .lit (.int .i64 b), .lit (.bool c)]
def formVal (s : ByteArray) (a b : Int) (c : Bool) : Value := .agg #[.string s, .int .i64 a, .int .i64 b, .bool c]

theorem formR_mk (s : ByteArray) (a b : Int) (c : Bool) : formR (.agg #[.string s, .int .i64 a, .int .i64 b, .bool c]) = some (formD s.data.toList a b c, []) := rfl

theorem formR_inv {v : Value} {l : List UInt8} {a b : Int} {c : Bool} {ps : List MemPlace} (h : formR v = some (formD l a b c, ps)) : v = formVal ⟨l.toArray⟩ a b c := by
  unfold formR at h
  split at h
  · split at h
    · rename_i hcs
      simp only [formD, Option.some.injEq, Prod.mk.injEq, DataW.agg.injEq, List.cons.injEq, DataW.lit.injEq, Lit.string.injEq, Lit.int.injEq, Lit.bool.injEq, and_true, true_and] at h
      obtain ⟨⟨rfl, rfl, rfl, rfl⟩, _⟩ := h
      have e : ∀ (cs : Array Value) (l : List Value), cs.toList = l → cs = l.toArray := fun cs l h => by rw [← h]
      rw [e _ _ hcs]
      rfl
    · cases h
  · cases h

def key (n : Int) : Lit := .int .i64 n

/-- What the map reads as. -/
def formsD : DataW Unit :=
  ((((((DataW.map []).put (key 0) (formD [105, 110, 116] 0 0 false)).put (key 1) (formD [116, 101, 120, 116] 0 0 false)).put (key 2) (formD [98, 111, 111, 108] 0 0 false)).put (key 3) (formD [99, 104, 97, 114] 1 100 false)).put (key 4) (formD [101, 110, 117, 109] 0 0 true))

/-- The form of a kind; where there is none: nothing. -/
def formOf (n : Int) : Value :=
  if n = 0 then formVal ⟨#[105, 110, 116]⟩ 0 0 false else if n = 1 then formVal ⟨#[116, 101, 120, 116]⟩ 0 0 false else if n = 2 then formVal ⟨#[98, 111, 111, 108]⟩ 0 0 false
  else if n = 3 then formVal ⟨#[99, 104, 97, 114]⟩ 1 100 false else if n = 4 then formVal ⟨#[101, 110, 117, 109]⟩ 0 0 true else formVal ⟨#[]⟩ 0 0 false

theorem lawKey : Keyed Tryd.prog 3 := int_keyed Tryd.underlying3
theorem keyIs (n : Int) (h : (Lit.int .i64 n).wf = true) : keyOf Tryd.prog 3 (.int .i64 n) = some (key n) := keyOf_int_mk Tryd.underlying3 h

theorem upd {w : World} {b n : Nat} {D : DataW Unit} (h : w.ownsMap Tryd.prog 3 formR b n D) (hn : n < 100) (j : Int) (hj : (Lit.int .i64 j).wf = true) (s : ByteArray) (x y : Int) (c : Bool) :
    ∃ w', (Instr.mapUpdate 35 (.map (some b)) (.int .i64 j) (.agg #[.string s, .int .i64 x, .int .i64 y, .bool c])).run Tryd.prog w = .ok () w' ∧ w'.ownsMap Tryd.prog 3 formR b (n + 1) (D.put (key j) (formD s.data.toList x y c)) ∧ w.grownBy w' (some b) :=
  h.update lawKey Tryd.underlying35 (by unfold maxLen; omega) (keyIs j hj) (formR_mk s x y c)

set_option maxHeartbeats 1000000 in
theorem implForms (w : World) : Calls Tryd.prog 11 #[] w fun e w' => e = .returned (.map (some w.heap.size)) ∧ w'.ownsMap Tryd.prog 3 formR w.heap.size 5 formsD ∧ Below w.heap.size w w' := by
  have hmm := @run_makeMap Tryd.prog
  have B0 : Below w.heap.size w (w.alloc (.map #[] 0)) := (Below.refl _ _).alloc (Nat.le_refl _) _
  obtain ⟨w1, r1, o1, g1⟩ := upd (World.ownsMap_made w Tryd.prog 3 formR) (by omega) 0 (by decide) ⟨#[105, 110, 116]⟩ 0 0 false
  obtain ⟨w2, r2, o2, g2⟩ := upd o1 (by omega) 1 (by decide) ⟨#[116, 101, 120, 116]⟩ 0 0 false
  obtain ⟨w3, r3, o3, g3⟩ := upd o2 (by omega) 2 (by decide) ⟨#[98, 111, 111, 108]⟩ 0 0 false
  obtain ⟨w4, r4, o4, g4⟩ := upd o3 (by omega) 3 (by decide) ⟨#[99, 104, 97, 114]⟩ 1 100 false
  obtain ⟨w5, r5, o5, g5⟩ := upd o4 (by omega) 4 (by decide) ⟨#[101, 110, 117, 109]⟩ 0 0 true
  have st : ∀ k, some w.heap.size = some k → w.heap.size ≤ k := fun k hk => by cases hk; exact Nat.le_refl _
  have B1 := B0.grown g1 B0.size st
  have B2 := B1.grown g2 B1.size st
  have B3 := B2.grown g3 B2.size st
  have B4 := B3.grown g4 B3.size st
  have B5 := B4.grown g5 B4.size st
  have HO : Hid (w5.ownsMap Tryd.prog 3 formR w.heap.size 5 formsD) := o5
  have HB := Lib.hid B5
  clear o1 o2 o3 o4 o5 g1 g2 g3 g4 g5 B0 B1 B2 B3 B4 B5 st
  go_enter Tryd.func11, Tryd.ntmps11
  go_wp2_with fail
  go_ret
  exact ⟨rfl, HO.out, HB.out⟩

theorem zeroForm (w : World) : (zeroValue 33).run Tryd.prog w = .ok (formVal ⟨#[]⟩ 0 0 false) w := by kernel_rfl

theorem key_ne {m n : Int} (h : m ≠ n) : key m ≠ key n := fun e => h (by cases e; rfl)

theorem at_none {n : Int} (h : ¬(0 ≤ n ∧ n ≤ 4)) (z : DataW Unit) : formsD.atKey (key n) z = z ∧ Maps.has formsD (key n) = false := by
  unfold formsD
  constructor
  · rw [atKey_put_other (key_ne (by omega)), atKey_put_other (key_ne (by omega)), atKey_put_other (key_ne (by omega)), atKey_put_other (key_ne (by omega)), atKey_put_other (key_ne (by omega))]
    rfl
  · rw [has_put_other (key_ne (by omega)), has_put_other (key_ne (by omega)), has_put_other (key_ne (by omega)), has_put_other (key_ne (by omega)), has_put_other (key_ne (by omega))]
    rfl

/-- What 'form, known := typeForms()[n]' gives. -/
theorem lookForm {w : World} {b : Nat} (h : w.ownsMap Tryd.prog 3 formR b 5 formsD) (n : Int) (hn : (Lit.int .i64 n).wf = true) :
    (Instr.lookup 35 (.map (some b)) (.int .i64 n) true).run Tryd.prog w = .ok (.tuple #[formOf n, .bool (decide (0 ≤ n ∧ n ≤ 4))]) w := by
  obtain ⟨v, ps, hrun, hv⟩ := h.look_ok lawKey Tryd.underlying35 (zeroForm w) (formR_mk ⟨#[]⟩ 0 0 false) (keyIs n hn)
  rw [hrun]
  by_cases hr : 0 ≤ n ∧ n ≤ 4
  · have hc : n = 0 ∨ n = 1 ∨ n = 2 ∨ n = 3 ∨ n = 4 := by omega
    have hd : decide (0 ≤ n ∧ n ≤ 4) = true := decide_eq_true hr
    rw [hd]
    rcases hc with rfl | rfl | rfl | rfl | rfl
    · have h1 : formsD.atKey (key 0) (formD [] 0 0 false) = formD [105, 110, 116] 0 0 false := rfl
      have h2 : Maps.has formsD (key 0) = true := rfl
      rw [formR_inv (hv.trans (by rw [h1])), h2]; rfl
    · have h1 : formsD.atKey (key 1) (formD [] 0 0 false) = formD [116, 101, 120, 116] 0 0 false := rfl
      have h2 : Maps.has formsD (key 1) = true := rfl
      rw [formR_inv (hv.trans (by rw [h1])), h2]; rfl
    · have h1 : formsD.atKey (key 2) (formD [] 0 0 false) = formD [98, 111, 111, 108] 0 0 false := rfl
      have h2 : Maps.has formsD (key 2) = true := rfl
      rw [formR_inv (hv.trans (by rw [h1])), h2]; rfl
    · have h1 : formsD.atKey (key 3) (formD [] 0 0 false) = formD [99, 104, 97, 114] 1 100 false := rfl
      have h2 : Maps.has formsD (key 3) = true := rfl
      rw [formR_inv (hv.trans (by rw [h1])), h2]; rfl
    · have h1 : formsD.atKey (key 4) (formD [] 0 0 false) = formD [101, 110, 117, 109] 0 0 true := rfl
      have h2 : Maps.has formsD (key 4) = true := rfl
      rw [formR_inv (hv.trans (by rw [h1])), h2]; rfl
  · have hd : decide (0 ≤ n ∧ n ≤ 4) = false := decide_eq_false hr
    obtain ⟨h1, h2⟩ := at_none hr (formD [] 0 0 false)
    have h3 : formOf n = formVal ⟨#[]⟩ 0 0 false := by
      unfold formOf
      rw [if_neg (by omega), if_neg (by omega), if_neg (by omega), if_neg (by omega), if_neg (by omega)]
    rw [formR_inv (hv.trans (by rw [h1])), h2, hd, h3]

end Go.Proofs.YtndbmnnomokfkaaDoor
