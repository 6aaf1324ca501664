/- Schemas in memory: tables, columns, rules, indexes, views, sequences, enumerations, plans. Written by tools/gen_plan.py. -/
/- Statements in memory. Written by tools/gen_stmt.py. -/
/- impl.typeForms: the map of the forms, and what is looked up in it. -/
/- Rows of bytes that the call itself makes; texts out of them. -/
/- One byte put behind a row of bytes that the call itself has made. -/
/- The words of a text: plain mathematics over lists of bytes, nothing of the program. -/
/- spec.DecText answers the decimal numeral. -/
/- spec.ReadDec answers the number that a text spells, or -1. -/
/- The model's small words over bytes: letters, digits, gaps, names. -/
/- The model's names: spec.NameOk. -/
import Derived.Test.YtpdcmmhhgnackaaGreatDoorMMem
import Derived.Maps.OwnSet
import Derived.Carry
import Derived.Lib.AppendStr
import Derived.Laws.BytesString
import Derived.Laws.Cells
import Derived.Lib.ConvBytes
import Derived.Deep.RegionHeld3
import Derived.Lib.Atoi
import Derived.Lib.ItoaNum
import Derived.Test.YtpdcmmhhgnackaaGreatDoorRows
import Derived.WalkKit
import Derived.WalkLawsBesides
import Derived.WalkSpells
import Derived.Deep.QuietTactic
import Derived.BigQuiet
import Derived.Outline
import Derived.Lib.Strings
import Derived.Lib.Hide
import Derived.Lib.ItoaLen
import Derived.Lib.AtoiErr
namespace Go.Proofs.YtpdcmmhhgnackaaGreatDoor
open Go.RowKit

structure Lab where
  name : ByteArray
  list : List ByteArray

def Lab.fit (x : Lab) : Prop := x.name.size ≤ maxLen

def Lab.wt (x : Lab) : Nat := x.name.size + (x.list.length + lets x.list)

def RLab : Rd Lab := fun lo w vs x => ∃ (a0 : Option Addr) (c0 : Nat), vs = [.string x.name, .slice a0 x.list.length c0] ∧ x.fit ∧ Ss lo w a0 c0 x.list

theorem goodLab : Good RLab := by
  constructor
  · rintro lo w w' vs x ⟨a0, c0, h, f, s0⟩ hk
    exact ⟨a0, c0, h, f, s0.kept hk⟩
  · rintro lo lo' w vs x ⟨a0, c0, h, f, s0⟩ hl
    exact ⟨a0, c0, h, f, s0.lower hl⟩

structure Sq where
  name : ByteArray
  start : Int

def Sq.fit (x : Sq) : Prop := x.name.size ≤ maxLen ∧ i64E x.start

def Sq.wt (x : Sq) : Nat := x.name.size

def RSq : Rd Sq := fun lo w vs x => vs = [.string x.name, .int .i64 x.start] ∧ x.fit

theorem goodSq : Good RSq := by
  constructor
  · rintro lo w w' vs x ⟨h, f⟩ _
    exact ⟨h, f⟩
  · rintro lo lo' w vs x ⟨h, f⟩ _
    exact ⟨h, f⟩

structure Co where
  name : ByteArray
  ty : Ty
  notNull : Bool
  dflt : List Ex

def Co.fit (x : Co) : Prop := x.name.size ≤ maxLen ∧ x.ty.name.size ≤ maxLen ∧ i64E x.ty.kind ∧ i64E x.ty.len

def Co.wt (x : Co) : Nat := x.name.size + x.ty.name.size + (x.dflt.length + wtL x.dflt)

def RCo : Rd Co := fun lo w vs x => ∃ (a0 : Option Addr) (c0 : Nat), vs = [.string x.name, .int .i64 x.ty.kind, .int .i64 x.ty.len, .string x.ty.name, .bool x.notNull, .slice a0 x.dflt.length c0] ∧ x.fit ∧ Ks lo w a0 c0 x.dflt

theorem goodCo : Good RCo := by
  constructor
  · rintro lo w w' vs x ⟨a0, c0, h, f, s0⟩ hk
    exact ⟨a0, c0, h, f, s0.kept hk⟩
  · rintro lo lo' w vs x ⟨a0, c0, h, f, s0⟩ hl
    exact ⟨a0, c0, h, f, s0.lower hl⟩

structure Ru where
  name : ByteArray
  kind : Int
  cols : List ByteArray
  expr : List Ex
  table : ByteArray
  to : List ByteArray

def Ru.fit (x : Ru) : Prop := x.name.size ≤ maxLen ∧ i64E x.kind ∧ x.table.size ≤ maxLen

def Ru.wt (x : Ru) : Nat := x.name.size + (x.cols.length + lets x.cols) + (x.expr.length + wtL x.expr) + x.table.size + (x.to.length + lets x.to)

def RRu : Rd Ru := fun lo w vs x => ∃ (a0 : Option Addr) (c0 : Nat), ∃ (a1 : Option Addr) (c1 : Nat), ∃ (a2 : Option Addr) (c2 : Nat), vs = [.string x.name, .int .i64 x.kind, .slice a0 x.cols.length c0, .slice a1 x.expr.length c1, .string x.table, .slice a2 x.to.length c2] ∧ x.fit ∧ Ss lo w a0 c0 x.cols ∧ Ks lo w a1 c1 x.expr ∧ Ss lo w a2 c2 x.to

theorem goodRu : Good RRu := by
  constructor
  · rintro lo w w' vs x ⟨a0, c0, a1, c1, a2, c2, h, f, s0, s1, s2⟩ hk
    exact ⟨a0, c0, a1, c1, a2, c2, h, f, s0.kept hk, s1.kept hk, s2.kept hk⟩
  · rintro lo lo' w vs x ⟨a0, c0, a1, c1, a2, c2, h, f, s0, s1, s2⟩ hl
    exact ⟨a0, c0, a1, c1, a2, c2, h, f, s0.lower hl, s1.lower hl, s2.lower hl⟩

structure Tb where
  name : ByteArray
  cols : List Co
  rules : List Ru
  token : Int

def Tb.fit (x : Tb) : Prop := x.name.size ≤ maxLen ∧ i64E x.token

def Tb.wt (x : Tb) : Nat := x.name.size + (x.cols.length + wtS Co.wt x.cols) + (x.rules.length + wtS Ru.wt x.rules)

def RTb : Rd Tb := fun lo w vs x => ∃ (a0 : Option Addr) (c0 : Nat), ∃ (a1 : Option Addr) (c1 : Nat), vs = [.string x.name, .slice a0 x.cols.length c0, .slice a1 x.rules.length c1, .int .i64 x.token] ∧ x.fit ∧ Sl 6 RCo lo w a0 c0 x.cols ∧ Sl 6 RRu lo w a1 c1 x.rules

theorem goodTb : Good RTb := by
  constructor
  · rintro lo w w' vs x ⟨a0, c0, a1, c1, h, f, s0, s1⟩ hk
    exact ⟨a0, c0, a1, c1, h, f, s0.kept goodCo hk, s1.kept goodRu hk⟩
  · rintro lo lo' w vs x ⟨a0, c0, a1, c1, h, f, s0, s1⟩ hl
    exact ⟨a0, c0, a1, c1, h, f, s0.lower goodCo hl, s1.lower goodRu hl⟩

structure Ix where
  name : ByteArray
  table : ByteArray
  cols : List ByteArray
  uniq : Bool

def Ix.fit (x : Ix) : Prop := x.name.size ≤ maxLen ∧ x.table.size ≤ maxLen

def Ix.wt (x : Ix) : Nat := x.name.size + x.table.size + (x.cols.length + lets x.cols)

def RIx : Rd Ix := fun lo w vs x => ∃ (a0 : Option Addr) (c0 : Nat), vs = [.string x.name, .string x.table, .slice a0 x.cols.length c0, .bool x.uniq] ∧ x.fit ∧ Ss lo w a0 c0 x.cols

theorem goodIx : Good RIx := by
  constructor
  · rintro lo w w' vs x ⟨a0, c0, h, f, s0⟩ hk
    exact ⟨a0, c0, h, f, s0.kept hk⟩
  · rintro lo lo' w vs x ⟨a0, c0, h, f, s0⟩ hl
    exact ⟨a0, c0, h, f, s0.lower hl⟩

structure Vw where
  name : ByteArray
  table : ByteArray
  cols : List ByteArray
  whr : List Ex

def Vw.fit (x : Vw) : Prop := x.name.size ≤ maxLen ∧ x.table.size ≤ maxLen

def Vw.wt (x : Vw) : Nat := x.name.size + x.table.size + (x.cols.length + lets x.cols) + (x.whr.length + wtL x.whr)

def RVw : Rd Vw := fun lo w vs x => ∃ (a0 : Option Addr) (c0 : Nat), ∃ (a1 : Option Addr) (c1 : Nat), vs = [.string x.name, .string x.table, .slice a0 x.cols.length c0, .slice a1 x.whr.length c1] ∧ x.fit ∧ Ss lo w a0 c0 x.cols ∧ Ks lo w a1 c1 x.whr

theorem goodVw : Good RVw := by
  constructor
  · rintro lo w w' vs x ⟨a0, c0, a1, c1, h, f, s0, s1⟩ hk
    exact ⟨a0, c0, a1, c1, h, f, s0.kept hk, s1.kept hk⟩
  · rintro lo lo' w vs x ⟨a0, c0, a1, c1, h, f, s0, s1⟩ hl
    exact ⟨a0, c0, a1, c1, h, f, s0.lower hl, s1.lower hl⟩

structure Pl where
  enums : List Lab
  seqs : List Sq
  tables : List Tb
  indexes : List Ix
  views : List Vw
  next : Int

def Pl.fit (x : Pl) : Prop := i64E x.next

def Pl.wt (x : Pl) : Nat := (x.enums.length + wtS Lab.wt x.enums) + (x.seqs.length + wtS Sq.wt x.seqs) + (x.tables.length + wtS Tb.wt x.tables) + (x.indexes.length + wtS Ix.wt x.indexes) + (x.views.length + wtS Vw.wt x.views)

def RPl : Rd Pl := fun lo w vs x => ∃ (a0 : Option Addr) (c0 : Nat), ∃ (a1 : Option Addr) (c1 : Nat), ∃ (a2 : Option Addr) (c2 : Nat), ∃ (a3 : Option Addr) (c3 : Nat), ∃ (a4 : Option Addr) (c4 : Nat), vs = [.slice a0 x.enums.length c0, .slice a1 x.seqs.length c1, .slice a2 x.tables.length c2, .slice a3 x.indexes.length c3, .slice a4 x.views.length c4, .int .i64 x.next] ∧ x.fit ∧ Sl 2 RLab lo w a0 c0 x.enums ∧ Sl 2 RSq lo w a1 c1 x.seqs ∧ Sl 4 RTb lo w a2 c2 x.tables ∧ Sl 4 RIx lo w a3 c3 x.indexes ∧ Sl 4 RVw lo w a4 c4 x.views

theorem goodPl : Good RPl := by
  constructor
  · rintro lo w w' vs x ⟨a0, c0, a1, c1, a2, c2, a3, c3, a4, c4, h, f, s0, s1, s2, s3, s4⟩ hk
    exact ⟨a0, c0, a1, c1, a2, c2, a3, c3, a4, c4, h, f, s0.kept goodLab hk, s1.kept goodSq hk, s2.kept goodTb hk, s3.kept goodIx hk, s4.kept goodVw hk⟩
  · rintro lo lo' w vs x ⟨a0, c0, a1, c1, a2, c2, a3, c3, a4, c4, h, f, s0, s1, s2, s3, s4⟩ hl
    exact ⟨a0, c0, a1, c1, a2, c2, a3, c3, a4, c4, h, f, s0.lower goodLab hl, s1.lower goodSq hl, s2.lower goodTb hl, s3.lower goodIx hl, s4.lower goodVw hl⟩

end Go.Proofs.YtpdcmmhhgnackaaGreatDoor

namespace Go.Proofs.YtpdcmmhhgnackaaGreatDoor
open Go.RowKit

structure St where
  kind : Int
  name : ByteArray
  on : ByteArray
  list : List ByteArray
  num : Int
  flag : Bool
  ty : Ty
  cols : List Co
  rules : List Ru
  exprs : List Ex

def St.fit (x : St) : Prop := i64E x.kind ∧ x.name.size ≤ maxLen ∧ x.on.size ≤ maxLen ∧ i64E x.num ∧ x.ty.name.size ≤ maxLen ∧ i64E x.ty.kind ∧ i64E x.ty.len

def St.wt (x : St) : Nat := x.name.size + x.on.size + (x.list.length + lets x.list) + x.ty.name.size + (x.cols.length + wtS Co.wt x.cols) + (x.rules.length + wtS Ru.wt x.rules) + (x.exprs.length + wtL x.exprs)

def RSt : Rd St := fun lo w vs x => ∃ (a0 : Option Addr) (c0 : Nat), ∃ (a1 : Option Addr) (c1 : Nat), ∃ (a2 : Option Addr) (c2 : Nat), ∃ (a3 : Option Addr) (c3 : Nat), vs = [.int .i64 x.kind, .string x.name, .string x.on, .slice a0 x.list.length c0, .int .i64 x.num, .bool x.flag, .int .i64 x.ty.kind, .int .i64 x.ty.len, .string x.ty.name, .slice a1 x.cols.length c1, .slice a2 x.rules.length c2, .slice a3 x.exprs.length c3] ∧ x.fit ∧ Ss lo w a0 c0 x.list ∧ Sl 6 RCo lo w a1 c1 x.cols ∧ Sl 6 RRu lo w a2 c2 x.rules ∧ Ks lo w a3 c3 x.exprs

theorem goodSt : Good RSt := by
  constructor
  · rintro lo w w' vs x ⟨a0, c0, a1, c1, a2, c2, a3, c3, h, f, s0, s1, s2, s3⟩ hk
    exact ⟨a0, c0, a1, c1, a2, c2, a3, c3, h, f, s0.kept hk, s1.kept goodCo hk, s2.kept goodRu hk, s3.kept hk⟩
  · rintro lo lo' w vs x ⟨a0, c0, a1, c1, a2, c2, a3, c3, h, f, s0, s1, s2, s3⟩ hl
    exact ⟨a0, c0, a1, c1, a2, c2, a3, c3, h, f, s0.lower hl, s1.lower goodCo hl, s2.lower goodRu hl, s3.lower hl⟩

end Go.Proofs.YtpdcmmhhgnackaaGreatDoor

namespace Go.Proofs.YtpdcmmhhgnackaaGreatDoor
open Go.RowKit Go.Maps

/-- How a form reads. -/
def formR : Value → Option (DataW Unit × List MemPlace)
  | .agg cs => match cs.toList with
    | [.string s, .int .i64 a, .int .i64 b, .bool c] => some (.agg [.lit (.string s.data.toList), .lit (.int .i64 a), .lit (.int .i64 b), .lit (.bool c)], [])
    | _ => none
  | _ => none

def formD (l : List UInt8) (a b : Int) (c : Bool) : DataW Unit := .agg [.lit (.string l), .lit (.int .i64 a), .lit (.int .i64 b), .lit (.bool c)]
def formVal (s : ByteArray) (a b : Int) (c : Bool) : Value := .agg #[.string s, .int .i64 a, .int .i64 b, .bool c]

theorem formR_mk (s : ByteArray) (a b : Int) (c : Bool) : formR (.agg #[.string s, .int .i64 a, .int .i64 b, .bool c]) = some (formD s.data.toList a b c, []) := rfl

theorem formR_inv {v : Value} {l : List UInt8} {a b : Int} {c : Bool} {ps : List MemPlace} (h : formR v = some (formD l a b c, ps)) : v = formVal ⟨l.toArray⟩ a b c := by
  unfold formR at h
  split at h
  · split at h
    · rename_i hcs
      simp only [formD, Option.some.injEq, Prod.mk.injEq, DataW.agg.injEq, List.cons.injEq, DataW.lit.injEq, Lit.string.injEq, Lit.int.injEq, Lit.bool.injEq, and_true, true_and] at h
      obtain ⟨⟨rfl, rfl, rfl, rfl⟩, _⟩ := h
      have e : ∀ (cs : Array Value) (l : List Value), cs.toList = l → cs = l.toArray := fun cs l h => by rw [← h]
      rw [e _ _ hcs]
      rfl
    · cases h
  · cases h

def key (n : Int) : Lit := .int .i64 n

/-- What the map reads as. -/
def formsD : DataW Unit :=
  ((((((DataW.map []).put (key 0) (formD [105, 110, 116] 0 0 false)).put (key 1) (formD [116, 101, 120, 116] 0 0 false)).put (key 2) (formD [98, 111, 111, 108] 0 0 false)).put (key 3) (formD [99, 104, 97, 114] 1 100 false)).put (key 4) (formD [101, 110, 117, 109] 0 0 true))

/-- The form of a kind; where there is none: nothing. -/
def formOf (n : Int) : Value :=
  if n = 0 then formVal ⟨#[105, 110, 116]⟩ 0 0 false else if n = 1 then formVal ⟨#[116, 101, 120, 116]⟩ 0 0 false else if n = 2 then formVal ⟨#[98, 111, 111, 108]⟩ 0 0 false
  else if n = 3 then formVal ⟨#[99, 104, 97, 114]⟩ 1 100 false else if n = 4 then formVal ⟨#[101, 110, 117, 109]⟩ 0 0 true else formVal ⟨#[]⟩ 0 0 false

theorem lawKey : Keyed Tryz.prog 3 := int_keyed Tryz.underlying3
theorem keyIs (n : Int) (h : (Lit.int .i64 n).wf = true) : keyOf Tryz.prog 3 (.int .i64 n) = some (key n) := keyOf_int_mk Tryz.underlying3 h

theorem upd {w : World} {b n : Nat} {D : DataW Unit} (h : w.ownsMap Tryz.prog 3 formR b n D) (hn : n < 100) (j : Int) (hj : (Lit.int .i64 j).wf = true) (s : ByteArray) (x y : Int) (c : Bool) :
    ∃ w', (Instr.mapUpdate 116 (.map (some b)) (.int .i64 j) (.agg #[.string s, .int .i64 x, .int .i64 y, .bool c])).run Tryz.prog w = .ok () w' ∧ w'.ownsMap Tryz.prog 3 formR b (n + 1) (D.put (key j) (formD s.data.toList x y c)) ∧ w.grownBy w' (some b) :=
  h.update lawKey Tryz.underlying116 (by unfold maxLen; omega) (keyIs j hj) (formR_mk s x y c)

set_option maxHeartbeats 1000000 in
theorem implForms (w : World) : Calls Tryz.prog 80 #[] w fun e w' => e = .returned (.map (some w.heap.size)) ∧ w'.ownsMap Tryz.prog 3 formR w.heap.size 5 formsD ∧ Below w.heap.size w w' := by
  have hmm := @run_makeMap Tryz.prog
  have B0 : Below w.heap.size w (w.alloc (.map #[] 0)) := (Below.refl _ _).alloc (Nat.le_refl _) _
  obtain ⟨w1, r1, o1, g1⟩ := upd (World.ownsMap_made w Tryz.prog 3 formR) (by omega) 0 (by decide) ⟨#[105, 110, 116]⟩ 0 0 false
  obtain ⟨w2, r2, o2, g2⟩ := upd o1 (by omega) 1 (by decide) ⟨#[116, 101, 120, 116]⟩ 0 0 false
  obtain ⟨w3, r3, o3, g3⟩ := upd o2 (by omega) 2 (by decide) ⟨#[98, 111, 111, 108]⟩ 0 0 false
  obtain ⟨w4, r4, o4, g4⟩ := upd o3 (by omega) 3 (by decide) ⟨#[99, 104, 97, 114]⟩ 1 100 false
  obtain ⟨w5, r5, o5, g5⟩ := upd o4 (by omega) 4 (by decide) ⟨#[101, 110, 117, 109]⟩ 0 0 true
  have st : ∀ k, some w.heap.size = some k → w.heap.size ≤ k := fun k hk => by cases hk; exact Nat.le_refl _
  have B1 := B0.grown g1 B0.size st
  have B2 := B1.grown g2 B1.size st
  have B3 := B2.grown g3 B2.size st
  have B4 := B3.grown g4 B3.size st
  have B5 := B4.grown g5 B4.size st
  have HO : Hid (w5.ownsMap Tryz.prog 3 formR w.heap.size 5 formsD) := o5
  have HB := Lib.hid B5
  clear o1 o2 o3 o4 o5 g1 g2 g3 g4 g5 B0 B1 B2 B3 B4 B5 st
  go_enter Tryz.func80, Tryz.ntmps80
  go_wp2_with fail
  go_ret
  exact ⟨rfl, HO.out, HB.out⟩

theorem zeroForm (w : World) : (zeroValue 114).run Tryz.prog w = .ok (formVal ⟨#[]⟩ 0 0 false) w := by kernel_rfl

theorem key_ne {m n : Int} (h : m ≠ n) : key m ≠ key n := fun e => h (by cases e; rfl)

theorem at_none {n : Int} (h : ¬(0 ≤ n ∧ n ≤ 4)) (z : DataW Unit) : formsD.atKey (key n) z = z ∧ Maps.has formsD (key n) = false := by
  unfold formsD
  constructor
  · rw [atKey_put_other (key_ne (by omega)), atKey_put_other (key_ne (by omega)), atKey_put_other (key_ne (by omega)), atKey_put_other (key_ne (by omega)), atKey_put_other (key_ne (by omega))]
    rfl
  · rw [has_put_other (key_ne (by omega)), has_put_other (key_ne (by omega)), has_put_other (key_ne (by omega)), has_put_other (key_ne (by omega)), has_put_other (key_ne (by omega))]
    rfl

/-- What 'form, known := typeForms()[n]' gives. -/
theorem lookForm {w : World} {b : Nat} (h : w.ownsMap Tryz.prog 3 formR b 5 formsD) (n : Int) (hn : (Lit.int .i64 n).wf = true) :
    (Instr.lookup 116 (.map (some b)) (.int .i64 n) true).run Tryz.prog w = .ok (.tuple #[formOf n, .bool (decide (0 ≤ n ∧ n ≤ 4))]) w := by
  obtain ⟨v, ps, hrun, hv⟩ := h.look_ok lawKey Tryz.underlying116 (zeroForm w) (formR_mk ⟨#[]⟩ 0 0 false) (keyIs n hn)
  rw [hrun]
  by_cases hr : 0 ≤ n ∧ n ≤ 4
  · have hc : n = 0 ∨ n = 1 ∨ n = 2 ∨ n = 3 ∨ n = 4 := by omega
    have hd : decide (0 ≤ n ∧ n ≤ 4) = true := decide_eq_true hr
    rw [hd]
    rcases hc with rfl | rfl | rfl | rfl | rfl
    · have h1 : formsD.atKey (key 0) (formD [] 0 0 false) = formD [105, 110, 116] 0 0 false := rfl
      have h2 : Maps.has formsD (key 0) = true := rfl
      rw [formR_inv (hv.trans (by rw [h1])), h2]; rfl
    · have h1 : formsD.atKey (key 1) (formD [] 0 0 false) = formD [116, 101, 120, 116] 0 0 false := rfl
      have h2 : Maps.has formsD (key 1) = true := rfl
      rw [formR_inv (hv.trans (by rw [h1])), h2]; rfl
    · have h1 : formsD.atKey (key 2) (formD [] 0 0 false) = formD [98, 111, 111, 108] 0 0 false := rfl
      have h2 : Maps.has formsD (key 2) = true := rfl
      rw [formR_inv (hv.trans (by rw [h1])), h2]; rfl
    · have h1 : formsD.atKey (key 3) (formD [] 0 0 false) = formD [99, 104, 97, 114] 1 100 false := rfl
      have h2 : Maps.has formsD (key 3) = true := rfl
      rw [formR_inv (hv.trans (by rw [h1])), h2]; rfl
    · have h1 : formsD.atKey (key 4) (formD [] 0 0 false) = formD [101, 110, 117, 109] 0 0 true := rfl
      have h2 : Maps.has formsD (key 4) = true := rfl
      rw [formR_inv (hv.trans (by rw [h1])), h2]; rfl
  · have hd : decide (0 ≤ n ∧ n ≤ 4) = false := decide_eq_false hr
    obtain ⟨h1, h2⟩ := at_none hr (formD [] 0 0 false)
    have h3 : formOf n = formVal ⟨#[]⟩ 0 0 false := by
      unfold formOf
      rw [if_neg (by omega), if_neg (by omega), if_neg (by omega), if_neg (by omega), if_neg (by omega)]
    rw [formR_inv (hv.trans (by rw [h1])), h2, hd, h3]

end Go.Proofs.YtpdcmmhhgnackaaGreatDoor

namespace Go.Proofs.YtpdcmmhhgnackaaGreatDoor
open Go.RowKit

def bcells (l : List UInt8) : List Value := l.map fun b => Value.int .u8 b.toNat

def OwnB (w : World) (B : Nat) (a : Option Addr) (c : Nat) (l : List UInt8) : Prop :=
  w.ownsRow B 5 1 (.slice a l.length c) l.length (bcells l)

theorem Tryz.infoByte : (Tryz.prog.info? 5).map (fun i => (i.zero, i.size, i.bytes)) = some (some (.int .u8 0), 1, 1) := by kernel_rfl

theorem OwnB.lt {w : World} {B : Nat} {a : Option Addr} {c : Nat} {l : List UInt8} (h : OwnB w B a c l) {g : Nat} (hg : (Value.slice a l.length c).ownBlock = some g) : B ≤ g ∧ g < w.heap.size :=
  World.ownsRow.lt h g hg

theorem OwnB.below {w w' : World} {B : Nat} {a : Option Addr} {c : Nat} {l : List UInt8} (h : OwnB w B a c l) (hb : Below w.heap.size w w') : OwnB w' B a c l := by
  unfold OwnB at h ⊢
  refine ⟨h.1, ?_⟩
  rcases h.2 with h2 | ⟨g, cap, cur, hv, hB, hg, r⟩
  · exact .inl h2
  · refine .inr ⟨g, cap, cur, hv, hB, ?_, r⟩
    have : g < w.heap.size := by
      rcases Nat.lt_or_ge g w.heap.size with hlt | hge
      · exact hlt
      · rw [Array.getElem?_eq_none hge] at hg; cases hg
    rw [hb.block g this, hg]

theorem ownBEmpty (w : World) : OwnB (w.alloc (.cells #[] 5)) w.heap.size (some ⟨w.heap.size, 0, none⟩) 0 [] :=
  World.ownsRow_lit (base := w.heap.size) (e := 5) (size := 1) w #[] 0 (Nat.le_refl _) (by unfold maxLen; omega) rfl

theorem strCells_eq (s : ByteArray) : Lib.strCells s = bcells s.data.toList := rfl

/-- append of a text's bytes to a row of the call's own. -/
theorem wpAppendText {w : World} {ops : Array Oper} {rest : List Oper} {o : Oper} {A : Act} {Q : Exit → Act → World → Prop} (hgd : o.guard = none) (sl x : Operand)
    (ho : o.op = .call { callee := .builtin .append, args := #[sl, x], argTypes := #[126, 9] })
    (i0 : TypeInfo) (hi0 : Tryz.prog.info? 5 = some i0) (hz0 : i0.zero = some (.int .u8 0)) (hz1 : i0.size = 1) (hz2 : i0.bytes = 1)
    (B : Nat) (a : Option Addr) (c : Nat) (l : List UInt8) (s : ByteArray) (hs : A.eval sl = .slice a l.length c) (hown : OwnB w B a c l) (hx : A.eval x = .string s)
    (hn : l.length + s.size ≤ 140737488355328) (hB : B ≤ w.heap.size)
    (h : ∀ a' c' w', OwnB w' B a' c' (l ++ s.data.toList) → w.grownBy w' (Value.slice a l.length c).ownBlock → wpList Tryz.prog ops Q rest (A.put o.dst (.slice a' (l ++ s.data.toList).length c')) w') :
    wpList Tryz.prog ops Q (o :: rest) A w := by
  refine Lib.wpList_append_own_string _ hgd sl x 126 9 ho B 5 i0 Tryz.underlying126 Tryz.underlying9 hi0 hz0 hz1 hz2 (.slice a l.length c) l.length (bcells l) hs hown s hx (by unfold maxLen; omega) hn hB ?_
  intro v' w' hown' hg _
  have hl : s.size = s.data.toList.length := by simp
  have hf : ∃ a' c', v' = .slice a' (l.length + s.size) c' := by
    rcases hown'.2 with ⟨rfl, h0⟩ | ⟨g, cap, cur, rfl, _⟩
    · exact ⟨none, 0, by rw [h0]⟩
    · exact ⟨_, _, rfl⟩
  obtain ⟨a', c', rfl⟩ := hf
  have hb : bcells l ++ Lib.strCells s = bcells (l ++ s.data.toList) := by rw [strCells_eq]; simp [bcells]
  rw [hb] at hown'
  have := h a' c' w' (by unfold OwnB; rw [List.length_append, ← hl]; exact hown') hg
  rw [List.length_append, ← hl] at this
  exact this

theorem foldl_push (l : List UInt8) (r : ByteArray) : (l.map fun b => (b.toNat : Int)).foldl (fun r n => r.push (UInt8.ofNat n.toNat)) r = ⟨(r.data.toList ++ l).toArray⟩ := by
  induction l generalizing r with
  | nil => simp
  | cons b l ih =>
    rw [List.map_cons, List.foldl_cons, ih]
    simp [ByteArray.push]

theorem convBytes {W : World} {B : Nat} {a : Option Addr} {c : Nat} {l : List UInt8} (h : OwnB W B a c l) :
    (convert 126 9 (.slice a l.length c)).run Tryz.prog W = .ok (.string ⟨l.toArray⟩) W := by
  rw [run_convert_bytes_string W _ _ _ _ _ _ Tryz.underlying126 Tryz.underlying5 Tryz.underlying9]
  unfold OwnB at h
  rcases h.2 with ⟨hv, hn⟩ | ⟨g, cap, cur, hv, hb, hg, hnc, hcm, hcs, ht⟩
  · simp only [Value.slice.injEq] at hv
    obtain ⟨rfl, _, rfl⟩ := hv
    have : l = [] := List.eq_nil_of_length_eq_zero hn
    subst this
    simp [Conv.bytesToString]
    rfl
  · simp only [Value.slice.injEq] at hv
    obtain ⟨rfl, _, rfl⟩ := hv
    rw [run_bytesToString W ⟨g, 0, none⟩ l.length c (l.map fun b => (b.toNat : Int))]
    · rw [foldl_push]; rfl
    · have hl : l.length = (bcells l).length := by simp [bcells]
      rw [hl, run_loadCells_list (P := Tryz.prog) W ⟨g, 0, none⟩ (bcells l) (h.cells rfl)]
      simp [bcells]

end Go.Proofs.YtpdcmmhhgnackaaGreatDoor

namespace Go.Proofs.YtpdcmmhhgnackaaGreatDoor
open Go.RowKit

theorem wpAppendByte {w : World} {ops : Array Oper} {rest : List Oper} {o : Oper} {A : Act} {Q : Exit → Act → World → Prop} (hgd : o.guard = none) (s x : Operand)
    (ho : o.op = .call { callee := .builtin .append, args := #[s, x], argTypes := #[126, 126] })
    (i0 : TypeInfo) (hi0 : Tryz.prog.info? 5 = some i0) (hz0 : i0.zero = some (.int .u8 0)) (hz1 : i0.size = 1) (hz2 : i0.bytes = 1)
    (B : Nat) (a : Option Addr) (c : Nat) (l : List UInt8) (g : Nat) (y : UInt8) (hs : A.eval s = .slice a l.length c) (hown : OwnB w B a c l) (hx : A.eval x = .slice (some ⟨g, 0, none⟩) 1 1) (hc : w.cell? ⟨g, 0, none⟩ = some (.int .u8 (y.toNat : Int)))
    (hn : l.length + 1 ≤ 140737488355328) (hB : B ≤ w.heap.size)
    (h : ∀ a' c' w' l', Hid (l' = l ++ [y]) → OwnB w' B a' c' l' → w.grownBy w' (Value.slice a l.length c).ownBlock → ((Value.slice a' l'.length c').ownBlock = (Value.slice a l.length c).ownBlock ∨ (Value.slice a' l'.length c').ownBlock = some w.heap.size) → wpList Tryz.prog ops Q rest (A.put o.dst (.slice a' l'.length c')) w') :
    wpList Tryz.prog ops Q (o :: rest) A w := by
  refine wpList_append_own_at _ hgd s x 126 ho B 5 i0 (.int .u8 0) 1 1 Tryz.underlying126 hi0 hz0 hz1 hz2 rfl (by decide) (.slice a l.length c) l.length (bcells l) hs hown
    ⟨g, 0, none⟩ 1 1 [.int .u8 (y.toNat : Int)] hx rfl ?_ (fun u hu => by simp at hu; subst hu; rfl) (by unfold maxLen; omega) (by omega) hB ?_
  · intro j u hu
    match j, hu with
    | 0, hu => simp at hu; subst hu; simpa [Addr.add] using hc
  · intro v' w' hown' hg _ hat
    have hf : ∃ a' c', v' = .slice a' (l.length + 1) c' := by
      rcases hown'.2 with ⟨_, h0⟩ | ⟨g', cap, cur, rfl, _⟩
      · omega
      · exact ⟨_, _, rfl⟩
    obtain ⟨a', c', rfl⟩ := hf
    have hb : bcells l ++ [Value.int .u8 (y.toNat : Int)] = bcells (l ++ [y]) := by simp [bcells]
    rw [hb] at hown'
    have hll : (l ++ [y]).length = l.length + 1 := by simp
    have := h a' c' w' (l ++ [y]) rfl (by unfold OwnB; rw [hll]; exact hown') hg (by rw [hll]; exact hat)
    rw [hll] at this
    exact this

theorem hid_len {l l' : List UInt8} {y : UInt8} (h : Hid (l' = l ++ [y])) : l'.length = l.length + 1 := by rw [h.out]; simp

theorem ownBOne (w : World) (y : UInt8) : OwnB (w.alloc (.cells #[.int .u8 (y.toNat : Int)] 5)) w.heap.size (some ⟨w.heap.size, 0, none⟩) 1 [y] :=
  World.ownsRow_lit (base := w.heap.size) (e := 5) (size := 1) w #[.int .u8 (y.toNat : Int)] 1 (Nat.le_refl _) (by unfold maxLen; omega) rfl

theorem OwnB.alloc {w : World} {B : Nat} {a : Option Addr} {c : Nat} {l : List UInt8} (h : OwnB w B a c l) (o : Obj) : OwnB (w.alloc o) B a c l :=
  h.below ((Below.refl _ _).alloc (Nat.le_refl _) _)

theorem OwnB.kept {w w' : World} {B : Nat} {a : Option Addr} {c : Nat} {l : List UInt8} {row : Option Nat} (h : OwnB w B a c l) (hg : w.grownBy w' row)
    (hne : ∀ g, (Value.slice a l.length c).ownBlock = some g → row ≠ some g) : OwnB w' B a c l := by
  refine World.ownsRow.kept h hg ?_
  cases ho : (Value.slice a l.length c).ownBlock with
  | none => exact .inl rfl
  | some g => exact .inr (fun e => hne g ho e.symm)

theorem belowBytesW (w : World) (t : ByteArray) : Below w.heap.size w (Lib.bytesWorld w 5 t) :=
  ⟨rfl, rfl, rfl, by rw [Lib.bytesWorld_size]; omega, fun k hk => Lib.bytesWorld_at_old _ _ _ k hk⟩

theorem convText (w : World) (s : ByteArray) : (convert 9 126 (.string s)).run Tryz.prog w = .ok (.slice (some ⟨w.heap.size, 0, none⟩) s.size (grownCap w s.size 0 5)) (Lib.bytesWorld w 5 s) :=
  Lib.run_convert_string_bytes w _ _ _ s Tryz.underlying9 Tryz.underlying126 Tryz.underlying5

/-- The row that a text is turned into. -/
theorem convTextEx (w : World) (s : ByteArray) : ∃ W cap, (convert 9 126 (.string s)).run Tryz.prog w = .ok (.slice (some ⟨w.heap.size, 0, none⟩) s.size cap) W ∧ Below w.heap.size w W ∧ w.heap.size < W.heap.size ∧ s.size ≤ cap ∧ ∀ (j : Nat) (h : j < s.size), W.cell? ⟨w.heap.size, j, none⟩ = some (.int .u8 (s[j].toNat : Int)) := by
  refine ⟨_, _, convText w s, belowBytesW w s, by rw [Lib.bytesWorld_size]; omega, grownCap_ge _ _ _ _, fun j hj => ?_⟩
  rw [Lib.bytesWorld_cell _ _ _ _ hj]
  have hl : j < s.data.toList.length := by simpa using hj
  rw [List.getD_eq_getElem?_getD, List.getElem?_eq_getElem hl]
  rfl

theorem byte_of {n : Int} (h : (Lit.int .u8 n).wf = true) : ∃ y : UInt8, n = (y.toNat : Int) := by
  have hmin : IntKind.u8.min = 0 := by decide
  have hmax : IntKind.u8.max = 255 := by decide
  simp [Lit.wf, hmin, hmax] at h
  refine ⟨UInt8.ofNat n.toNat, ?_⟩
  rw [UInt8.toNat_ofNat']
  omega

theorem take_snoc (s : ByteArray) (k : Nat) (h : k < s.size) : s.data.toList.take (k + 1) = s.data.toList.take k ++ [s[k]] := by
  rw [List.take_succ_eq_append_getElem (by simpa using h)]; rfl

theorem byte_eq {a b : UInt8} (h : a = b) : (((a.toNat : Int)) == (b.toNat : Int)) = true := by subst h; simp
theorem byte_ne {a b : UInt8} (h : a ≠ b) : (((a.toNat : Int)) == (b.toNat : Int)) = false := by
  rw [beq_eq_false_iff_ne]
  intro e
  exact h (UInt8.toNat_inj.1 (by omega))
theorem byte_le (a : UInt8) : (a.toNat : Int) ≤ 255 := by have := UInt8.toNat_lt a; omega

end Go.Proofs.YtpdcmmhhgnackaaGreatDoor

namespace Go.Proofs.YtpdcmmhhgnackaaGreatDoor

/-- The number that l spells, or -1. -/
def readD (l : List UInt8) : Int :=
  if 9 < l.length then -1 else match Go.Lib.decNat l with
    | none => -1
    | some m => if Go.Lib.itoa (m : Int) = l then (m : Int) else -1

def letterB (b : UInt8) : Bool := (decide (65 ≤ b.toNat) && decide (b.toNat ≤ 90)) || (decide (97 ≤ b.toNat) && decide (b.toNat ≤ 122)) || b.toNat == 95
def digitB (b : UInt8) : Bool := decide (48 ≤ b.toNat) && decide (b.toNat ≤ 57)
def moreB (b : UInt8) : Bool := letterB b || digitB b
def blankB (b : UInt8) : Bool := b.toNat == 32 || b.toNat == 9 || b.toNat == 10 || b.toNat == 13
def lowB (b : UInt8) : UInt8 := if decide (65 ≤ b.toNat) && decide (b.toNat ≤ 90) then b + 32 else b
def signB (b : UInt8) : Bool := [40, 41, 44, 59, 61, 60, 62, 43, 45, 42, 46].contains b.toNat

/-- How many bytes are passed over at the head (true: inside a note). -/
def gap : Bool → List UInt8 → Nat
  | _, [] => 0
  | true, b :: r => 1 + gap (b.toNat != 10) r
  | false, b :: r => if blankB b then 1 + gap false r else if b.toNat == 45 && (r.head?.map (·.toNat)) == some 45 then 1 + gap true r else 0

/-- A word: its kind, its text, its place. -/
structure Tok where
  kind : Nat
  text : List UInt8
  at_ : Nat
deriving DecidableEq

def runL (l : List UInt8) : List UInt8 := l.takeWhile moreB
def runN (l : List UInt8) : Nat := (runL l).length

/-- What stands between quotes (behind the first one), and how many bytes it has there with the last one. -/
def quoted (q : UInt8) : List UInt8 → Option (List UInt8 × Nat)
  | [] => none
  | [b] => if b = q then some ([], 1) else none
  | b :: c :: r =>
    if b = q then
      if c = q then (quoted q r).map fun x => (b :: x.1, 2 + x.2) else some ([], 1)
    else (quoted q (c :: r)).map fun x => (b :: x.1, 1 + x.2)

def twoB (b c : UInt8) : Bool := (b.toNat == 60 && c.toNat == 61) || (b.toNat == 62 && c.toNat == 61) || (b.toNat == 60 && c.toNat == 62)

def signN : List UInt8 → Nat
  | [] => 0
  | [b] => if signB b then 1 else 0
  | b :: c :: _ => if twoB b c then 2 else if signB b then 1 else 0

def nameB (t : List UInt8) : Bool := decide (1 ≤ t.length) && decide (t.length ≤ 40) && !t.contains 0

/-- The word at the head: kind, text, how many bytes. -/
def one : List UInt8 → Option (Nat × List UInt8 × Nat)
  | [] => none
  | b :: r =>
    if letterB b then some (0, (runL (b :: r)).map lowB, runN (b :: r))
    else if digitB b then if 0 ≤ readD (runL (b :: r)) then some (2, runL (b :: r), runN (b :: r)) else none
    else if b.toNat = 34 then (quoted 34 r).bind fun x => if nameB x.1 then some (1, x.1, 1 + x.2) else none
    else if b.toNat = 39 then (quoted 39 r).bind fun x => if x.1.length ≤ 100 then some (3, x.1, 1 + x.2) else none
    else if signN (b :: r) = 0 then none else some (4, (b :: r).take (signN (b :: r)), signN (b :: r))

theorem runN_pos {b : UInt8} {r : List UInt8} (h : moreB b = true) : 0 < runN (b :: r) := by
  simp [runN, runL, h]

theorem one_pos {l : List UInt8} {k : Nat} {t : List UInt8} {n : Nat} (h : one l = some (k, t, n)) : 0 < n := by
  cases l with
  | nil => simp [one] at h
  | cons b r =>
    rw [one] at h
    split at h
    · rename_i hb
      simp only [Option.some.injEq, Prod.mk.injEq] at h
      rw [← h.2.2]; exact runN_pos (by simp [moreB, hb])
    · split at h
      · rename_i hb
        split at h
        · simp only [Option.some.injEq, Prod.mk.injEq] at h
          rw [← h.2.2]; exact runN_pos (by simp [moreB, hb])
        · cases h
      · split at h
        · cases hq : quoted 34 r with
          | none => rw [hq] at h; cases h
          | some x =>
            rw [hq, Option.bind_some] at h
            split at h
            · simp only [Option.some.injEq, Prod.mk.injEq] at h; omega
            · cases h
        · split at h
          · cases hq : quoted 39 r with
            | none => rw [hq] at h; cases h
            | some x =>
              rw [hq, Option.bind_some] at h
              split at h
              · simp only [Option.some.injEq, Prod.mk.injEq] at h; omega
              · cases h
          · split at h
            · cases h
            · simp only [Option.some.injEq, Prod.mk.injEq] at h; omega

theorem one_len {l : List UInt8} {k : Nat} {t : List UInt8} {n : Nat} (h : one l = some (k, t, n)) : l ≠ [] := by
  rintro rfl; simp [one] at h

/-- The words from a place on, at which no gap stands; or the place of what is none. -/
def lexAt (at_ : Nat) (l : List UInt8) : Except Nat (List Tok) :=
  if l = [] then .ok [] else
  match h : one l with
  | none => .error at_
  | some (k, t, n) =>
    match lexAt (at_ + n + gap false (l.drop n)) ((l.drop n).drop (gap false (l.drop n))) with
    | .ok ts => .ok (⟨k, t, at_⟩ :: ts)
    | .error e => .error e
termination_by l.length
decreasing_by
  have h1 := one_pos h
  have h2 := one_len h
  cases l with
  | nil => exact absurd rfl h2
  | cons b r => simp only [List.length_drop, List.length_cons]; omega

def lexB (l : List UInt8) : Except Nat (List Tok) :=
  if 20000 < l.length then .error 20000 else lexAt (gap false l) (l.drop (gap false l))

def cat (ts : List Tok) : Except Nat (List Tok) → Except Nat (List Tok)
  | .ok us => .ok (ts ++ us)
  | .error e => .error e

theorem lexAt_nil (p : Nat) : lexAt p [] = .ok [] := by rw [lexAt]; simp
theorem lexAt_bad {p : Nat} {l : List UInt8} (h : l ≠ []) (h1 : one l = none) : lexAt p l = .error p := by
  rw [lexAt, if_neg h]; split
  · rfl
  · rename_i h2; rw [h1] at h2; cases h2
theorem lexAt_one {p : Nat} {l : List UInt8} {k : Nat} {t : List UInt8} {n : Nat} (h : one l = some (k, t, n)) :
    lexAt p l = cat [⟨k, t, p⟩] (lexAt (p + n + gap false (l.drop n)) ((l.drop n).drop (gap false (l.drop n)))) := by
  rw [lexAt, if_neg (one_len h)]
  split
  · rename_i h2; rw [h] at h2; cases h2
  · rename_i k' t' n' h2
    rw [h] at h2
    cases h2
    cases lexAt (p + n + gap false (l.drop n)) ((l.drop n).drop (gap false (l.drop n))) <;> rfl
theorem cat_cat (a b : List Tok) (r : Except Nat (List Tok)) : cat a (cat b r) = cat (a ++ b) r := by
  cases r <;> simp [cat]
theorem cat_nil (r : Except Nat (List Tok)) : cat [] r = r := by cases r <;> rfl

/-- How a call answers words. -/
def wordsOf : Except Nat (List Tok) → List Tok
  | .ok ts => ts
  | .error _ => []
def placeOf : Except Nat (List Tok) → Int
  | .ok _ => -1
  | .error p => (p : Int)

def quoteL (q : UInt8) (t : List UInt8) : List UInt8 := q :: (t.flatMap fun b => if b = q then [q, b] else [b]) ++ [q]

def spell1 (x : Int) (t : List UInt8) : Option (List UInt8) :=
  if x = 0 ∨ x = 2 ∨ x = 4 then some t else if x = 1 then some (quoteL 34 t) else if x = 3 then some (quoteL 39 t) else none

end Go.Proofs.YtpdcmmhhgnackaaGreatDoor

namespace Go.Proofs.YtpdcmmhhgnackaaGreatDoor
open Go.RowKit

def dec (n : Int) : ByteArray := ⟨(Lib.itoa n).toArray⟩

/-- The digits of u ahead of out; none for 0. -/
def decOn (u : Nat) (out : List UInt8) : List UInt8 := if u = 0 then out else Lib.decDigits u ++ out

theorem decOn_step (u : Nat) (out : List UInt8) (h : 0 < u) : decOn u out = decOn (u / 10) (UInt8.ofNat (48 + u % 10) :: out) := by
  unfold decOn
  rw [if_neg (by omega)]
  by_cases h10 : u < 10
  · rw [if_pos (by omega), Lib.decDigits_one h10, Nat.mod_eq_of_lt h10]
    rfl
  · rw [if_neg (by omega), Lib.decDigits, dif_neg h10]
    simp

theorem digit_cut (d : Nat) (h : d < 10) : (⟨#[48, 49, 50, 51, 52, 53, 54, 55, 56, 57]⟩ : ByteArray).extract d (d + 1) = ⟨#[UInt8.ofNat (48 + d)]⟩ := by
  have : ∀ d : Fin 10, (⟨#[48, 49, 50, 51, 52, 53, 54, 55, 56, 57]⟩ : ByteArray).extract d.val (d.val + 1) = ⟨#[UInt8.ofNat (48 + d.val)]⟩ := by decide
  exact this ⟨d, h⟩

theorem ba_cons0 (x : UInt8) (out : List UInt8) : (⟨#[x]⟩ : ByteArray) ++ ⟨out.toArray⟩ = ⟨(x :: out).toArray⟩ := by
  apply ByteArray.ext
  simp [ByteArray.data_append]

theorem decOn_len (u n : Nat) (out : List UInt8) (h : decOn u out = Lib.decDigits n) (hn : n < 18446744073709551616) : out.length ≤ 20 := by
  have h1 := congrArg List.length h
  rw [Lib.decDigits_length] at h1
  have h2 := Lib.nDigits_le20 n hn
  unfold decOn at h1
  split at h1
  · omega
  · rw [List.length_append] at h1; omega

set_option maxHeartbeats 1000000 in
theorem specDecPos (n : Nat) (w : World) (h0 : 0 < n) (h1 : (n : Int) ≤ 9223372036854775807) :
    Calls Tryz.prog 68 #[.int .i64 (n : Int)] w fun e w' => e = .returned (.string ⟨(Lib.decDigits n).toArray⟩) ∧ w = w' := by
  have hz : ((n : Int) == 0) = false := by simp; omega
  go_enter Tryz.func68, Tryz.ntmps68
  go_wp2
  go_loop [3, 4, 5] (fun o m _ => ∃ (u : Nat) (out : List UInt8), m = .int .i64 (u : Int) ∧ o = .string ⟨out.toArray⟩ ∧ u ≤ n ∧ Hid (decOn u out = Lib.decDigits n)) (fun _ m _ => (intOf m).toNat)
  case atStart => exact ⟨n, [], rfl, rfl, Nat.le_refl _, by unfold Hid decOn; rw [if_neg (by omega)]; simp⟩
  case round =>
    obtain ⟨u, out, rfl, rfl, hu, hd⟩ := hrel
    have hlen := decOn_len u n out hd.out (by omega)
    by_cases hp : 0 < u
    · have H := Lib.hid ((decOn_step u out hp).symm.trans hd.out)
      have hne : ((u : Int) != 0) = true := by rw [bne_iff_ne]; omega
      have Hc := Lib.hid (digit_cut (u % 10) (by omega))
      go_wp2
      go_round
      case rel => exact ⟨u / 10, UInt8.ofNat (48 + u % 10) :: out, by simp, by rw [Hc.out, ba_cons0], by omega, H⟩
      case measure => simp [intOf]; omega
    · obtain rfl : u = 0 := by omega
      have hd' := hd.out
      unfold decOn at hd'
      rw [if_pos rfl] at hd'
      have H := Lib.hid hd'
      clear hd hd'
      go_wp2
      go_ret
      exact ⟨by rw [← H.out]; rfl, rfl⟩

set_option maxHeartbeats 1000000 in
theorem specDecNeg (n : Nat) (w : World) (h0 : 0 < n) (h1 : (n : Int) ≤ 9223372036854775808) :
    Calls Tryz.prog 68 #[.int .i64 (-(n : Int))] w fun e w' => e = .returned (.string ⟨(45 :: Lib.decDigits n).toArray⟩) ∧ w = w' := by
  have hz : (-(n : Int) == 0) = false := by simp; omega
  go_enter Tryz.func68, Tryz.ntmps68
  go_wp2
  go_loop [3, 4, 5] (fun o m _ => ∃ (u : Nat) (out : List UInt8), m = .int .i64 (-(u : Int)) ∧ o = .string ⟨out.toArray⟩ ∧ u ≤ n ∧ Hid (decOn u out = Lib.decDigits n)) (fun _ m _ => (-(intOf m)).toNat)
  case atStart => exact ⟨n, [], rfl, rfl, Nat.le_refl _, by unfold Hid decOn; rw [if_neg (by omega)]; simp⟩
  case round =>
    obtain ⟨u, out, rfl, rfl, hu, hd⟩ := hrel
    have hlen := decOn_len u n out hd.out (by omega)
    by_cases hp : 0 < u
    · have H := Lib.hid ((decOn_step u out hp).symm.trans hd.out)
      have hne : (-(u : Int) != 0) = true := by rw [bne_iff_ne]; omega
      have Hc := Lib.hid (digit_cut (u % 10) (by omega))
      have hm : (-(u : Int)).tmod 10 = -((u % 10 : Nat) : Int) := by rw [Int.neg_tmod]; congr 1
      have hq : (-(u : Int)).tdiv 10 = -((u / 10 : Nat) : Int) := by rw [Int.neg_tdiv]; congr 1
      by_cases h10 : u % 10 = 0
      · have Hc' : Hid ((⟨#[48, 49, 50, 51, 52, 53, 54, 55, 56, 57]⟩ : ByteArray).extract 0 1 = ⟨#[UInt8.ofNat (48 + u % 10)]⟩) := by
          have := Hc.out
          rw [h10] at this
          unfold Hid
          rw [h10]
          exact this
        go_wp2
        go_round
        case rel => exact ⟨u / 10, UInt8.ofNat (48 + u % 10) :: out, by simp, by rw [Hc'.out, ba_cons0], by omega, H⟩
        case measure => simp [intOf]; omega
      · go_wp2
        go_round
        case rel => exact ⟨u / 10, UInt8.ofNat (48 + u % 10) :: out, by simp, by rw [Hc.out, ba_cons0], by omega, H⟩
        case measure => simp [intOf]; omega
    · have hz0 : (-(u : Int) != 0) = false := by simp; omega
      have hd' := hd.out
      unfold decOn at hd'
      rw [if_pos (by omega)] at hd'
      have H := Lib.hid hd'
      clear hd hd'
      go_wp2
      go_ret
      exact ⟨by rw [← H.out, ← ba_cons0]; rfl, rfl⟩

theorem specDecText (n : Int) (w : World) (h0 : -9223372036854775808 ≤ n) (h1 : n ≤ 9223372036854775807) :
    Calls Tryz.prog 68 #[.int .i64 n] w fun e w' => e = .returned (.string (dec n)) ∧ w = w' := by
  unfold dec Lib.itoa
  rcases Int.lt_trichotomy n 0 with h | h | h
  · obtain ⟨u, hu⟩ := Int.eq_ofNat_of_zero_le (show 0 ≤ -n by omega)
    have hn : n = -(u : Int) := by omega
    subst hn
    rw [if_pos (by omega), show (-(u : Int)).natAbs = u by omega]
    exact specDecNeg u w (by omega) (by omega)
  · subst h
    rw [if_neg (by omega), Lib.decDigits_one (by decide)]
    go_enter Tryz.func68, Tryz.ntmps68
    go_wp2
    go_ret
    exact ⟨rfl, rfl⟩
  · obtain ⟨u, rfl⟩ := Int.eq_ofNat_of_zero_le (show 0 ≤ n by omega)
    rw [if_neg (by omega), Int.toNat_natCast]
    exact specDecPos u w (by omega) (by omega)

end Go.Proofs.YtpdcmmhhgnackaaGreatDoor

namespace Go.Proofs.YtpdcmmhhgnackaaGreatDoor
open Go.RowKit

theorem decFrom_stop : ∀ (l : List UInt8) (k acc n : Nat) (b : UInt8), Lib.decFrom acc (l.take k) = some n → l[k]? = some b → Lib.digitVal b = none → Lib.decFrom acc l = none
  | [], k, _, _, _, _, hb, _ => by simp at hb
  | x :: r, 0, acc, n, b, _, hb, hd => by
    simp at hb
    subst hb
    simp [Lib.decFrom, hd]
  | x :: r, k + 1, acc, n, b, h, hb, hd => by
    rw [List.take_succ_cons, Lib.decFrom] at h
    rw [Lib.decFrom]
    cases hv : Lib.digitVal x with
    | none => rfl
    | some d =>
      rw [hv] at h
      exact decFrom_stop r k _ n b h (by simpa using hb) hd

theorem readD_stop {l : List UInt8} {k n : Nat} {b : UInt8} (h : Lib.decFrom 0 (l.take k) = some n) (hb : l[k]? = some b) (hd : Lib.digitVal b = none) : readD l = -1 := by
  unfold readD
  split
  · rfl
  · have h0 := decFrom_stop l k 0 n b h hb hd
    have : Lib.decNat l = none := by
      unfold Lib.decNat
      split
      · rfl
      · exact h0
    rw [this]

theorem readD_end {l : List UInt8} {n : Nat} (h9 : l.length ≤ 9) (h0 : l ≠ []) (h : Lib.decFrom 0 l = some n) : readD l = if Lib.itoa (n : Int) = l then (n : Int) else -1 := by
  have : Lib.decNat l = some n := by
    unfold Lib.decNat
    rw [if_neg (by simpa using h0), h]
  unfold readD
  rw [if_neg (by omega), this]

theorem specDigit (b : UInt8) (w : World) : Calls Tryz.prog 62 #[.int .u8 (b.toNat : Int)] w fun e w' => e = .returned (.bool (Lib.digitVal b).isSome) ∧ w = w' := by
  have hb : (b.toNat : Int) ≤ 255 := by have := UInt8.toNat_lt b; omega
  by_cases h1 : 48 ≤ b.toNat
  · by_cases h2 : b.toNat ≤ 57
    · have H : Hid ((Lib.digitVal b).isSome = true) := by unfold Hid Lib.digitVal; rw [if_pos ⟨h1, h2⟩]; rfl
      have ht : decide ((b.toNat : Int) ≤ 57) = true := by simp; omega
      go_enter Tryz.func62, Tryz.ntmps62
      go_wp2
      go_ret
      exact ⟨by rw [H.out]; rfl, rfl⟩
    · have H : Hid ((Lib.digitVal b).isSome = false) := by unfold Hid Lib.digitVal; rw [if_neg (by omega)]; rfl
      have ht : decide ((b.toNat : Int) ≤ 57) = false := by simp; omega
      go_enter Tryz.func62, Tryz.ntmps62
      go_wp2
      go_ret
      exact ⟨by rw [H.out]; rfl, rfl⟩
  · have H : Hid ((Lib.digitVal b).isSome = false) := by unfold Hid Lib.digitVal; rw [if_neg (by omega)]; rfl
    have ht : decide ((48 : Int) ≤ (b.toNat : Int)) = false := by simp; omega
    go_enter Tryz.func62, Tryz.ntmps62
    go_wp2
    go_ret
    exact ⟨by rw [H.out]; rfl, rfl⟩

theorem specDigitIs (b : UInt8) (w : World) (v : Bool) (h : (Lib.digitVal b).isSome = v) : Calls Tryz.prog 62 #[.int .u8 (b.toNat : Int)] w fun e w' => e = .returned (.bool v) ∧ w = w' := h ▸ specDigit b w

theorem pow9 {n k : Nat} (h : n < (0 + 1) * 10 ^ k) (hk : k ≤ 9) : n < 1000000000 := by
  have : 10 ^ k ≤ 10 ^ 9 := Nat.pow_le_pow_right (by omega) hk
  omega

end Go.Proofs.YtpdcmmhhgnackaaGreatDoor

namespace Go.Proofs.YtpdcmmhhgnackaaGreatDoor
open Go.RowKit

def inI (x lo hi : Int) : Bool := decide (lo ≤ x) && decide (x ≤ hi)

theorem specIn (x lo hi : Int) (w : World) : Calls Tryz.prog 66 #[.int .i64 x, .int .i64 lo, .int .i64 hi] w fun e w' => e = .returned (.bool (inI x lo hi)) ∧ w = w' := by
  by_cases h1 : lo ≤ x
  · have H : Hid (inI x lo hi = decide (x ≤ hi)) := by unfold Hid inI; simp [h1]
    go_enter Tryz.func66, Tryz.ntmps66
    go_wp2
    go_ret
    exact ⟨by rw [H.out]; rfl, rfl⟩
  · have H : Hid (inI x lo hi = false) := by unfold Hid inI; simp [h1]
    have ht : decide (lo ≤ x) = false := by simp; omega
    go_enter Tryz.func66, Tryz.ntmps66
    go_wp2
    go_ret
    exact ⟨by rw [H.out]; rfl, rfl⟩

theorem specInIs (x lo hi : Int) (w : World) (v : Bool) (h : inI x lo hi = v) : Calls Tryz.prog 66 #[.int .i64 x, .int .i64 lo, .int .i64 hi] w fun e w' => e = .returned (.bool v) ∧ w = w' := h ▸ specIn x lo hi w

theorem digit_eq (b : UInt8) : (Lib.digitVal b).isSome = digitB b := by
  unfold Lib.digitVal digitB
  split
  · rename_i h; simp [h.1, h.2]
  · rename_i h
    symm
    simp only [Option.isSome_none, Bool.and_eq_false_iff, decide_eq_false_iff_not]
    omega

theorem specDigitB (b : UInt8) (w : World) (v : Bool) (h : digitB b = v) : Calls Tryz.prog 62 #[.int .u8 (b.toNat : Int)] w fun e w' => e = .returned (.bool v) ∧ w = w' :=
  specDigitIs b w v ((digit_eq b).trans h)

theorem letter_eq (b : UInt8) : letterB b = (inI (b.toNat : Int) 65 90 || inI (b.toNat : Int) 97 122 || ((b.toNat : Int) == 95)) := by
  rw [Bool.eq_iff_iff]
  simp only [letterB, inI, Bool.or_eq_true, Bool.and_eq_true, decide_eq_true_eq, beq_iff_eq]
  omega

theorem specLetter (b : UInt8) (w : World) : Calls Tryz.prog 107 #[.int .u8 (b.toNat : Int)] w fun e w' => e = .returned (.bool (letterB b)) ∧ w = w' := by
  have hby := byte_le b
  have HL := Lib.hid (letter_eq b)
  cases h1 : inI (b.toNat : Int) 65 90 with
  | true =>
    have H : Hid (letterB b = true) := by unfold Hid; rw [HL.out, h1]; rfl
    have H1 := Lib.hid h1
    clear h1
    go_enter Tryz.func107, Tryz.ntmps107
    go_wp2_with (go_at_call 66; refine (specInIs _ 65 90 _ true H1.out).mono ?_; rintro e w' ⟨rfl, rfl⟩)
    go_ret
    exact ⟨by rw [H.out]; rfl, rfl⟩
  | false =>
    have H1 := Lib.hid h1
    cases h2 : inI (b.toNat : Int) 97 122 with
    | true =>
      have H : Hid (letterB b = true) := by unfold Hid; rw [HL.out, h1, h2]; rfl
      have H2 := Lib.hid h2
      clear h1 h2
      go_enter Tryz.func107, Tryz.ntmps107
      go_wp2_with fail
      refine (specInIs _ 65 90 _ false H1.out).mono ?_
      rintro e w' ⟨rfl, rfl⟩
      go_wp2_with fail
      refine (specInIs _ 97 122 _ true H2.out).mono ?_
      rintro e w' ⟨rfl, rfl⟩
      go_wp2_with fail
      go_ret
      exact ⟨by rw [H.out]; rfl, rfl⟩
    | false =>
      have H : Hid (letterB b = ((b.toNat : Int) == 95)) := by unfold Hid; rw [HL.out, h1, h2]; rfl
      have H2 := Lib.hid h2
      clear h1 h2
      go_enter Tryz.func107, Tryz.ntmps107
      go_wp2_with fail
      refine (specInIs _ 65 90 _ false H1.out).mono ?_
      rintro e w' ⟨rfl, rfl⟩
      go_wp2_with fail
      refine (specInIs _ 97 122 _ false H2.out).mono ?_
      rintro e w' ⟨rfl, rfl⟩
      go_wp2_with fail
      go_ret
      exact ⟨by rw [H.out]; rfl, rfl⟩

theorem specLetterIs (b : UInt8) (w : World) (v : Bool) (h : letterB b = v) : Calls Tryz.prog 107 #[.int .u8 (b.toNat : Int)] w fun e w' => e = .returned (.bool v) ∧ w = w' := h ▸ specLetter b w

theorem specMore (b : UInt8) (w : World) (v : Bool) (hv : moreB b = v) : Calls Tryz.prog 65 #[.int .u8 (b.toNat : Int)] w fun e w' => e = .returned (.bool v) ∧ w = w' := by
  subst hv
  have hby := byte_le b
  cases h1 : letterB b with
  | true =>
    have H : Hid (moreB b = true) := by unfold Hid moreB; rw [h1]; rfl
    have H1 := Lib.hid h1
    clear h1
    go_enter Tryz.func65, Tryz.ntmps65
    go_wp2_with (go_at_call 107; refine (specLetterIs b _ true H1.out).mono ?_; rintro e w' ⟨rfl, rfl⟩)
    go_ret
    exact ⟨by rw [H.out]; rfl, rfl⟩
  | false =>
    have H : Hid (moreB b = digitB b) := by unfold Hid moreB; rw [h1]; rfl
    have H1 := Lib.hid h1
    clear h1
    go_enter Tryz.func65, Tryz.ntmps65
    go_wp2_with (first
      | (go_at_call 107; refine (specLetterIs b _ false H1.out).mono ?_; rintro e w' ⟨rfl, rfl⟩)
      | (go_at_call 62; refine (specDigitB b _ _ rfl).mono ?_; rintro e w' ⟨rfl, rfl⟩))
    go_ret
    exact ⟨by rw [H.out]; rfl, rfl⟩

end Go.Proofs.YtpdcmmhhgnackaaGreatDoor

namespace Go.Proofs.YtpdcmmhhgnackaaGreatDoor
open Go.RowKit

theorem beqF {b : UInt8} {n : Int} (h : (b.toNat : Int) ≠ n) : (((b.toNat : Int)) == n) = false := by rw [beq_eq_false_iff_ne]; exact h
theorem beqT {b : UInt8} {n : Int} (h : (b.toNat : Int) = n) : (((b.toNat : Int)) == n) = true := by simp [h]

theorem name_zero (s : ByteArray) (k : Nat) (h : k < s.size) (hb : s[k].toNat = 0) : nameB s.data.toList = false := by
  have hm : s.data.toList.contains 0 = true := by
    rw [List.contains_iff_mem, List.mem_iff_getElem]
    exact ⟨k, by simpa using h, UInt8.toNat_inj.1 hb⟩
  unfold nameB; rw [hm]; simp

theorem name_noZero (s : ByteArray) (h : ∀ (k : Nat) (hk : k < s.size), s[k].toNat ≠ 0) : nameB s.data.toList = inI (s.size : Int) 1 40 := by
  have hm : s.data.toList.contains 0 = false := by
    rw [Bool.eq_false_iff]
    intro hc
    rw [List.contains_iff_mem, List.mem_iff_getElem] at hc
    obtain ⟨k, hk, e⟩ := hc
    have hk' : k < s.size := by simpa using hk
    exact h k hk' (by have : s[k] = 0 := e; rw [this]; rfl)
  have hl : s.data.toList.length = s.size := by simp
  unfold nameB inI
  rw [hm, hl, Bool.eq_iff_iff]
  simp only [Bool.and_eq_true, decide_eq_true_eq, Bool.not_false, and_true]
  omega

set_option maxHeartbeats 1000000 in
theorem specName (s : ByteArray) (w : World) (hs : s.size ≤ 1048576) :
    Calls Tryz.prog 106 #[.string s] w fun e w' => e = .returned (.bool (nameB s.data.toList)) ∧ w = w' := by
  go_enter Tryz.func106, Tryz.ntmps106
  go_wp2_with fail
  go_loop [3] (fun i => ∃ k : Nat, k ≤ s.size ∧ i = .int .i64 k ∧ Hid (∀ (j : Nat) (hj : j < s.size), j < k → s[j].toNat ≠ 0)) (fun i => s.size - (intOf i).toNat)
  case atStart => exact ⟨0, Nat.zero_le _, rfl, fun j _ h => by omega⟩
  case round =>
    obtain ⟨k, hk, rfl, hall⟩ := hrel
    by_cases hlt : k < s.size
    · have hby := byte_le s[k]
      by_cases h0 : s[k].toNat = 0
      · have HN := Lib.hid (name_zero s k hlt h0)
        have T := beqT (b := s[k]) (n := 0) (by omega)
        clear h0
        go_wp2_with fail
        go_ret
        exact ⟨by rw [HN.out]; rfl, rfl⟩
      · have HA : Hid (∀ (j : Nat) (hj : j < s.size), j < k + 1 → s[j].toNat ≠ 0) := fun j hj hjk => by
          by_cases e : j = k
          · subst e; exact h0
          · exact hall.out j hj (by omega)
        have T := beqF (b := s[k]) (n := 0) (by omega)
        clear h0
        go_wp2_with fail
        exact ⟨⟨k + 1, by omega, by go_num, HA⟩, by simp [intOf]; omega⟩
    · have HN : Hid (nameB s.data.toList = inI (s.size : Int) 1 40) := name_noZero s (fun j hj => hall.out j hj (by omega))
      go_wp2_with fail
      refine (specIn _ 1 40 _).mono ?_
      rintro e w' ⟨rfl, rfl⟩
      go_wp2_with fail
      go_ret
      exact ⟨by rw [HN.out]; rfl, rfl⟩

theorem specNameOk (s : ByteArray) (w : World) (hs : s.size ≤ 1048576) (v : Bool) (hv : nameB s.data.toList = v) :
    Calls Tryz.prog 59 #[.string s] w fun e w' => e = .returned (.bool v) ∧ w = w' := by
  subst hv
  go_enter Tryz.func59, Tryz.ntmps59
  go_wp2_with fail
  refine (specName s _ hs).mono ?_
  rintro e w' ⟨rfl, rfl⟩
  go_wp2_with fail
  go_ret
  exact ⟨rfl, rfl⟩

end Go.Proofs.YtpdcmmhhgnackaaGreatDoor
