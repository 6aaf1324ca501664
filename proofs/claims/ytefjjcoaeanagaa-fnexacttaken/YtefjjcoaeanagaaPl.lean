/- Schemas in memory: tables, columns, rules, indexes, views, sequences, enumerations, plans. Written by tools/gen_plan.py. -/
import Derived.Test.YtefjjcoaeanagaaDat
import Derived.Test.YtefjjcoaeanagaaTyp
namespace Go.Proofs.Ytefjjcoaeanagaa
open Go.RowKit

structure Lab where
  name : ByteArray
  list : List ByteArray

def Lab.fit (x : Lab) : Prop := x.name.size ≤ maxLen

def Lab.wt (x : Lab) : Nat := x.name.size + (x.list.length + lets x.list)

def RLab : Rd Lab := fun lo w vs x => ∃ (a0 : Option Addr) (c0 : Nat), vs = [.string x.name, .slice a0 x.list.length c0] ∧ x.fit ∧ Ss lo w a0 c0 x.list

theorem goodLab : Good RLab := by
  constructor
  · rintro lo w w' vs x ⟨a0, c0, h, f, s0⟩ hk
    exact ⟨a0, c0, h, f, s0.kept hk⟩
  · rintro lo lo' w vs x ⟨a0, c0, h, f, s0⟩ hl
    exact ⟨a0, c0, h, f, s0.lower hl⟩

structure Sq where
  name : ByteArray
  start : Int

def Sq.fit (x : Sq) : Prop := x.name.size ≤ maxLen ∧ i64E x.start

def Sq.wt (x : Sq) : Nat := x.name.size

def RSq : Rd Sq := fun lo w vs x => vs = [.string x.name, .int .i64 x.start] ∧ x.fit

theorem goodSq : Good RSq := by
  constructor
  · rintro lo w w' vs x ⟨h, f⟩ _
    exact ⟨h, f⟩
  · rintro lo lo' w vs x ⟨h, f⟩ _
    exact ⟨h, f⟩

structure Co where
  name : ByteArray
  ty : Ty
  notNull : Bool
  dflt : List Ex

def Co.fit (x : Co) : Prop := x.name.size ≤ maxLen ∧ x.ty.name.size ≤ maxLen ∧ i64E x.ty.kind ∧ i64E x.ty.len

def Co.wt (x : Co) : Nat := x.name.size + x.ty.name.size + (x.dflt.length + wtL x.dflt)

def RCo : Rd Co := fun lo w vs x => ∃ (a0 : Option Addr) (c0 : Nat), vs = [.string x.name, .int .i64 x.ty.kind, .int .i64 x.ty.len, .string x.ty.name, .bool x.notNull, .slice a0 x.dflt.length c0] ∧ x.fit ∧ Ks lo w a0 c0 x.dflt

theorem goodCo : Good RCo := by
  constructor
  · rintro lo w w' vs x ⟨a0, c0, h, f, s0⟩ hk
    exact ⟨a0, c0, h, f, s0.kept hk⟩
  · rintro lo lo' w vs x ⟨a0, c0, h, f, s0⟩ hl
    exact ⟨a0, c0, h, f, s0.lower hl⟩

structure Ru where
  name : ByteArray
  kind : Int
  cols : List ByteArray
  expr : List Ex
  table : ByteArray
  to : List ByteArray

def Ru.fit (x : Ru) : Prop := x.name.size ≤ maxLen ∧ i64E x.kind ∧ x.table.size ≤ maxLen

def Ru.wt (x : Ru) : Nat := x.name.size + (x.cols.length + lets x.cols) + (x.expr.length + wtL x.expr) + x.table.size + (x.to.length + lets x.to)

def RRu : Rd Ru := fun lo w vs x => ∃ (a0 : Option Addr) (c0 : Nat), ∃ (a1 : Option Addr) (c1 : Nat), ∃ (a2 : Option Addr) (c2 : Nat), vs = [.string x.name, .int .i64 x.kind, .slice a0 x.cols.length c0, .slice a1 x.expr.length c1, .string x.table, .slice a2 x.to.length c2] ∧ x.fit ∧ Ss lo w a0 c0 x.cols ∧ Ks lo w a1 c1 x.expr ∧ Ss lo w a2 c2 x.to

theorem goodRu : Good RRu := by
  constructor
  · rintro lo w w' vs x ⟨a0, c0, a1, c1, a2, c2, h, f, s0, s1, s2⟩ hk
    exact ⟨a0, c0, a1, c1, a2, c2, h, f, s0.kept hk, s1.kept hk, s2.kept hk⟩
  · rintro lo lo' w vs x ⟨a0, c0, a1, c1, a2, c2, h, f, s0, s1, s2⟩ hl
    exact ⟨a0, c0, a1, c1, a2, c2, h, f, s0.lower hl, s1.lower hl, s2.lower hl⟩

structure Tb where
  name : ByteArray
  cols : List Co
  rules : List Ru
  token : Int

def Tb.fit (x : Tb) : Prop := x.name.size ≤ maxLen ∧ i64E x.token

def Tb.wt (x : Tb) : Nat := x.name.size + (x.cols.length + wtS Co.wt x.cols) + (x.rules.length + wtS Ru.wt x.rules)

def RTb : Rd Tb := fun lo w vs x => ∃ (a0 : Option Addr) (c0 : Nat), ∃ (a1 : Option Addr) (c1 : Nat), vs = [.string x.name, .slice a0 x.cols.length c0, .slice a1 x.rules.length c1, .int .i64 x.token] ∧ x.fit ∧ Sl 6 RCo lo w a0 c0 x.cols ∧ Sl 6 RRu lo w a1 c1 x.rules

theorem goodTb : Good RTb := by
  constructor
  · rintro lo w w' vs x ⟨a0, c0, a1, c1, h, f, s0, s1⟩ hk
    exact ⟨a0, c0, a1, c1, h, f, s0.kept goodCo hk, s1.kept goodRu hk⟩
  · rintro lo lo' w vs x ⟨a0, c0, a1, c1, h, f, s0, s1⟩ hl
    exact ⟨a0, c0, a1, c1, h, f, s0.lower goodCo hl, s1.lower goodRu hl⟩

structure Ix where
  name : ByteArray
  table : ByteArray
  cols : List ByteArray
  uniq : Bool

def Ix.fit (x : Ix) : Prop := x.name.size ≤ maxLen ∧ x.table.size ≤ maxLen

def Ix.wt (x : Ix) : Nat := x.name.size + x.table.size + (x.cols.length + lets x.cols)

def RIx : Rd Ix := fun lo w vs x => ∃ (a0 : Option Addr) (c0 : Nat), vs = [.string x.name, .string x.table, .slice a0 x.cols.length c0, .bool x.uniq] ∧ x.fit ∧ Ss lo w a0 c0 x.cols

theorem goodIx : Good RIx := by
  constructor
  · rintro lo w w' vs x ⟨a0, c0, h, f, s0⟩ hk
    exact ⟨a0, c0, h, f, s0.kept hk⟩
  · rintro lo lo' w vs x ⟨a0, c0, h, f, s0⟩ hl
    exact ⟨a0, c0, h, f, s0.lower hl⟩

structure Vw where
  name : ByteArray
  table : ByteArray
  cols : List ByteArray
  whr : List Ex

def Vw.fit (x : Vw) : Prop := x.name.size ≤ maxLen ∧ x.table.size ≤ maxLen

def Vw.wt (x : Vw) : Nat := x.name.size + x.table.size + (x.cols.length + lets x.cols) + (x.whr.length + wtL x.whr)

def RVw : Rd Vw := fun lo w vs x => ∃ (a0 : Option Addr) (c0 : Nat), ∃ (a1 : Option Addr) (c1 : Nat), vs = [.string x.name, .string x.table, .slice a0 x.cols.length c0, .slice a1 x.whr.length c1] ∧ x.fit ∧ Ss lo w a0 c0 x.cols ∧ Ks lo w a1 c1 x.whr

theorem goodVw : Good RVw := by
  constructor
  · rintro lo w w' vs x ⟨a0, c0, a1, c1, h, f, s0, s1⟩ hk
    exact ⟨a0, c0, a1, c1, h, f, s0.kept hk, s1.kept hk⟩
  · rintro lo lo' w vs x ⟨a0, c0, a1, c1, h, f, s0, s1⟩ hl
    exact ⟨a0, c0, a1, c1, h, f, s0.lower hl, s1.lower hl⟩

structure Pl where
  enums : List Lab
  seqs : List Sq
  tables : List Tb
  indexes : List Ix
  views : List Vw
  next : Int

def Pl.fit (x : Pl) : Prop := i64E x.next

def Pl.wt (x : Pl) : Nat := (x.enums.length + wtS Lab.wt x.enums) + (x.seqs.length + wtS Sq.wt x.seqs) + (x.tables.length + wtS Tb.wt x.tables) + (x.indexes.length + wtS Ix.wt x.indexes) + (x.views.length + wtS Vw.wt x.views)

def RPl : Rd Pl := fun lo w vs x => ∃ (a0 : Option Addr) (c0 : Nat), ∃ (a1 : Option Addr) (c1 : Nat), ∃ (a2 : Option Addr) (c2 : Nat), ∃ (a3 : Option Addr) (c3 : Nat), ∃ (a4 : Option Addr) (c4 : Nat), vs = [.slice a0 x.enums.length c0, .slice a1 x.seqs.length c1, .slice a2 x.tables.length c2, .slice a3 x.indexes.length c3, .slice a4 x.views.length c4, .int .i64 x.next] ∧ x.fit ∧ Sl 2 RLab lo w a0 c0 x.enums ∧ Sl 2 RSq lo w a1 c1 x.seqs ∧ Sl 4 RTb lo w a2 c2 x.tables ∧ Sl 4 RIx lo w a3 c3 x.indexes ∧ Sl 4 RVw lo w a4 c4 x.views

theorem goodPl : Good RPl := by
  constructor
  · rintro lo w w' vs x ⟨a0, c0, a1, c1, a2, c2, a3, c3, a4, c4, h, f, s0, s1, s2, s3, s4⟩ hk
    exact ⟨a0, c0, a1, c1, a2, c2, a3, c3, a4, c4, h, f, s0.kept goodLab hk, s1.kept goodSq hk, s2.kept goodTb hk, s3.kept goodIx hk, s4.kept goodVw hk⟩
  · rintro lo lo' w vs x ⟨a0, c0, a1, c1, a2, c2, a3, c3, a4, c4, h, f, s0, s1, s2, s3, s4⟩ hl
    exact ⟨a0, c0, a1, c1, a2, c2, a3, c3, a4, c4, h, f, s0.lower goodLab hl, s1.lower goodSq hl, s2.lower goodTb hl, s3.lower goodIx hl, s4.lower goodVw hl⟩

end Go.Proofs.Ytefjjcoaeanagaa
