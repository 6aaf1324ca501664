/- Schemas in memory: tables, columns, rules, indexes, views, sequences, enumerations, plans. Written by tools/gen_plan.py. -/
/- The place of the first thing of a name. Written by tools/gen_plan.py. -/
/- spec.l05Col over columns in memory. Cut out of colAt.lean. -/
/- spec.l05Sort: what the values of an expression are. -/
import Derived.Test.YthebkfanpnbanaaDoorMDat
import Derived.Test.YthebkfanpnbanaaDoorMDrawOdd
import Derived.Test.YthebkfanpnbanaaDoorMExWalk
import Derived.Maps.AppendAt
namespace Go.Proofs.YthebkfanpnbanaaDoor
open Go.RowKit

structure Lab where
  name : ByteArray
  list : List ByteArray

def Lab.fit (x : Lab) : Prop := x.name.size ≤ maxLen

def Lab.wt (x : Lab) : Nat := x.name.size + (x.list.length + lets x.list)

def RLab : Rd Lab := fun lo w vs x => ∃ (a0 : Option Addr) (c0 : Nat), vs = [.string x.name, .slice a0 x.list.length c0] ∧ x.fit ∧ Ss lo w a0 c0 x.list

theorem goodLab : Good RLab := by
  constructor
  · rintro lo w w' vs x ⟨a0, c0, h, f, s0⟩ hk
    exact ⟨a0, c0, h, f, s0.kept hk⟩
  · rintro lo lo' w vs x ⟨a0, c0, h, f, s0⟩ hl
    exact ⟨a0, c0, h, f, s0.lower hl⟩

structure Sq where
  name : ByteArray
  start : Int

def Sq.fit (x : Sq) : Prop := x.name.size ≤ maxLen ∧ i64E x.start

def Sq.wt (x : Sq) : Nat := x.name.size

def RSq : Rd Sq := fun lo w vs x => vs = [.string x.name, .int .i64 x.start] ∧ x.fit

theorem goodSq : Good RSq := by
  constructor
  · rintro lo w w' vs x ⟨h, f⟩ _
    exact ⟨h, f⟩
  · rintro lo lo' w vs x ⟨h, f⟩ _
    exact ⟨h, f⟩

structure Co where
  name : ByteArray
  ty : Ty
  notNull : Bool
  dflt : List Ex

def Co.fit (x : Co) : Prop := x.name.size ≤ maxLen ∧ x.ty.name.size ≤ maxLen ∧ i64E x.ty.kind ∧ i64E x.ty.len

def Co.wt (x : Co) : Nat := x.name.size + x.ty.name.size + (x.dflt.length + wtL x.dflt)

def RCo : Rd Co := fun lo w vs x => ∃ (a0 : Option Addr) (c0 : Nat), vs = [.string x.name, .int .i64 x.ty.kind, .int .i64 x.ty.len, .string x.ty.name, .bool x.notNull, .slice a0 x.dflt.length c0] ∧ x.fit ∧ Ks lo w a0 c0 x.dflt

theorem goodCo : Good RCo := by
  constructor
  · rintro lo w w' vs x ⟨a0, c0, h, f, s0⟩ hk
    exact ⟨a0, c0, h, f, s0.kept hk⟩
  · rintro lo lo' w vs x ⟨a0, c0, h, f, s0⟩ hl
    exact ⟨a0, c0, h, f, s0.lower hl⟩

structure Ru where
  name : ByteArray
  kind : Int
  cols : List ByteArray
  expr : List Ex
  table : ByteArray
  to : List ByteArray

def Ru.fit (x : Ru) : Prop := x.name.size ≤ maxLen ∧ i64E x.kind ∧ x.table.size ≤ maxLen

def Ru.wt (x : Ru) : Nat := x.name.size + (x.cols.length + lets x.cols) + (x.expr.length + wtL x.expr) + x.table.size + (x.to.length + lets x.to)

def RRu : Rd Ru := fun lo w vs x => ∃ (a0 : Option Addr) (c0 : Nat), ∃ (a1 : Option Addr) (c1 : Nat), ∃ (a2 : Option Addr) (c2 : Nat), vs = [.string x.name, .int .i64 x.kind, .slice a0 x.cols.length c0, .slice a1 x.expr.length c1, .string x.table, .slice a2 x.to.length c2] ∧ x.fit ∧ Ss lo w a0 c0 x.cols ∧ Ks lo w a1 c1 x.expr ∧ Ss lo w a2 c2 x.to

theorem goodRu : Good RRu := by
  constructor
  · rintro lo w w' vs x ⟨a0, c0, a1, c1, a2, c2, h, f, s0, s1, s2⟩ hk
    exact ⟨a0, c0, a1, c1, a2, c2, h, f, s0.kept hk, s1.kept hk, s2.kept hk⟩
  · rintro lo lo' w vs x ⟨a0, c0, a1, c1, a2, c2, h, f, s0, s1, s2⟩ hl
    exact ⟨a0, c0, a1, c1, a2, c2, h, f, s0.lower hl, s1.lower hl, s2.lower hl⟩

structure Tb where
  name : ByteArray
  cols : List Co
  rules : List Ru
  token : Int

def Tb.fit (x : Tb) : Prop := x.name.size ≤ maxLen ∧ i64E x.token

def Tb.wt (x : Tb) : Nat := x.name.size + (x.cols.length + wtS Co.wt x.cols) + (x.rules.length + wtS Ru.wt x.rules)

def RTb : Rd Tb := fun lo w vs x => ∃ (a0 : Option Addr) (c0 : Nat), ∃ (a1 : Option Addr) (c1 : Nat), vs = [.string x.name, .slice a0 x.cols.length c0, .slice a1 x.rules.length c1, .int .i64 x.token] ∧ x.fit ∧ Sl 6 RCo lo w a0 c0 x.cols ∧ Sl 6 RRu lo w a1 c1 x.rules

theorem goodTb : Good RTb := by
  constructor
  · rintro lo w w' vs x ⟨a0, c0, a1, c1, h, f, s0, s1⟩ hk
    exact ⟨a0, c0, a1, c1, h, f, s0.kept goodCo hk, s1.kept goodRu hk⟩
  · rintro lo lo' w vs x ⟨a0, c0, a1, c1, h, f, s0, s1⟩ hl
    exact ⟨a0, c0, a1, c1, h, f, s0.lower goodCo hl, s1.lower goodRu hl⟩

structure Ix where
  name : ByteArray
  table : ByteArray
  cols : List ByteArray
  uniq : Bool

def Ix.fit (x : Ix) : Prop := x.name.size ≤ maxLen ∧ x.table.size ≤ maxLen

def Ix.wt (x : Ix) : Nat := x.name.size + x.table.size + (x.cols.length + lets x.cols)

def RIx : Rd Ix := fun lo w vs x => ∃ (a0 : Option Addr) (c0 : Nat), vs = [.string x.name, .string x.table, .slice a0 x.cols.length c0, .bool x.uniq] ∧ x.fit ∧ Ss lo w a0 c0 x.cols

theorem goodIx : Good RIx := by
  constructor
  · rintro lo w w' vs x ⟨a0, c0, h, f, s0⟩ hk
    exact ⟨a0, c0, h, f, s0.kept hk⟩
  · rintro lo lo' w vs x ⟨a0, c0, h, f, s0⟩ hl
    exact ⟨a0, c0, h, f, s0.lower hl⟩

structure Vw where
  name : ByteArray
  table : ByteArray
  cols : List ByteArray
  whr : List Ex

def Vw.fit (x : Vw) : Prop := x.name.size ≤ maxLen ∧ x.table.size ≤ maxLen

def Vw.wt (x : Vw) : Nat := x.name.size + x.table.size + (x.cols.length + lets x.cols) + (x.whr.length + wtL x.whr)

def RVw : Rd Vw := fun lo w vs x => ∃ (a0 : Option Addr) (c0 : Nat), ∃ (a1 : Option Addr) (c1 : Nat), vs = [.string x.name, .string x.table, .slice a0 x.cols.length c0, .slice a1 x.whr.length c1] ∧ x.fit ∧ Ss lo w a0 c0 x.cols ∧ Ks lo w a1 c1 x.whr

theorem goodVw : Good RVw := by
  constructor
  · rintro lo w w' vs x ⟨a0, c0, a1, c1, h, f, s0, s1⟩ hk
    exact ⟨a0, c0, a1, c1, h, f, s0.kept hk, s1.kept hk⟩
  · rintro lo lo' w vs x ⟨a0, c0, a1, c1, h, f, s0, s1⟩ hl
    exact ⟨a0, c0, a1, c1, h, f, s0.lower hl, s1.lower hl⟩

structure Pl where
  enums : List Lab
  seqs : List Sq
  tables : List Tb
  indexes : List Ix
  views : List Vw
  next : Int

def Pl.fit (x : Pl) : Prop := i64E x.next

def Pl.wt (x : Pl) : Nat := (x.enums.length + wtS Lab.wt x.enums) + (x.seqs.length + wtS Sq.wt x.seqs) + (x.tables.length + wtS Tb.wt x.tables) + (x.indexes.length + wtS Ix.wt x.indexes) + (x.views.length + wtS Vw.wt x.views)

def RPl : Rd Pl := fun lo w vs x => ∃ (a0 : Option Addr) (c0 : Nat), ∃ (a1 : Option Addr) (c1 : Nat), ∃ (a2 : Option Addr) (c2 : Nat), ∃ (a3 : Option Addr) (c3 : Nat), ∃ (a4 : Option Addr) (c4 : Nat), vs = [.slice a0 x.enums.length c0, .slice a1 x.seqs.length c1, .slice a2 x.tables.length c2, .slice a3 x.indexes.length c3, .slice a4 x.views.length c4, .int .i64 x.next] ∧ x.fit ∧ Sl 2 RLab lo w a0 c0 x.enums ∧ Sl 2 RSq lo w a1 c1 x.seqs ∧ Sl 4 RTb lo w a2 c2 x.tables ∧ Sl 4 RIx lo w a3 c3 x.indexes ∧ Sl 4 RVw lo w a4 c4 x.views

theorem goodPl : Good RPl := by
  constructor
  · rintro lo w w' vs x ⟨a0, c0, a1, c1, a2, c2, a3, c3, a4, c4, h, f, s0, s1, s2, s3, s4⟩ hk
    exact ⟨a0, c0, a1, c1, a2, c2, a3, c3, a4, c4, h, f, s0.kept goodLab hk, s1.kept goodSq hk, s2.kept goodTb hk, s3.kept goodIx hk, s4.kept goodVw hk⟩
  · rintro lo lo' w vs x ⟨a0, c0, a1, c1, a2, c2, a3, c3, a4, c4, h, f, s0, s1, s2, s3, s4⟩ hl
    exact ⟨a0, c0, a1, c1, a2, c2, a3, c3, a4, c4, h, f, s0.lower goodLab hl, s1.lower goodSq hl, s2.lower goodTb hl, s3.lower goodIx hl, s4.lower goodVw hl⟩

end Go.Proofs.YthebkfanpnbanaaDoor

namespace Go.Proofs.YthebkfanpnbanaaDoor
open Go.RowKit

/-- The place of the first thing of that name; -1 where there is none. -/
def findAt {X : Type} (f : X → ByteArray) : List X → ByteArray → Int
  | [], _ => -1
  | x :: r, n => if ((f x).toList == n.toList) = true then 0 else if findAt f r n < 0 then -1 else findAt f r n + 1

theorem findAt_hit {X : Type} (f : X → ByteArray) (xs : List X) (n : ByteArray) (k : Nat) (h : k < xs.length) (hne : ∀ m (hm : m < xs.length), m < k → ((f xs[m]).toList == n.toList) = false) (he : ((f xs[k]).toList == n.toList) = true) : findAt f xs n = k := by
  induction xs generalizing k with
  | nil => simp at h
  | cons x r ih =>
    cases k with
    | zero =>
      have he' : ((f x).toList == n.toList) = true := he
      rw [findAt, if_pos he']
      rfl
    | succ k =>
      have h0 : ((f x).toList == n.toList) = false := hne 0 (by simp) (by omega)
      have hr := ih k (by simpa using h) (fun m hm hmk => hne (m + 1) (by simpa using hm) (by omega)) he
      rw [findAt, if_neg (by rw [h0]; simp), hr, if_neg (by omega)]
      omega

theorem findAt_miss {X : Type} (f : X → ByteArray) (xs : List X) (n : ByteArray) (hne : ∀ m (hm : m < xs.length), ((f xs[m]).toList == n.toList) = false) : findAt f xs n = -1 := by
  induction xs with
  | nil => rfl
  | cons x r ih =>
    have h0 : ((f x).toList == n.toList) = false := hne 0 (by simp)
    have hr := ih fun m hm => hne (m + 1) (by simpa using hm)
    rw [findAt, if_neg (by rw [h0]; simp), hr, if_pos (by omega)]

theorem findAt_small {X : Type} (f : X → ByteArray) (xs : List X) (n : ByteArray) : -1 ≤ findAt f xs n ∧ findAt f xs n < xs.length := by
  induction xs with
  | nil => simp [findAt]
  | cons x r ih =>
    rw [findAt, List.length_cons]
    split
    · omega
    · split <;> omega

end Go.Proofs.YthebkfanpnbanaaDoor

namespace Go.Proofs.YthebkfanpnbanaaDoor
open Go.RowKit

set_option maxHeartbeats 1000000 in
theorem specCol (a : Option Addr) (c : Nat) (xs : List Co) (n : ByteArray) (w : World) (hx : Sl 6 RCo 0 w a c xs) :
    Calls Tryd.prog 36 #[.slice a xs.length c, .string n] w fun e w' => e = .returned (.int .i64 (findAt Co.name xs n)) ∧ Below w.heap.size w w' := by
  have hl := hx.len
  have HK := Lib.hid (fun w' (hb : Below w.heap.size w w') => hx.kept goodCo (Kept.below hb))
  clear hx
  go_enter Tryd.func36, Tryd.ntmps36
  go_wp2_with fail
  go_loopw [5] (fun i wr => ∃ k : Nat, k ≤ xs.length ∧ i = .int .i64 k ∧ Hid (∀ m (hm : m < xs.length), m < k → (xs[m].name.toList == n.toList) = false) ∧ Below w.heap.size w wr) (fun i _ => xs.length - (intOf i).toNat)
  case atStart => exact ⟨0, Nat.zero_le _, rfl, fun m h hm => absurd hm (by omega), Below.refl _ _⟩
  case round =>
    obtain ⟨k, hk, rfl, hall, hb⟩ := hrel
    by_cases hlt : k < xs.length
    · obtain ⟨b, off, us, rfl, hbl, hcs, hR⟩ := (HK.out _ hb).spot hlt
      obtain ⟨p0, q0, rfl, _⟩ := hR
      have hc0 : wr.cell? ⟨b, off + k * 6, none⟩ = some (.string xs[k].name) := hcs 0 (by simp)
      clear hcs
      cases he : (xs[k].name.toList == n.toList) with
      | true =>
        have HE := Lib.hid (findAt_hit Co.name xs n k hlt hall.out he)
        go_wp2_with fail
        go_ret
        exact ⟨by rw [HE.out]; rfl, hb⟩
      | false =>
        have HE := Lib.hid he
        go_wp2_with fail
        go_roundw
        case rel => exact ⟨k + 1, by omega, by go_num, fun m hm h1 => by
          rcases Nat.lt_or_ge m k with h2 | h2
          · exact hall.out m hm h2
          · obtain rfl : m = k := by omega
            exact HE.out, hb⟩
        case measure => simp [intOf]; omega
    · have HE := Lib.hid (findAt_miss Co.name xs n fun m hm => hall.out m hm (by omega))
      go_wp2_with fail
      go_ret
      exact ⟨by rw [HE.out]; rfl, hb⟩

end Go.Proofs.YthebkfanpnbanaaDoor

namespace Go.Proofs.YthebkfanpnbanaaDoor
open Go.RowKit

/-- What a node is, of what its kids are. -/
def nodeS (cf : ByteArray → Option So) (ls : List Lb) (k : Int) (s : ByteArray) (kids : List Ex) (xs : List So) : Option So :=
  if (k == 0) = true then cf s else if (k == 1) = true then some (soK 0) else if (k == 2) = true then some (soK 1) else if (k == 5) = true then some (soK 4)
  else if (k == 3) = true ∨ (k == 4) = true ∨ (k == 7) = true then some (soK 2)
  else if (k == 6) = true ∨ (k == 8) = true ∨ (k == 9) = true then (if allS xs 2 = true then some (soK 2) else none)
  else if (k == 10) = true ∨ (k == 11) = true then (match kids, xs with | [x, y], [a, b] => if fitS ls x y a b = true then some (soK 2) else none | _, _ => none)
  else if (k == 12) = true ∨ (k == 13) = true ∨ (k == 14) = true ∨ (k == 15) = true then (if (allS xs 0 || allS xs 1) = true then some (soK 2) else none)
  else (if allS xs 0 = true then some (soK 0) else none)

mutual
def srtE (cf : ByteArray → Option So) (ls : List Lb) : Ex → Option So
  | .mk k s _ kids => match srtL cf ls kids with
    | none => none
    | some xs => nodeS cf ls k s kids xs
def srtL (cf : ByteArray → Option So) (ls : List Lb) : List Ex → Option (List So)
  | [] => some []
  | e :: r => match srtE cf ls e with
    | none => none
    | some o => match srtL cf ls r with
      | none => none
      | some xs => some (o :: xs)
end

theorem srtE_eq (cf : ByteArray → Option So) (ls : List Lb) (e : Ex) : srtE cf ls e = (match srtL cf ls e.kids with | none => none | some xs => nodeS cf ls e.kind e.text e.kids xs) := by
  cases e; rw [srtE]; rfl

theorem srtL_take {cf : ByteArray → Option So} {ls : List Lb} {l : List Ex} {k : Nat} (h : k < l.length) {xs : List So} (hx : srtL cf ls (l.take k) = some xs) :
    (∀ o, srtE cf ls l[k] = some o → srtL cf ls (l.take (k + 1)) = some (xs ++ [o])) ∧ (srtE cf ls l[k] = none → srtL cf ls l = none) := by
  induction l generalizing k xs with
  | nil => simp at h
  | cons e r ih =>
    cases k with
    | zero =>
      simp only [List.take_zero, srtL, Option.some.injEq] at hx
      subst hx
      refine ⟨fun o ho => ?_, fun hn => ?_⟩
      · simp only [List.getElem_cons_zero] at ho
        simp [srtL, ho]
      · simp only [List.getElem_cons_zero] at hn
        rw [srtL, hn]
    | succ k =>
      rw [List.take_succ_cons, srtL] at hx
      cases he : srtE cf ls e with
      | none => rw [he] at hx; cases hx
      | some o0 =>
        rw [he] at hx
        simp only at hx
        cases hr : srtL cf ls (r.take k) with
        | none => rw [hr] at hx; cases hx
        | some ys =>
          rw [hr] at hx
          simp only [Option.some.injEq] at hx
          subst hx
          obtain ⟨i1, i2⟩ := ih (by simpa using h) hr
          simp only [List.getElem_cons_succ]
          refine ⟨fun o ho => ?_, fun hn => ?_⟩
          · rw [List.take_succ_cons, srtL, he]
            simp only
            rw [i1 o ho]
            rfl
          · rw [srtL, he]
            simp only
            rw [i2 hn]

theorem srtL_len {cf : ByteArray → Option So} {ls : List Lb} : ∀ {l : List Ex} {xs : List So}, srtL cf ls l = some xs → xs.length = l.length
  | [], xs, h => by simp only [srtL, Option.some.injEq] at h; rw [← h]; rfl
  | e :: r, xs, h => by
    rw [srtL] at h
    cases he : srtE cf ls e with
    | none => rw [he] at h; cases h
    | some o =>
      rw [he] at h
      simp only at h
      cases hr : srtL cf ls r with
      | none => rw [hr] at h; cases h
      | some ys =>
        rw [hr] at h
        simp only [Option.some.injEq] at h
        rw [← h, List.length_cons, List.length_cons, srtL_len hr]

def soRow (s : So) : List Value := [.int .i64 s.kind, .string s.name]
def soCells (xs : List So) : List Value := (xs.map soRow).flatten

/-- A row of sorts of the call's own. -/
def OwnS (w : World) (B : Nat) (a : Option Addr) (c : Nat) (xs : List So) : Prop := w.ownsRow B 54 2 (.slice a xs.length c) xs.length (soCells xs)

theorem OwnS.below {w w' : World} {B : Nat} {a : Option Addr} {c : Nat} {xs : List So} (h : OwnS w B a c xs) (hb : Below w.heap.size w w') : OwnS w' B a c xs := by
  unfold OwnS at h ⊢
  refine ⟨h.1, ?_⟩
  rcases h.2 with h2 | ⟨g, cap, cur, hv, hB, hg, r⟩
  · exact .inl h2
  · exact .inr ⟨g, cap, cur, hv, hB, by rw [hb.block g (h.lt g (by rw [hv]; rfl)).2]; exact hg, r⟩

theorem OwnS.sl {w : World} {B : Nat} {a : Option Addr} {c : Nat} {xs : List So} (h : OwnS w B a c xs) : Sl 2 RSo 0 w a c xs := by
  unfold OwnS at h
  rcases h.2 with ⟨hv, hn⟩ | ⟨g, cap, cur, hv, hb, hg, hnc, hcm, hcs, ht⟩
  · simp only [Value.slice.injEq] at hv
    obtain ⟨rfl, h0, rfl⟩ := hv
    exact ⟨by omega, by unfold maxLen; omega, fun _ => rfl, fun hp => by omega⟩
  · simp only [Value.slice.injEq] at hv
    obtain ⟨rfl, _, rfl⟩ := hv
    refine ⟨hnc, hcm, (fun h => by cases h), fun hp => ⟨g, 0, rfl, Nat.zero_le _, (h.lt g rfl).2, fun i hi => ⟨soRow xs[i], fun j hj => ?_, rfl⟩⟩⟩
    have hj2 : j < 2 := hj
    have := World.ownsRow.cellAt (w := w) h (i * 2 + j) (by omega)
    have hr : ∀ r ∈ xs.map soRow, r.length = 2 := fun r hr => by obtain ⟨s, _, rfl⟩ := List.mem_map.1 hr; rfl
    rw [Nat.zero_add, this, soCells, flat_at hr i (by simpa using hi) j hj2, List.getElem_map, List.getElem?_eq_getElem hj]

theorem Tryd.infoSort : (Tryd.prog.info? 54).map (fun i => (i.zero, i.size, i.bytes)) = some (some (.agg #[.int .i64 0, .string ByteArray.empty]), 2, 24) := by kernel_rfl

theorem soCells_append (l : List So) (y : So) : soCells (l ++ [y]) = soCells l ++ [.int .i64 y.kind, .string y.name] := by
  unfold soCells
  rw [List.map_append, List.flatten_append]
  simp [soRow]

theorem wpAppendSo {w : World} {ops : Array Oper} {rest : List Oper} {o : Oper} {A : Act} {Q : Exit → Act → World → Prop} (hgd : o.guard = none) (s x : Operand)
    (ho : o.op = .call { callee := .builtin .append, args := #[s, x], argTypes := #[95, 95] })
    (i0 : TypeInfo) (hi0 : Tryd.prog.info? 54 = some i0) (hz0 : i0.zero = some (.agg #[.int .i64 0, .string ByteArray.empty])) (hz1 : i0.size = 2) (hz2 : i0.bytes = 24)
    (B : Nat) (a : Option Addr) (c : Nat) (l : List So) (g : Nat) (y : So) (hs : A.eval s = .slice a l.length c) (hown : OwnS w B a c l) (hx : A.eval x = .slice (some ⟨g, 0, none⟩) 1 1) (hc : w.heap[g]? = some (.cells #[.int .i64 y.kind, .string y.name] 54 (0, 0)))
    (hn : l.length + 1 ≤ 1073741824) (hB : B ≤ w.heap.size)
    (h : ∀ a' c' w' l', Hid (l' = l ++ [y]) → OwnS w' B a' c' l' → w.grownBy w' (Value.slice a l.length c).ownBlock → wpList Tryd.prog ops Q rest (A.put o.dst (.slice a' l'.length c')) w') :
    wpList Tryd.prog ops Q (o :: rest) A w := by
  refine wpList_append_own_at _ hgd s x 95 ho B 54 i0 (.agg #[.int .i64 0, .string ByteArray.empty]) 2 24 Tryd.underlying95 hi0 hz0 hz1 hz2 rfl (by decide) (.slice a l.length c) l.length (soCells l) hs hown
    ⟨g, 0, none⟩ 1 1 [.int .i64 y.kind, .string y.name] hx rfl ?_ (fun u hu => by simp at hu; rcases hu with rfl | rfl <;> rfl) (by unfold maxLen; omega) (by omega) hB ?_
  · intro j u hu
    have hadd : (⟨g, 0, none⟩ : Addr).add j = ⟨g, j, none⟩ := by unfold Addr.add; by_cases h0 : j = 0 <;> simp [h0]
    rw [hadd, cell_of_row _ _ _ _ _ _ hc]
    simpa using hu
  · intro v' w' hown' hg _ _
    have hf : ∃ a' c', v' = .slice a' (l.length + 1) c' := by
      rcases hown'.2 with ⟨_, h0⟩ | ⟨g', cap, cur, rfl, _⟩
      · omega
      · exact ⟨_, _, rfl⟩
    obtain ⟨a', c', rfl⟩ := hf
    rw [← soCells_append] at hown'
    have hll : (l ++ [y]).length = l.length + 1 := by simp
    have := h a' c' w' (l ++ [y]) rfl (by unfold OwnS; rw [hll]; exact hown') hg
    rw [hll] at this
    exact this

/-- Each column that is asked for is there; where two are compared there are two. -/
def okS (cf : ByteArray → Option So) (e : Ex) : Bool := (e.kind != 0 || (cf e.text).isSome) && (!((e.kind == 10) || (e.kind == 11)) || e.kids.length == 2)

theorem nodesL_lenS : (l : List Ex) → l.length ≤ nodesL l
  | [] => by simp [nodesL]
  | e :: r => by rw [nodesL, List.length_cons]; have := nodesL_lenS r; have := Ex.nodes_eq e; omega

theorem nodesL_getS {l : List Ex} {k : Nat} (h : k < l.length) : l[k].nodes ≤ nodesL l := by
  induction l generalizing k with
  | nil => simp at h
  | cons e r ih =>
    rw [nodesL]
    cases k with
    | zero => simp only [List.getElem_cons_zero]; omega
    | succ k => simp only [List.getElem_cons_succ]; have := ih (k := k) (by simpa using h); omega

theorem allL_get {chk : Ex → Bool} {l : List Ex} (h : allL chk l = true) {k : Nat} (hk : k < l.length) : l[k].all chk = true := by
  induction l generalizing k with
  | nil => simp at hk
  | cons e r ih =>
    rw [allL, Bool.and_eq_true] at h
    cases k with
    | zero => exact h.1
    | succ k => exact ih h.2 (by simpa using hk)

end Go.Proofs.YthebkfanpnbanaaDoor
