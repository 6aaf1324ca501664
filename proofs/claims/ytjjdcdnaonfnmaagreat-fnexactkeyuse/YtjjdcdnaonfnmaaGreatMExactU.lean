/- What lies during an exact law over a plan that answers texts. Written by tools/gen_exactU.py. -/
import Derived.Test.YtjjdcdnaonfnmaaGreatMPlMkE
import Derived.Test.YtjjdcdnaonfnmaaGreatMPlSzE
import Derived.Test.YtjjdcdnaonfnmaaGreatMPlToF
import Derived.Test.YtjjdcdnaonfnmaaGreatMPlEqD
import Derived.Test.YtjjdcdnaonfnmaaGreatMPut
namespace Go.Proofs.YtjjdcdnaonfnmaaGreat
open Go.RowKit

theorem TurnX.bel {q : Nat → Prop} {w w' : World} {B : Nat} (h : TurnX q w w') (hq : ∀ b, q b → B ≤ b) (hB : B ≤ w.heap.size) : Below B w w' :=
  ⟨h.1, h.2.1, h.2.2.1, h.2.2.2.1, fun b hb => h.2.2.2.2 b (by omega) fun hh => by have := hq b hh; omega⟩

theorem OwnAt.turnX {w w' : World} {lo hi : Nat} {a : Option Addr} {c : Nat} {xs : List ByteArray} {q : Nat → Prop} (h : OwnAt w lo hi a c xs) (ht : TurnX q w w') (hr : ∀ g, q g → g < lo ∨ hi ≤ g) : OwnAt w' lo hi a c xs :=
  ⟨ownsRow_block h.1 fun g hg => ht.2.2.2.2 g (h.1.lt hg).2 (fun hm => by have h1 := (h.1.lt hg).1; have h2 := h.2 g hg; have h3 := hr g hm; omega), h.2⟩

/-- Ahead of the marks: the argument's box, the copy's box and the copy, the two answers. -/
structure PC (w w4 : World) (A R : List Value) (x : Pl) (lw hw lg hg : Nat) (aw ag : Option Addr) (cw cg : Nat) (ys : List ByteArray) (W : World) : Prop where
  abox : Blk W w.heap.size A
  xbox : Blk W w4.heap.size R
  xr : RPl 0 W R x
  w0 : OwnAt W lw hw aw cw ys
  g0 : OwnAt W lg hg ag cg ys
  bel : Below w.heap.size w W
  b4 : Below w4.heap.size w4 W

theorem PC.below {w w4 : World} {A R : List Value} {x : Pl} {lw hw lg hg : Nat} {aw ag : Option Addr} {cw cg : Nat} {ys : List ByteArray} {W W' : World} (h : PC w w4 A R x lw hw lg hg aw ag cw cg ys W) (hb : Below W.heap.size W W') : PC w w4 A R x lw hw lg hg aw ag cw cg ys W' :=
  ⟨h.abox.below hb, h.xbox.below hb, goodPl.kept h.xr (Kept.below hb), h.w0.below hb, h.g0.below hb, Below.call hb h.bel, h.b4.trans (hb.mono h.b4.size)⟩

/-- Behind the marks. -/
structure PD (w : World) (A : List Value) (lw hw lg hg : Nat) (aw ag : Option Addr) (cw cg : Nat) (ys zs : List ByteArray) (W : World) : Prop where
  abox : Blk W w.heap.size A
  w0 : OwnAt W lw hw aw cw ys
  g0 : OwnAt W lg hg ag cg zs
  bel : Below w.heap.size w W

theorem PD.below {w : World} {A : List Value} {lw hw lg hg : Nat} {aw ag : Option Addr} {cw cg : Nat} {ys zs : List ByteArray} {W W' : World} (h : PD w A lw hw lg hg aw ag cw cg ys zs W) (hb : Below W.heap.size W W') : PD w A lw hw lg hg aw ag cw cg ys zs W' :=
  ⟨h.abox.below hb, h.w0.below hb, h.g0.below hb, Below.call hb h.bel⟩

theorem PC.marked {w w4 : World} {A R : List Value} {x : Pl} {lw hw lg hg : Nat} {aw ag : Option Addr} {cw cg : Nat} {ys : List ByteArray} {W W' : World} (h : PC w w4 A R x lw hw lg hg aw ag cw cg ys W) {lo : Nat} (hm : Mkd lo w4 W W') (h1 : w.heap.size < lo) (h2 : hw ≤ lo) (h3 : w4.heap.size ≤ lg) :
    PD w A lw hw lg hg aw ag cw cg ys ys W' := by
  refine ⟨h.abox.turn hm.2 (by omega), h.w0.turnX hm.2 (fun g hg => by omega), h.g0.turnX hm.2 (fun g hg => by omega), ?_⟩
  exact h.bel.trans (hm.2.bel (fun b hb => by omega) h.bel.size)

theorem Blk.grown {w w' : World} {b : Nat} {vs : List Value} {row : Option Nat} (h : Blk w b vs) (hg : w.grownBy w' row) (hne : row ≠ some b) : Blk w' b vs := by
  have hb := hg.block b h.1 (fun e => hne e.symm)
  refine ⟨Nat.lt_of_lt_of_le h.1 hg.size, fun j hj => ⟨(World.cell?_of_block (a := ⟨b, j, none⟩) hb).trans (h.2 j hj).1, ?_⟩⟩
  have := (h.2 j hj).2
  unfold World.frozen? at this ⊢
  rw [hb]
  exact this

theorem plCnt (x : Pl) : x.cnt ≤ 6 * x.wt + 8 := by
  have hE : ∀ e : Ex, True := fun _ => trivial
  have hl : ∀ x : Lab, x.cnt ≤ x.wt + 1 := fun x => by
    have h1 : x.cnt = 1 + x.list.length := rfl
    have h2 : x.wt = x.name.size + (x.list.length + lets x.list) := rfl
    omega
  have hs : ∀ x : Sq, x.cnt ≤ 2 := fun x => by have h1 : x.cnt = 1 + 1 := rfl; omega
  have hn : ∀ l : List Ex, nodesL l ≤ l.length + wtL l := fun l => nodesL_wt l
  have hc : ∀ x : Co, x.cnt ≤ 3 * x.wt + 5 := fun x => by
    have h1 : x.cnt = 1 + 3 + 1 + 3 * nodesL x.dflt := rfl
    have h2 : x.wt = x.name.size + x.ty.name.size + (x.dflt.length + wtL x.dflt) := rfl
    have := hn x.dflt
    omega
  have hr : ∀ x : Ru, x.cnt ≤ 3 * x.wt + 3 := fun x => by
    have h1 : x.cnt = 1 + 1 + x.cols.length + 3 * nodesL x.expr + 1 + x.to.length := rfl
    have h2 : x.wt = x.name.size + (x.cols.length + lets x.cols) + (x.expr.length + wtL x.expr) + x.table.size + (x.to.length + lets x.to) := rfl
    have := hn x.expr
    omega
  have hi : ∀ x : Ix, x.cnt ≤ x.wt + 3 := fun x => by
    have h1 : x.cnt = 1 + 1 + x.cols.length + 1 := rfl
    have h2 : x.wt = x.name.size + x.table.size + (x.cols.length + lets x.cols) := rfl
    omega
  have hv : ∀ x : Vw, x.cnt ≤ 3 * x.wt + 2 := fun x => by
    have h1 : x.cnt = 1 + 1 + x.cols.length + 3 * nodesL x.whr := rfl
    have h2 : x.wt = x.name.size + x.table.size + (x.cols.length + lets x.cols) + (x.whr.length + wtL x.whr) := rfl
    have := hn x.whr
    omega
  have key : ∀ {X : Type} (cnt wt : X → Nat) (a b : Nat), (∀ x, cnt x ≤ a * wt x + b) → ∀ xs : List X, cntS cnt xs ≤ a * wtS wt xs + b * xs.length := by
    intro X cnt wt a b h xs
    induction xs with
    | nil => simp [cntS, wtS]
    | cons x r ih =>
      have h1 : cntS cnt (x :: r) = cnt x + cntS cnt r := rfl
      have h2 : wtS wt (x :: r) = wt x + wtS wt r := rfl
      have h3 := h x
      rw [h1, h2, List.length_cons, Nat.mul_add, Nat.mul_add]
      omega
  have k1 := key Lab.cnt Lab.wt 1 1 (fun x => by have := hl x; omega) x.enums
  have k2 := key Sq.cnt Sq.wt 1 2 (fun x => by have := hs x; omega) x.seqs
  have ht : ∀ x : Tb, x.cnt ≤ 5 * x.wt + 2 := fun x => by
    have h1 : x.cnt = 1 + cntS Co.cnt x.cols + cntS Ru.cnt x.rules + 1 := rfl
    have h2 : x.wt = x.name.size + (x.cols.length + wtS Co.wt x.cols) + (x.rules.length + wtS Ru.wt x.rules) := rfl
    have h3 := key Co.cnt Co.wt 3 5 hc x.cols
    have h4 := key Ru.cnt Ru.wt 3 3 hr x.rules
    omega
  have k3 := key Tb.cnt Tb.wt 5 2 ht x.tables
  have k4 := key Ix.cnt Ix.wt 1 3 (fun x => by have := hi x; omega) x.indexes
  have k5 := key Vw.cnt Vw.wt 3 2 hv x.views
  have h1 : x.cnt = cntS Lab.cnt x.enums + cntS Sq.cnt x.seqs + cntS Tb.cnt x.tables + cntS Ix.cnt x.indexes + cntS Vw.cnt x.views := rfl
  have h2 : x.wt = (x.enums.length + wtS Lab.wt x.enums) + (x.seqs.length + wtS Sq.wt x.seqs) + (x.tables.length + wtS Tb.wt x.tables) + (x.indexes.length + wtS Ix.wt x.indexes) + (x.views.length + wtS Vw.wt x.views) := rfl
  omega

end Go.Proofs.YtjjdcdnaonfnmaaGreat
