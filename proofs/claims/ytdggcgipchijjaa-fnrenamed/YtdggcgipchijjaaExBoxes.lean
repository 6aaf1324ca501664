/- Expressions in boxes of their own: what the exact laws over expressions read. -/
import Derived.Test.YtdggcgipchijjaaExSz
import Derived.Test.YtdggcgipchijjaaExTo
import Derived.Test.YtdggcgipchijjaaExEq
import Derived.Test.YtdggcgipchijjaaOpenExpr
namespace Go.Proofs.Ytdggcgipchijjaa
open Go.ChangeShapes Go.WideShapes Go.ChangeAt Go.RowKit

/-- The cells of the argument's own box. -/
def Box4 (w : World) (b : Nat) (e : Ex) (a : Option Addr) (c : Nat) : Prop :=
  b < w.heap.size ∧ w.cell? ⟨b, 0, none⟩ = some (.int .i64 e.kind) ∧ w.cell? ⟨b, 1, none⟩ = some (.string e.text) ∧ w.cell? ⟨b, 2, none⟩ = some (.int .i64 e.num) ∧ w.cell? ⟨b, 3, none⟩ = some (.slice a e.kids.length c)

theorem box4_new (w : World) (T : TypeId) (e : Ex) (a : Option Addr) (c : Nat) : Box4 (w.alloc (.cells #[.int .i64 e.kind, .string e.text, .int .i64 e.num, .slice a e.kids.length c] T)) w.heap.size e a c :=
  ⟨by simp, by simp [go_sem], by simp [go_sem], by simp [go_sem], by simp [go_sem]⟩

theorem Box4.below {w w' : World} {b : Nat} {e : Ex} {a : Option Addr} {c : Nat} (h : Box4 w b e a c) (hb : Below w.heap.size w w') : Box4 w' b e a c := by
  obtain ⟨h0, h1, h2, h3, h4⟩ := h
  have ce := fun o => hb.cell (p := ⟨b, o, none⟩) h0
  exact ⟨Nat.lt_of_lt_of_le h0 hb.size, (ce 0).trans h1, (ce 1).trans h2, (ce 2).trans h3, (ce 3).trans h4⟩

/-- Two boxes: the argument's own, and that of its copy. -/
def Two (w : World) (X : Nat) (e : Ex) (a a4 : Option Addr) (c c4 d : Nat) (w' : World) : Prop :=
  Box4 w' w.heap.size e a c ∧ Box4 w' X e a4 c4 ∧ KidsAt w' d a4 c4 e.kids ∧ Below w.heap.size w w'

theorem Two.below {w wa wb : World} {X : Nat} {e : Ex} {a a4 : Option Addr} {c c4 d : Nat} (h : Two w X e a a4 c c4 d wa) (hb : Below wa.heap.size wa wb) : Two w X e a a4 c c4 d wb :=
  ⟨h.1.below hb, h.2.1.below hb, h.2.2.1.below hb, h.2.2.2.trans (hb.mono h.2.2.2.size)⟩

theorem Two.drew {w wa : World} {X : Nat} {e : Ex} {a a4 : Option Addr} {c c4 d : Nat} (h : Two w X e a a4 c c4 d wa) : Two w X e a a4 c c4 d wa.drew := h.below (below_drewE (Below.refl _ _))

theorem Two.new {w w4 : World} {e : Ex} {a a4 : Option Addr} {c c4 d : Nat} (hX : Box4 w4 w.heap.size e a c) (hK : KidsAt w4 d a4 c4 e.kids) (hB : Below w.heap.size w w4) (T : TypeId) :
    Two w w4.heap.size e a a4 c c4 d (w4.alloc (.cells #[.int .i64 e.kind, .string e.text, .int .i64 e.num, .slice a4 e.kids.length c4] T)) :=
  ⟨hX.below ((Below.refl _ _).alloc (Nat.le_refl _) _), box4_new w4 T e a4 c4, hK.below ((Below.refl _ _).alloc (Nat.le_refl _) _), hB.trans (((Below.refl _ _).alloc (Nat.le_refl _) _).mono hB.size)⟩

/-- Their cells, one by one. -/
def Cells8 (n X : Nat) (e : Ex) (a a4 : Option Addr) (c c4 : Nat) (w' : World) : Prop :=
  (w'.cell? ⟨n, 0, none⟩ = some (.int .i64 e.kind) ∧ w'.cell? ⟨n, 1, none⟩ = some (.string e.text) ∧ w'.cell? ⟨n, 2, none⟩ = some (.int .i64 e.num) ∧ w'.cell? ⟨n, 3, none⟩ = some (.slice a e.kids.length c)) ∧
  (w'.cell? ⟨X, 0, none⟩ = some (.int .i64 e.kind) ∧ w'.cell? ⟨X, 1, none⟩ = some (.string e.text) ∧ w'.cell? ⟨X, 2, none⟩ = some (.int .i64 e.num) ∧ w'.cell? ⟨X, 3, none⟩ = some (.slice a4 e.kids.length c4))

theorem Two.cells {w wa : World} {X : Nat} {e : Ex} {a a4 : Option Addr} {c c4 d : Nat} (h : Two w X e a a4 c c4 d wa) : Cells8 w.heap.size X e a a4 c c4 wa := ⟨h.1.2, h.2.1.2⟩

end Go.Proofs.Ytdggcgipchijjaa
