/- Two boxes: the argument's own, and that of its copy. Written by tools/gen_plan.py. -/
import Derived.Test.YtefjjcoaeanagaaDat2
namespace Go.Proofs.Ytefjjcoaeanagaa
open Go.RowKit

def Two2 {X : Type} (R : Rd X) (w : World) (b : Nat) (vs vs4 : List Value) (x : X) (w' : World) : Prop :=
  Blk w' w.heap.size vs ∧ Blk w' b vs4 ∧ R 0 w' vs4 x ∧ Below w.heap.size w w'

theorem Two2.below {X : Type} {R : Rd X} (G : Good R) {w wa wb : World} {b : Nat} {vs vs4 : List Value} {x : X} (h : Two2 R w b vs vs4 x wa) (hb : Below wa.heap.size wa wb) : Two2 R w b vs vs4 x wb :=
  ⟨h.1.below hb, h.2.1.below hb, G.kept h.2.2.1 (Kept.below hb), Below.call hb h.2.2.2⟩

theorem Two2.drew {X : Type} {R : Rd X} (G : Good R) {w wa : World} {b : Nat} {vs vs4 : List Value} {x : X} (h : Two2 R w b vs vs4 x wa) : Two2 R w b vs vs4 x wa.drew := h.below G (below_drewE (Below.refl _ _))

theorem Two2.new {X : Type} {R : Rd X} (G : Good R) {w w4 : World} {vs vs4 : List Value} {x : X} (hX : Blk w4 w.heap.size vs) (hK : R 0 w4 vs4 x) (hB : Below w.heap.size w w4) (T : TypeId) :
    Two2 R w w4.heap.size vs vs4 x (w4.alloc (.cells vs4.toArray T)) :=
  ⟨hX.alloc _, blk_new w4 T vs4, G.kept hK (Kept.below ((Below.refl _ _).alloc (Nat.le_refl _) _)), Below.call ((Below.refl _ _).alloc (Nat.le_refl _) _) hB⟩

end Go.Proofs.Ytefjjcoaeanagaa
