/- Rows of the call's own that grow. -/
import Derived.Test.YtefjjcoaeanagaaMem
namespace Go.Proofs.Ytefjjcoaeanagaa
open Go.RowKit

theorem strsOne (w : World) (s : ByteArray) (hs : s.size ≤ maxLen) : Strs (w.alloc (.cells #[.string s] 9)) (some ⟨w.heap.size, 0, none⟩) 1 [s] := by
  refine ⟨by simp, by unfold maxLen; omega, by simpa using hs, (fun h => by cases h), fun _ => ⟨w.heap.size, 0, rfl, by simp, fun i hi => ?_⟩⟩
  have : i = 0 := by simpa using hi
  subst this
  simp [go_sem]

theorem Own.alloc {w : World} {B : Nat} {a : Option Addr} {c : Nat} {xs : List ByteArray} (h : Own w B a c xs) (o : Obj) : Own (w.alloc o) B a c xs :=
  h.below ((Below.refl _ _).alloc (Nat.le_refl _) _)

theorem Own.drewN {w : World} {B : Nat} {a : Option Addr} {c : Nat} {xs : List ByteArray} (h : Own w B a c xs) (n : Nat) : Own (w.drewN n) B a c xs :=
  h.below (below_drewN (Below.refl _ _) n)

theorem ownEmpty (w : World) : Own (w.alloc (.cells #[] 9)) w.heap.size (some ⟨w.heap.size, 0, none⟩) 0 [] := by
  have := World.ownsRow_lit (base := w.heap.size) (e := 9) (size := 1) w #[] 0 (Nat.le_refl _) (by unfold maxLen; omega) rfl
  exact this

/-- A row of the call's own, one text appended behind a new block: what is below stays. -/
theorem appended {w wr w2 : World} {B : Nat} {a : Option Addr} {c : Nat} {ys : List ByteArray} (hb : Below B w wr) (hBw : B ≤ w.heap.size) (hown : Own wr B a c ys) {o : Obj} (hg : (wr.alloc o).grownBy w2 (Value.slice a ys.length c).ownBlock) : Below B w w2 := by
  have h1 : Below B w (wr.alloc o) := hb.alloc (Nat.le_trans hBw hb.size) o
  exact h1.grown hg (by have := hb.size; simp; omega) (fun k hk => (hown.lt hk).1)

end Go.Proofs.Ytefjjcoaeanagaa
