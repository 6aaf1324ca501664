/- The program's lexer: take. -/
import Derived.Test.YtjnanlfahgjcbaaDoorLexImpl2
import Derived.Deep.RegionHeld3
import Derived.Deep.DrawnRows
namespace Go.Proofs.YtjnanlfahgjcbaaDoor
open Go.RowKit

theorem Moved.of_below {w w1 w2 : World} {g : Nat} {s : ByteArray} {m : Nat} (h : Moved w g s m w1) (hb : Below w1.heap.size w1 w2) : Moved w g s m w2 := by
  have hlt := h.1.lt
  refine ⟨h.1.below hb hlt, ?_⟩
  have hg := h.2
  exact ⟨hb.os.trans hg.os, hb.tape.trans hg.tape, hb.output.trans hg.output, Nat.le_trans hg.size hb.size, fun i hi hne => (hb.block i (Nat.lt_of_lt_of_le hi hg.size)).trans (hg.block i hi hne)⟩

theorem Moved.refl {w : World} {g : Nat} {s : ByteArray} {k : Nat} (h : LexS w g s k) : Moved w g s k w := ⟨h, World.grownBy.refl w _⟩
theorem Moved.drewN {w w1 : World} {g : Nat} {s : ByteArray} {k : Nat} (h : Moved w g s k w1) (n : Nat) : Moved w g s k (w1.drewN n) := h.of_below (below_drewN (Below.refl _ _) n)
theorem Moved.drew {w w1 : World} {g : Nat} {s : ByteArray} {k : Nat} (h : Moved w g s k w1) : Moved w g s k w1.drew := h.of_below ⟨rfl, rfl, rfl, Nat.le_refl _, fun _ _ => rfl⟩
theorem Moved.trans {w w1 w2 : World} {g : Nat} {s : ByteArray} {k m : Nat} (h : Moved w g s k w1) (h2 : Moved w1 g s m w2) : Moved w g s m w2 :=
  ⟨h2.1, ⟨h2.2.os.trans h.2.os, h2.2.tape.trans h.2.tape, h2.2.output.trans h.2.output, Nat.le_trans h.2.size h2.2.size, fun i hi hne => (h2.2.block i (Nat.lt_of_lt_of_le hi h.2.size) hne).trans (h.2.block i hi hne)⟩⟩
theorem Moved.set {w w1 : World} {g : Nat} {s : ByteArray} {k : Nat} (h : Moved w g s k w1) (m : Nat) {v : Value} (hv : v = .int .i64 (m : Int)) : Moved w g s m (w1.setCell ⟨g, 1, none⟩ v) := by
  subst hv
  exact h.trans ⟨h.1.set m, setGrown _ _ _⟩
theorem Moved.below {w w1 : World} {g : Nat} {s : ByteArray} {k : Nat} (h : Moved w g s k w1) {w0 : World} {B : Nat} (hb : Below B w0 w) (hB : B ≤ g) (hg : g ≤ w.heap.size) : Below B w0 w1 :=
  hb.grown h.2 (by omega) (fun k hk => by cases hk; exact hB)

set_option maxHeartbeats 2000000 in
theorem implTake {w : World} {g : Nat} {s : ByteArray} {k : Nat} (h : LexS w g s k) (n : Nat) (hs : s.size ≤ 1048576) (hk : k + n ≤ s.size) :
    Calls Tryd.prog 62 #[.pointer (some ⟨g, 0, none⟩), .int .i64 (n : Int)] w fun e w' => e = .returned (.string (s.extract k (k + n))) ∧ Moved w g s (k + n) w' := by
  have c0 := h.c0
  have c1 := h.c1
  have f1 := h.f1
  have hlt := h.lt
  have HM := Lib.hid ((Moved.refl h).set (k + n) (v := .int .i64 ((k : Int) + (n : Int))) (by simp))
  have h0k : (0 : Int) ≤ (k : Int) := by omega
  have hkn : (k : Int) ≤ (k : Int) + (n : Int) := by omega
  have hks : (k : Int) + (n : Int) ≤ (s.size : Int) := by omega
  have htn : ((k : Int) + (n : Int)).toNat = k + n := by omega
  have hex : (s.extract k (k + n)).size ≤ 1048576 := by simp; omega
  clear h
  go_enter Tryd.func62, Tryd.ntmps62
  go_wp2_with fail
  have d0 : (w.setCell ⟨g, 1, none⟩ (.int .i64 ((k : Int) + (n : Int)))).cell? ⟨g, 0, none⟩ = some (.string s) := HM.out.1.c0
  have d1 : (w.setCell ⟨g, 1, none⟩ (.int .i64 ((k : Int) + (n : Int)))).cell? ⟨g, 1, none⟩ = some (.int .i64 ((k : Int) + (n : Int))) := by have := HM.out.1.c1; simpa using this
  have hlt1 : g < (w.setCell ⟨g, 1, none⟩ (.int .i64 ((k : Int) + (n : Int)))).heap.size := HM.out.1.lt
  generalize w.setCell ⟨g, 1, none⟩ (.int .i64 ((k : Int) + (n : Int))) = W at *
  clear c0 c1 f1 hlt
  go_region_held3 (fun w' => w'.cell? ⟨g, 0, none⟩ = some (.string s) ∧ w'.cell? ⟨g, 1, none⟩ = some (.int .i64 ((k : Int) + (n : Int)))) (first | go_keep | exact ⟨(hcw _ _ hlt1).trans d0, (hcw _ _ hlt1).trans d1⟩)
    ((go_at_call 76; refine (cloneText (s.extract k (k + n)) _ hex).mono ?_; rintro e w2 ⟨rfl, hb2⟩; obtain ⟨hcw, _⟩ := bcell hb2))
  go_wp2_with fail
  go_ret
  exact ⟨rfl, HM.out.drew.of_below hb2⟩

end Go.Proofs.YtjnanlfahgjcbaaDoor
