/- spec.DrawNodes. -/
import Derived.Test.YtdggcgipchijjaaDrawOdd
namespace Go.Proofs.Ytdggcgipchijjaa
open Go.RowKit

/-- What the law draws: a small tree. -/
def DrewE (w : World) (x : Ending) (w' : World) : Prop :=
  ∃ (e : Ex) (a' : Option Addr) (c' d : Nat), x = .returned (.agg #[.int .i64 e.kind, .string e.text, .int .i64 e.num, .slice a' e.kids.length c']) ∧ Sm e 64 ∧ KidsAt w' d a' c' e.kids ∧ (∀ b o s, a' = some ⟨b, o, s⟩ → b < w'.heap.size) ∧ Below w.heap.size w w'

theorem drewE_row {w w1 w2 W : World} {k n : Int} {t : ByteArray} {es : List Es} {a' : Option Addr} {c' : Nat} (hR : w.heap.size < w1.heap.size) (hrow : Row w1.heap.size w2 a' c' es) (hsm : Sm (eOf k t n es) 64) (hb : Below w.heap.size w w2) {v0 v1 v2 v3 : Value}
    (hW : W = (((w2.setCell ⟨w.heap.size, 0, none⟩ v0).setCell ⟨w.heap.size, 1, none⟩ v1).setCell ⟨w.heap.size, 2, none⟩ v2).setCell ⟨w.heap.size, 3, none⟩ v3) : DrewE w (.returned (.agg #[.int .i64 k, .string t, .int .i64 n, .slice a' es.length c'])) W := by
  subst hW
  have hl : (es.map Es.e).length = es.length := List.length_map ..
  have hr := (((hrow.set hR 0 v0).set hR 1 v1).set hR 2 v2).set hR 3 v3
  obtain ⟨d, hk⟩ := hr.kids
  refine ⟨eOf k t n es, a', c', d, ?_, hsm, hk.at, fun b o s h => ?_, ?_⟩
  · show _ = Ending.returned (.agg #[.int .i64 k, .string t, .int .i64 n, .slice a' (es.map Es.e).length c'])
    rw [hl]
  · subst h
    exact (hr.own.lt b rfl).2
  · exact (((hb.setCell (p := ⟨w.heap.size, 0, none⟩) (Nat.le_refl _) v0).setCell (p := ⟨w.heap.size, 1, none⟩) (Nat.le_refl _) v1).setCell (p := ⟨w.heap.size, 2, none⟩) (Nat.le_refl _) v2).setCell (p := ⟨w.heap.size, 3, none⟩) (Nat.le_refl _) v3

end Go.Proofs.Ytdggcgipchijjaa
