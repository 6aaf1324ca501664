/- spec.DrawColumns. -/
import Derived.Test.YtdggcgipchijjaaDrawNodes
namespace Go.Proofs.Ytdggcgipchijjaa
open Go.RowKit

set_option maxRecDepth 100000 in
set_option maxHeartbeats 1000000 in
theorem specDrawColumns (a : Option Addr) (c : Nat) (l : List UInt8) (w : World) (hb : Bytes w a c l) (hs : l.length ≤ 1048576) :
    Calls Try.prog 8 #[.slice a l.length c] w (DrewE w) := by
  have hb0 := fun o => (Below.refl w.heap.size w).alloc (Nat.le_refl _) o
  have HB0 := Lib.hid hb0
  have HBY := Lib.hid (fun w' hb' => hb.below (w' := w') hb')
  have HRB := Lib.hid (exRow_new w 0 ⟨#[]⟩ 0 (.slice none 0 0))
  have hsz0 := size_allocE w (.cells #[.int .i64 0, .string ⟨#[]⟩, .int .i64 0, .slice none 0 0] 26)
  have HSZ := Lib.hid hsz0
  clear hb hb0 hsz0
  go_enter Try.func8, Try.ntmps8
  go_wp2_with fail
  have HBW := Lib.hid (HB0.out (.cells #[.int .i64 0, .string ⟨#[]⟩, .int .i64 0, .slice none 0 0] 26))
  generalize w.alloc (.cells #[.int .i64 0, .string ⟨#[]⟩, .int .i64 0, .slice none 0 0] 26) = W0 at HRB HBW HSZ ⊢
  refine (l01New a c l W0 (HBY.out _ HBW.out) hs).mono ?_
  rintro e w1 ⟨rfl, hd1, hb1, hz1⟩
  have HRB1 := Lib.hid (HRB.out.below hb1)
  have Hd1 := Lib.hid hd1
  have Hb1 := Lib.hid hb1
  clear hd1 hb1 hz1
  go_wp2_with fail
  refine (l04OddS Hd1.out Hb1.out.size).mono ?_
  rintro x w2 ⟨k, t, n, es, a', c', rfl, hrow, hsm, hdg⟩
  have hRg : w.heap.size < w1.heap.size := HRB1.out.lt
  obtain ⟨b0, b1, b2, b3, bf⟩ := (HRB1.out.kept hdg.2 (fun e => by have := Option.some.inj e; have := HSZ.out; omega)).cells
  have HB2 : Hid (Below w.heap.size w w2) := by
    have h1 := HBW.out.trans (Hb1.out.mono HBW.out.size)
    exact h1.grown hdg.2 h1.size (fun q hq => by cases hq; have := HSZ.out; omega)
  have HROW := Lib.hid hrow
  have HSM := Lib.hid hsm
  clear hrow hsm hdg
  go_wp2_with fail
  refine bodyPost_ret (v := .agg #[.int .i64 k, .string t, .int .i64 n, .slice a' es.length c']) (by simp [results, Try.results8, go_sem, b0, b1, b2, b3]) rfl ?_
  exact drewE_row hRg HROW.out HSM.out HB2.out rfl

end Go.Proofs.Ytdggcgipchijjaa
