/- spec.l04Binds, spec.l04Sign. -/
import Derived.Test.YtnepfnbmmdcgpaaDoorMExprP
import Derived.Test.YtnepfnbmmdcgpaaDoorMem
namespace Go.Proofs.YtnepfnbmmdcgpaaDoor
open Go.RowKit

theorem kind_cases {k : Int} (h0 : 0 ≤ k) (h1 : k ≤ 18) : k = 0 ∨ k = 1 ∨ k = 2 ∨ k = 3 ∨ k = 4 ∨ k = 5 ∨ k = 6 ∨ k = 7 ∨ k = 8 ∨ k = 9 ∨ k = 10 ∨ k = 11 ∨ k = 12 ∨ k = 13 ∨ k = 14 ∨ k = 15 ∨ k = 16 ∨ k = 17 ∨ k = 18 := by omega

set_option maxHeartbeats 2000000 in
theorem specBinds (k : Int) (h0 : 0 ≤ k) (h1 : k ≤ 18) (w : World) : Calls Tryd.prog 55 #[.int .i64 k] w fun e w' => e = .returned (.int .i64 (bindsK k : Nat)) ∧ w' = w := by
  rcases kind_cases h0 h1 with rfl | rfl | rfl | rfl | rfl | rfl | rfl | rfl | rfl | rfl | rfl | rfl | rfl | rfl | rfl | rfl | rfl | rfl | rfl <;>
  · clear h0 h1
    go_enter Tryd.func55, Tryd.ntmps55
    go_wp2
    go_ret
    exact ⟨rfl, rfl⟩

set_option maxHeartbeats 2000000 in
theorem specSignE (k : Int) (h0 : 8 ≤ k) (h1 : k ≤ 18) (w : World) : Calls Tryd.prog 59 #[.int .i64 k] w fun e w' => e = .returned (.string (txt (signK k))) ∧ w' = w := by
  rcases kind_cases (show 0 ≤ k by omega) h1 with rfl | rfl | rfl | rfl | rfl | rfl | rfl | rfl | rfl | rfl | rfl | rfl | rfl | rfl | rfl | rfl | rfl | rfl | rfl <;> (try (exfalso; omega)) <;>
  · clear h0 h1
    go_enter Tryd.func59, Tryd.ntmps59
    go_wp2
    go_ret
    exact ⟨rfl, rfl⟩

end Go.Proofs.YtnepfnbmmdcgpaaDoor
