/- Small words for the laws that draw. -/
import Derived.Test.YtjjdcdnaonfnmaaGreatDoorMLexImpl7
namespace Go.Proofs.YtjjdcdnaonfnmaaGreatDoor
open Go.RowKit

theorem Quiet.val {P : Program} {f : FuncId} {args : Array Value} {w : World} {v v' : Value} (h : Calls P f args w (Quiet w v)) (e : v = v') : Calls P f args w (Quiet w v') := e ▸ h

theorem lawsBigNo (a : Option Addr) (c n : Nat) (w : World) (h : n ≤ 1048576) : Calls Tryz.prog 4 #[.slice a n c] w fun e w' => e = .returned (.bool false) ∧ w = w' :=
  (lawsBig a c n w).mono fun e w' ⟨he, hw⟩ => ⟨by rw [he, decide_eq_false (by omega)], hw⟩
theorem lawsBigYes (a : Option Addr) (c n : Nat) (w : World) (h : 1048576 < n) : Calls Tryz.prog 4 #[.slice a n c] w fun e w' => e = .returned (.bool true) ∧ w = w' :=
  (lawsBig a c n w).mono fun e w' ⟨he, hw⟩ => ⟨by rw [he, decide_eq_true h], hw⟩

end Go.Proofs.YtjjdcdnaonfnmaaGreatDoor
