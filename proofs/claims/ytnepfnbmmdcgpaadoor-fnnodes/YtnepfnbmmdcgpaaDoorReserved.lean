/- The reserved words: impl.isReserved and the model's list. -/
import Derived.Test.YtnepfnbmmdcgpaaDoorHas
namespace Go.Proofs.YtnepfnbmmdcgpaaDoor
open Go.RowKit

/-- The reserved words, byte by byte. -/
def keptW : List (List UInt8) := [[97, 100, 100], [97, 108, 108], [97, 108, 116, 101, 114], [97, 110, 100], [97, 115], [98, 111, 111, 108], [99, 104, 97, 114], [99, 104, 101, 99, 107], [99, 111, 108, 117, 109, 110], [99, 111, 110, 115, 116, 114, 97, 105, 110, 116], [99, 114, 101, 97, 116, 101], [100, 101, 102, 97, 117, 108, 116], [100, 114, 111, 112], [101, 110, 117, 109], [102, 97, 108, 115, 101], [102, 111, 114, 101, 105, 103, 110], [102, 114, 111, 109], [105, 110, 100, 101, 120], [105, 110, 116], [105, 115], [107, 101, 121], [110, 111, 116], [110, 117, 108, 108], [111, 110], [111, 114], [112, 114, 105, 109, 97, 114, 121], [114, 101, 102, 101, 114, 101, 110, 99, 101, 115], [115, 101, 108, 101, 99, 116], [115, 101, 113, 117, 101, 110, 99, 101], [115, 101, 116], [115, 116, 97, 114, 116], [116, 97, 98, 108, 101], [116, 101, 120, 116], [116, 111], [116, 114, 117, 101], [116, 121, 112, 101], [117, 110, 105, 113, 117, 101], [118, 105, 101, 119], [119, 104, 101, 114, 101]]
def keptB (l : List UInt8) : Bool := keptW.any fun x => l == x

theorem kept_hit {l x : List UInt8} (hx : x ∈ keptW) (h : (l == x) = true) : keptB l = true := List.any_eq_true.2 ⟨x, hx, h⟩

set_option maxRecDepth 100000 in
set_option maxHeartbeats 4000000 in
theorem implReserved (s : ByteArray) (w : World) (v : Bool) (hv : keptB s.toList = v) :
    Calls Tryd.prog 82 #[.string s] w fun e w' => e = .returned (.bool v) ∧ w = w' := by
  have HV := Lib.hid hv
  clear hv
  go_enter Tryd.func82, Tryd.ntmps82
  go_wp2_with fail
  all_goals first
    | (rename_i ha hb; exact Bool.noConfusion (ha.symm.trans hb))
    | (rename_i ha hb; go_ret; exact ⟨by rw [← HV.out, kept_hit (by decide) hb]; rfl, rfl⟩)
    | (have HN : Hid (keptB s.toList = false) := by
         unfold Hid keptB keptW
         simp only [List.any_cons, List.any_nil, *, Bool.or_false]
       go_ret
       exact ⟨by rw [← HV.out, HN.out]; rfl, rfl⟩)

end Go.Proofs.YtnepfnbmmdcgpaaDoor
