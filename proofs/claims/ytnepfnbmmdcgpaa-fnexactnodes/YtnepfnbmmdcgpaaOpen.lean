/- How the arguments of a law are opened: slices of texts, of bytes. -/
import Derived.Test.YtnepfnbmmdcgpaaMem
import Derived.ProofKit
import Derived.OpenShut
import Derived.ShutString
import Derived.ChangeOld
import Derived.Below
import Derived.SliceStrings
namespace Go.Proofs.Ytnepfnbmmdcgpaa
open Go.ChangeShapes Go.WideShapes Go.ChangeAt Go.RowKit

theorem ownKnobs : ownKnob Try.prog.godebug = none := by kernel_rfl
theorem laidOutB0 : laidOutB Try.prog = true := by kernel_rfl

end Go.Proofs.Ytnepfnbmmdcgpaa
