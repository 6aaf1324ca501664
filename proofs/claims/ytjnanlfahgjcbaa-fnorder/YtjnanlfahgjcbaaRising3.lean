/- spec.Rising answers whether each text of a list is ahead of the next. -/
import Derived.Test.YtjnanlfahgjcbaaRising2
import Derived.Test.YtjnanlfahgjcbaaPutSpec
namespace Go.Proofs.Ytjnanlfahgjcbaa
open Go.RowKit

theorem pairAt_eq (xs : List ByteArray) (k : Nat) (h : k + 1 < xs.length) : pairAt xs k = (xs[k], xs[k + 1]) := by
  simp [pairAt, h, show k < xs.length by omega]

end Go.Proofs.Ytjnanlfahgjcbaa
