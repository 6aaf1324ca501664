/- impl.Rising and spec.Rising answer whether each text of a list is ahead of the next. -/
import Derived.Test.YtdggcgipchijjaaRising
namespace Go.Proofs.Ytdggcgipchijjaa
open Go.RowKit Go.Shelf
attribute [local go_sem] Oper.semAt_some

end Go.Proofs.Ytdggcgipchijjaa
