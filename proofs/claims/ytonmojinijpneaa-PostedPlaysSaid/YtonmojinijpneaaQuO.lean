/- The document's queue: Find, First. -/
import Derived.Test.YtonmojinijpneaaRows
import Derived.Test.YtonmojinijpneaaQuN
import Derived.Deep.CutRange
namespace Go.Proofs.Ytonmojinijpneaa
open Go Go.RowKit Go.Lib
set_option linter.unusedVariables false
set_option linter.unusedSimpArgs false
namespace Qu
end Qu
end Go.Proofs.Ytonmojinijpneaa
