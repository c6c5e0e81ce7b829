/-
  Idle, Busy, Close of a meet of package mark, as contracts.
-/
import Derived.Test.YtmnbcofonhlplaaDoorMq
namespace Go.Proofs.YtmnbcofonhlplaaDoor
open Go.RowKit Go.Lib
set_option linter.unusedSimpArgs false


end Go.Proofs.YtmnbcofonhlplaaDoor
