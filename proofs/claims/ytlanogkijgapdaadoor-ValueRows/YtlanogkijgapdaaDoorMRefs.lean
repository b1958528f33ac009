/- The document's words, types, which arguments an op has. -/
import Derived.Test.YtlanogkijgapdaaDoorMFacts
namespace Go.Proofs.YtlanogkijgapdaaDoor
open Go.RowKit
set_option linter.unusedVariables false
set_option maxRecDepth 100000

theorem op_split (op : Int) : op < 1 ∨ 17 < op ∨ okOp op := by unfold okOp; omega
end Go.Proofs.YtlanogkijgapdaaDoor
