/-
  Texts of the proof, merged by program: Fka.
-/
import Derived.Test.YtfhhnfpapgfnmaaZ2
set_option linter.unusedVariables false
set_option linter.unusedSectionVars false
set_option linter.unusedSimpArgs false
namespace Go.Proofs.Ytfhhnfpapgfnmaa
namespace FFld
set_option maxRecDepth 100000 in
theorem tab0_ok : tab0.all cert = true := by decide +kernel
end FFld
end Go.Proofs.Ytfhhnfpapgfnmaa
