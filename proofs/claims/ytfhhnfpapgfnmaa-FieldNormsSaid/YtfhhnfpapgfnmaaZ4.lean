/-
  Texts of the proof, merged by program: Fkb.
-/
import Derived.Test.YtfhhnfpapgfnmaaZ2
set_option linter.unusedVariables false
set_option linter.unusedSectionVars false
set_option linter.unusedSimpArgs false
namespace Go.Proofs.Ytfhhnfpapgfnmaa
namespace FFld
set_option maxRecDepth 100000 in
theorem tab1_ok : tab1.all cert = true := by decide +kernel
set_option maxRecDepth 100000 in
theorem tab2_ok : tab2.all cert = true := by decide +kernel
set_option maxRecDepth 100000 in
theorem tab5_ok : tab5.all cert = true := by decide +kernel
set_option maxRecDepth 100000 in
theorem tab6_ok : tab6.all cert = true := by decide +kernel
end FFld
end Go.Proofs.Ytfhhnfpapgfnmaa
