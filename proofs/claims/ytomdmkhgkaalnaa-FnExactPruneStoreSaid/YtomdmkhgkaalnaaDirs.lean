/- Contracts of the functions that tell what lies below a package, and whether a directory is there. -/
import Derived.Test.YtomdmkhgkaalnaaTrees
import Derived.Test.YtomdmkhgkaalnaaPlainT
import Derived.Test.YtomdmkhgkaalnaaTreeMem
import Derived.Deep.AppendLies
set_option linter.unusedVariables false
set_option linter.unusedSimpArgs false
namespace Go.Proofs.Ytomdmkhgkaalnaa
open Go.RowKit Go.Proofs.Ytomdmkhgkaalnaa.Nm

end Go.Proofs.Ytomdmkhgkaalnaa
