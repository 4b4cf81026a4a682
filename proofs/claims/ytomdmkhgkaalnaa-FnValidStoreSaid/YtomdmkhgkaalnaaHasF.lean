/- Contract of the program's function that says whether a valid tree has a file with an index. -/
import Derived.Test.YtomdmkhgkaalnaaTrees
set_option linter.unusedVariables false
set_option linter.unusedSimpArgs false
namespace Go.Proofs.Ytomdmkhgkaalnaa
open Go.RowKit Go.Proofs.Ytomdmkhgkaalnaa.Nm

end Go.Proofs.Ytomdmkhgkaalnaa
