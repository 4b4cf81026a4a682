/- No contract of the library is asked for in this seat. -/
import Derived.Test.YtgecemngfpgcoaaProg
namespace Go.Proofs.Ytgecemngfpgcoaa
end Go.Proofs.Ytgecemngfpgcoaa
