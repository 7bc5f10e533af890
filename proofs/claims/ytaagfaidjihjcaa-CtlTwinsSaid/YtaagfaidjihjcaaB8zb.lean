/-
  (What stood here stands in Rst.)
-/
import Derived.Test.YtaagfaidjihjcaaB8za
import Derived.Test.YtaagfaidjihjcaaB1f
namespace Go.Proofs.Ytaagfaidjihjcaa
end Go.Proofs.Ytaagfaidjihjcaa
