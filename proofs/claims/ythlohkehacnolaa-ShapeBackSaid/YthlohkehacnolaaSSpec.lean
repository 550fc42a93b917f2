/-
  Package shape as it landed: all its contracts (SCode1 to SCode7), under one name.
-/
import Derived.Test.YthlohkehacnolaaSCode7
namespace Go.Proofs.Ythlohkehacnolaa
end Go.Proofs.Ythlohkehacnolaa
