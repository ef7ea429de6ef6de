/- package state: the law's walk (StZ) beside the package's functions (SfS). -/
import Derived.Test.YtnbegmlbkjjggaaStZ
import Derived.Test.YtnbegmlbkjjggaaSfS
import Derived.Test.YtnbegmlbkjjggaaJoin
namespace Go.Proofs.Ytnbegmlbkjjggaa
end Go.Proofs.Ytnbegmlbkjjggaa
