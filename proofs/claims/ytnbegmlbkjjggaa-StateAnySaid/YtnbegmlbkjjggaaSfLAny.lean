/- package state: the law's walk (StY) beside the package's functions (SfS). -/
import Derived.Test.YtnbegmlbkjjggaaStY
import Derived.Test.YtnbegmlbkjjggaaSfS
import Derived.Test.YtnbegmlbkjjggaaJoin
namespace Go.Proofs.Ytnbegmlbkjjggaa
end Go.Proofs.Ytnbegmlbkjjggaa
