/- package state: the law's walk (StE) beside the package's functions (SfS). -/
import Derived.Test.YtnbegmlbkjjggaaStE
import Derived.Test.YtnbegmlbkjjggaaSfS
import Derived.Test.YtnbegmlbkjjggaaJoin
namespace Go.Proofs.Ytnbegmlbkjjggaa
end Go.Proofs.Ytnbegmlbkjjggaa
