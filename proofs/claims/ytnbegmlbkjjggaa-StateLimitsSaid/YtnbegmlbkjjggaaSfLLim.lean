/- package state: the law's walk (StL) beside the package's functions (SfS). -/
import Derived.Test.YtnbegmlbkjjggaaStL
import Derived.Test.YtnbegmlbkjjggaaSfS
import Derived.Test.YtnbegmlbkjjggaaJoin
namespace Go.Proofs.Ytnbegmlbkjjggaa
end Go.Proofs.Ytnbegmlbkjjggaa
