/- package state: the law's walk (StO) beside the package's functions (SfS). -/
import Derived.Test.YtnbegmlbkjjggaaStO
import Derived.Test.YtnbegmlbkjjggaaSfS
import Derived.Test.YtnbegmlbkjjggaaJoin
namespace Go.Proofs.Ytnbegmlbkjjggaa
end Go.Proofs.Ytnbegmlbkjjggaa
