/- What a row's frame asks of the whole program: each closed fact by itself, or the kernel's memory does not do. -/
import Derived.Test.YtpfcopdckjedfaaDoorRows
import Derived.WalkKit
import Derived.ProofKit
import Derived.JoinedOf
namespace Go.Proofs.YtpfcopdckjedfaaDoor

theorem jn_laid : laidOutB Tryd.prog = true := by kernel_rfl
theorem jn_maps : mapsRowed Tryd.prog = true := by kernel_rfl
theorem jn_heard : Tryd.prog.stopsHeard = true := by kernel_rfl
theorem jn_enter : Tryd.prog.mayEnter = true := by kernel_rfl
theorem jn_lifts : Tryd.prog.liftsFinal = false := by kernel_rfl
theorem jn_make : Tryd.prog.make = some .cut := by kernel_rfl
theorem jn_plain : Tryd.prog.plainKeys = true := by kernel_rfl
end Go.Proofs.YtpfcopdckjedfaaDoor
