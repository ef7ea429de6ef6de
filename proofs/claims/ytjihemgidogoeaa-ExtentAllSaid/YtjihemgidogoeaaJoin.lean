/- What a row's frame asks of the whole program: each closed fact by itself, or the kernel's memory does not do. -/
import Derived.Test.YtjihemgidogoeaaRows
import Derived.WalkKit
import Derived.ProofKit
import Derived.JoinedOf
namespace Go.Proofs.Ytjihemgidogoeaa

theorem jn_laid : laidOutB Try.prog = true := by kernel_rfl
theorem jn_maps : mapsRowed Try.prog = true := by kernel_rfl
theorem jn_heard : Try.prog.stopsHeard = true := by kernel_rfl
theorem jn_enter : Try.prog.mayEnter = true := by kernel_rfl
theorem jn_lifts : Try.prog.liftsFinal = false := by kernel_rfl
theorem jn_make : Try.prog.make = some .cut := by kernel_rfl
theorem jn_plain : Try.prog.plainKeys = true := by kernel_rfl
end Go.Proofs.Ytjihemgidogoeaa
