/- Words: Join. -/
import Derived.WalkKit
import Derived.ProofKit
import Derived.JoinedOf
import Derived.Test.YtbkofpljchkkaaaGreatRows
namespace Go.Proofs.YtbkofpljchkkaaaGreat
theorem jn_laid:laidOutB Tryz.prog=true:=by kernel_rfl
theorem jn_maps:mapsRowed Tryz.prog=true:=by kernel_rfl
theorem jn_heard:Tryz.prog.stopsHeard=true:=by kernel_rfl
theorem jn_enter:Tryz.prog.mayEnter=true:=by kernel_rfl
theorem jn_lifts:Tryz.prog.liftsFinal=false:=by kernel_rfl
theorem jn_make:Tryz.prog.make=some .cut:=by kernel_rfl
theorem jn_plain:Tryz.prog.plainKeys=true:=by kernel_rfl
end Go.Proofs.YtbkofpljchkkaaaGreat
