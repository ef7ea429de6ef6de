import Derived.Test.YtpfcopdckjedfaaDoorProg
import Derived.Test.YtpfcopdckjedfaaDoorBase
namespace Go.Proofs.YtpfcopdckjedfaaDoor
open Go.RowKit

/-- Short. -/
theorem short_any (ao : Option Addr) (n cap m : Nat) (w : World) (hle : n ≤ cap) (_hcap : cap ≤ 9223372036854775807) (_hm : m ≤ 1000) :
    Calls Tryd.prog 10 #[.slice ao n cap, .int .i64 m] w fun e w' => e = .returned (.slice ao (min n m) cap) ∧ w = w' := by
  by_cases h : m < n
  · have hmc : m ≤ cap := by omega
    go_enter Tryd.func10, Tryd.ntmps10
    go_wp2
    go_ret
    exact ⟨by rw [Nat.min_eq_right (by omega)]; rfl, rfl⟩
  · go_enter Tryd.func10, Tryd.ntmps10
    go_wp2
    go_ret
    exact ⟨by rw [Nat.min_eq_left (by omega)]; rfl, rfl⟩
end Go.Proofs.YtpfcopdckjedfaaDoor
