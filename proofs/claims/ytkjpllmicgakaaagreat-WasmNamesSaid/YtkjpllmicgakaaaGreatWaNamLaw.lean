/- WasmNames. Written by gen_nam.py. -/
import Derived.Test.YtkjpllmicgakaaaGreatWaNamA
import Derived.Test.YtkjpllmicgakaaaGreatWaNamB
import Derived.Test.YtkjpllmicgakaaaGreatWaNamC
namespace Go.Proofs.YtkjpllmicgakaaaGreat
open Go.RowKit

set_option maxRecDepth 100000 in
theorem wasmNames_walk (n x wh : Int) (w : World) (hx : 0 ≤ x ∧ x ≤ 255) :
    Calls Tryz.prog 6 #[.int .i64 n, .int .u8 x, .int .i64 wh] w fun e w' => e = .returned (.bool true) ∧ Below w.heap.size w w' := by
  by_cases h : 0 ≤ n ∧ n ≤ 20
  · obtain ⟨k, rfl⟩ := Int.eq_ofNat_of_zero_le h.1
    have hk : k ≤ 20 := by omega
    have h1 := Int.tmod_lt_of_pos wh (show (0 : Int) < 3 by decide)
    have h2 := Int.lt_tmod_of_pos wh (show (0 : Int) < 3 by decide)
    have h3 := Int.tmod_lt_of_pos (Int.tmod wh 3 + 3) (show (0 : Int) < 3 by decide)
    have h4 := Int.tmod_nonneg 3 (show 0 ≤ Int.tmod wh 3 + 3 by omega)
    rcases (by omega : Int.tmod (Int.tmod wh 3 + 3) 3 = 0 ∨ Int.tmod (Int.tmod wh 3 + 3) 3 = 1 ∨ Int.tmod (Int.tmod wh 3 + 3) 3 = 2) with e | e | e
    · exact wasmNames_0 k x wh w hk hx e
    · exact wasmNames_1 k x wh w hk hx e
    · exact wasmNames_2 k x wh w hk hx e
  · have hb := begun_to w
    have HBG := hid hb
    clear hb
    rcases (by omega : n < 0 ∨ 0 ≤ n ∧ 20 < n) with g | ⟨g, g2⟩
    all_goals
      go_enter Tryz.func6, Tryz.ntmps6
      go_wp2_with fail
      refine HBG.out.mono ?_
      rintro e w1 ⟨rfl, hb⟩
      go_wp2_with fail
      go_ret
      exact ⟨rfl, hb⟩
end Go.Proofs.YtkjpllmicgakaaaGreat
