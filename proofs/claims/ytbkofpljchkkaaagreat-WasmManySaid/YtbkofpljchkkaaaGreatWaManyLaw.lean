/- Words: WaManyLaw. -/
import Derived.Test.YtbkofpljchkkaaaGreatWaMany0
import Derived.Test.YtbkofpljchkkaaaGreatWaMany1
import Derived.Test.YtbkofpljchkkaaaGreatWaMany2
import Derived.Test.YtbkofpljchkkaaaGreatWaMany3
namespace Go.Proofs.YtbkofpljchkkaaaGreat
open Go.RowKit
set_option maxRecDepth 100000 in
theorem wasmMany_walk (n wh:Int) (w:World) :
    Calls Tryz.prog 7 #[.int .i64 n,.int .i64 wh] w fun e w'=>e=.returned (.bool true) /\ Below w.heap.size w w':=by
 by_cases h:0 <= n /\ n <= 20
 ·obtain ⟨k,rfl⟩:=Int.eq_ofNat_of_zero_le h.1
  have hk:k <= 20:=by omega
  have h1:=bits_and_mask .i64 2 (by decide) (fun n h0 h1=>IntWalk.i64_in _ (by omega)) wh
  have h2:=Int.emod_nonneg wh (show (2:Int) ^ 2 ≠ 0 by decide)
  have h3:=Int.emod_lt_of_pos wh (show (0:Int) < 2 ^ 2 by decide)
  rw [show ((2:Int) ^ 2 - 1)=3 from rfl] at h1
  rcases (by omega:wh % 2 ^ 2=0 ∨ wh % 2 ^ 2=1 ∨ wh % 2 ^ 2=2 ∨ wh % 2 ^ 2=3) with e | e | e | e
  ·exact wasmMany_0 k wh w hk (h1.trans e)
  ·exact wasmMany_1 k wh w hk (h1.trans e)
  ·exact wasmMany_2 k wh w hk (h1.trans e)
  ·exact wasmMany_3 k wh w hk (h1.trans e)
 ·have hb:=begun_to w
  have HBG:=hid hb
  clear hb
  rcases (by omega:n < 0 ∨ 0 <= n /\ 20 < n) with g | ⟨g,g2⟩
  all_goals
   go_enter Tryz.func7,Tryz.ntmps7
   go_wp2_with fail
   refine HBG.out.mono ?_
   rintro e w1 ⟨rfl,hb⟩
   go_wp2_with fail
   go_ret
   exact ⟨rfl,hb⟩
end Go.Proofs.YtbkofpljchkkaaaGreat
