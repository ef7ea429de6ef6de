/- Numbers go round. -/
import Derived.Test.YtiohgigbnncpiaaDoorIntLaw
namespace Go.Proofs.YtiohgigbnncpiaaDoor
open Go.RowKit

set_option maxRecDepth 20000 in
set_option maxHeartbeats 1000000 in
theorem intsWrap_walk (k n : Int) (hn : In64 n) (w : World) (hL : Laid w) :
    Calls Tryd.prog 5 #[.int .i64 k, .int .i64 n] w fun e w' => e = .returned (.bool true) ∧ Below w.heap.size w w' := by
  obtain ⟨a, v, hw⟩ : ∃ a v, wrapS k n = (a, v) := ⟨_, _, rfl⟩
  obtain ⟨z, hz⟩ : ∃ z, sg 1 n = z := ⟨_, rfl⟩
  have hz1 : sg 1 (wrap64 (n + 4294967296)) = z := by
    rw [← hz, sg_wrap64]
    exact sg_mod _ _ _ (by omega)
  have H1 := hid hz1
  have H2 := hid hz
  have Hw := hid hw
  have Hn := hid hn
  clear hw hz hz1 hn
  have HL := hid hL
  clear hL
  go_enter Tryd.func5, Tryd.ntmps5
  go_wp2_with fail
  refine (begun_any _ HL.out).mono ?_
  rintro e w1 ⟨rfl, b1⟩
  have BL1 := hid (Bl.step (Bl.refl _) b1)
  clear b1
  go_wp2_with fail
  refine (wrapK_to _ _ _ _ Hn.out Hw.out _).mono ?_
  rintro e w2 ⟨rfl, b2⟩
  have BL2 := hid (Bl.step BL1.out b2)
  clear b2 BL1
  go_wp2_with fail
  refine (refWrapK_to _ _ _ _ Hn.out Hw.out _).mono ?_
  rintro e w3 ⟨rfl, b3⟩
  have BL3 := hid (Bl.step BL2.out b3)
  clear b3 BL2
  go_wp2_with fail
  refine (eq_same _ _ _).mono ?_
  rintro e w4 ⟨rfl, b4⟩
  have BL4 := hid (Bl.step BL3.out b4)
  clear b4 BL3
  go_wp2_with fail
  refine (wrap_to _ z H1.out _).mono ?_
  rintro e w5 ⟨rfl, b5⟩
  have BL5 := hid (Bl.step BL4.out b5)
  clear b5 BL4
  go_wp2_with fail
  refine (wrap_to _ z H2.out _).mono ?_
  rintro e w6 ⟨rfl, b6⟩
  have BL6 := hid (Bl.step BL5.out b6)
  clear b6 BL5
  go_wp2_with fail
  refine (eq_same _ _ _).mono ?_
  rintro e w7 ⟨rfl, b7⟩
  have BL7 := hid (Bl.step BL6.out b7)
  clear b7 BL6
  go_wp2_with fail
  go_ret
  exact ⟨by simp, BL7.out⟩
end Go.Proofs.YtiohgigbnncpiaaDoor
