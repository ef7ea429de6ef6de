/- super's laws: SuperNone; over SuSpec. -/
import Derived.Test.YtpfcopdckjedfaaDoorSuB
import Derived.Test.YtpfcopdckjedfaaDoorMake
namespace Go.Proofs.YtpfcopdckjedfaaDoor
open Go.RowKit
set_option linter.unusedVariables false
theorem infoU8' : (Tryd.prog.info? 5).map (fun i => (i.zero, i.size, i.bytes)) = some (some (.int .u8 0), 1, 1) := by kernel_rfl

set_option maxRecDepth 100000 in
set_option maxHeartbeats 4000000 in
theorem superNone_walk (X : SuSpec) (w : World) (hl0 : X.L w) : Calls Tryd.prog 5 #[] w fun e w' => e = .returned (.bool true) ∧ Below w.heap.size w w' := by
  have hmk := fun (w : World) => make_u8 (P := Tryd.prog) 30 5 Tryd.underlying30 infoU8' 41 (by omega) w
  have hrz := fun (w : World) => Rd.zeros w 5 41 (by omega)
  have hal := fun (w : World) => Bl.alloc (Bl.refl w) (.cells ((List.replicate 41 (0 : Int)).map (Value.int .u8)).toArray 5)
  obtain ⟨CS, hCS⟩ : ∃ CS, ((List.replicate 41 (0 : Int)).map (Value.int .u8)).toArray = CS := ⟨_, rfl⟩
  rw [hCS] at hmk hrz hal
  replace hrz := hid hrz
  replace hal := hid hal
  clear hCS
  have HL0 := hid hl0
  clear hl0
  go_enter Tryd.func5, Tryd.ntmps5
  go_wp2_with fail
  refine (X.new_to 2 w (by decide)).mono ?_
  rintro e w1 ⟨p, A, rfl, hA, hat, hb⟩
  have HT := hid hat
  have HB := hid hb
  clear hA hat hb
  have hm1 := hmk w1
  rw [show ((41 : Nat) : Int) = 41 from rfl] at hm1
  go_wp2_with fail
  have hbl := hal.out w1
  refine (X.make_long A (Dv.new 2) p _ 0 _ 41 41 (List.replicate 41 0) (X.bel HT.out hbl) (by decide) (hrz.out w1) (by decide)).mono ?_
  rintro e w2 ⟨rfl, hb⟩
  replace HB := hid (Bl.step (Bl.step HB.out hbl) hb)
  clear hb hbl HT hm1 hmk hrz hal
  go_wp2_with fail
  refine (X.open_no w2 0 (by decide)).mono ?_
  rintro e w3 ⟨E, rfl, hE, hb⟩
  replace HB := hid (Bl.step HB.out hb)
  clear hb
  have hE0 : (E != 0) = true := by simpa using hE
  go_wp2_with fail
  refine (begun18_to X w3 (X.lb HL0.out HB.out)).mono ?_
  rintro e w4 ⟨rfl, hb⟩
  replace HB := hid (Bl.step HB.out hb)
  clear hb
  go_wp2_with fail
  refine (X.save_no w4 none 0 0).mono ?_
  rintro e w5 ⟨rfl, hb⟩
  replace HB := hid (Bl.step HB.out hb)
  clear hb
  go_wp2_with fail
  refine (X.text_no w5).mono ?_
  rintro e w6 ⟨rfl, hb⟩
  replace HB := hid (Bl.step HB.out hb)
  clear hb
  go_wp2_with fail
  refine (X.turn_no w6).mono ?_
  rintro e w7 ⟨rfl, hb⟩
  replace HB := hid (Bl.step HB.out hb)
  clear hb
  go_wp2_with fail
  go_ret
  exact ⟨rfl, HB.out⟩
end Go.Proofs.YtpfcopdckjedfaaDoor
