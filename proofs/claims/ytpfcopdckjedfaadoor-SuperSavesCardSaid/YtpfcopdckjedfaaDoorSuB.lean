/- super's laws: begun; over SuSpec. -/
import Derived.Test.YtpfcopdckjedfaaDoorSuS
import Derived.Test.YtpfcopdckjedfaaDoorShort
import Derived.Test.YtpfcopdckjedfaaDoorRegionTail
import Derived.Lib.SlBytesConst
namespace Go.Proofs.YtpfcopdckjedfaaDoor
open Go.RowKit
set_option linter.unusedVariables false

set_option maxRecDepth 100000 in
set_option maxHeartbeats 4000000 in
theorem begun18_to (X : SuSpec) (w : World) (hl0 : X.L w) : Calls Tryd.prog 7 #[] w fun e w' => e = .returned (.bool true) ∧ Below w.heap.size w w' := by
  have kc := fun (w : World) (C : Array Value) (n c : Nat) => Lib.run_convert_bytes_const (P := Tryd.prog) w 30 5 C n c Tryd.underlying30 Tryd.underlying5
  have HL0 := hid hl0
  clear hl0
  go_enter Tryd.func7, Tryd.ntmps7
  go_wp2_with fail
  refine (X.new_to 4 w (by decide)).mono ?_
  rintro e w1 ⟨p, A, rfl, hA, hat, hb⟩
  have HA : Hid (∀ b, A b → w.heap.size ≤ b) := hid hA
  have HT := hid hat
  have HB := hid hb
  clear hA hat hb
  go_wp2_with fail
  have hbl := (Bl.refl w1).alloc (Nat.le_refl _) (.cells #[.int .u8 97, .int .u8 98] 5 (2, 3))
  have hrd := Rd.builtAll w1 .u8 5 (2, 3) [97, 98] (by decide)
  refine (X.make_to A (Dv.new 4) p _ 1 _ 2 2 [97, 98] (X.bel HT.out hbl) (hrd (by decide)) (fun ad e _ h => by cases e; have := X.lt HT.out _ h; simp at this) rfl (by decide) (by decide) (by decide) (X.lb HL0.out (Bl.step HB.out hbl))).mono ?_
  rintro e w2 ⟨q, A2, B2, M2, rfl, hA2, hB2, hAB, hat, hsu, hw, hhas, hst, hfu, hca, hlen, _⟩
  have HA2 : Hid (∀ b, A2 b → w.heap.size ≤ b) := hid fun b hb => by rcases hA2 b hb with h | h; exact HA.out b h; have := hbl.size; have := HB.out.size; omega
  have HB2 : Hid (∀ b, B2 b → w.heap.size ≤ b) := hid fun b hb => Nat.le_trans (Nat.le_trans HB.out.size hbl.size) (hB2 b hb)
  have HD := hid hAB
  have HS := hid hsu; have HH := hid hhas; have HST := hid hst
  have HQ : Hid (M2.fuse = -1 ∧ M2.calls ≤ 10 ∧ M2.now.length = 4) := hid ⟨hfu, by have e : (Dv.new 4).calls = 0 := rfl; omega, hlen.trans (by decide)⟩
  replace HB := hid ((HB.out.trans (hbl.mono HB.out.size)).trans (hw.below HA.out (Nat.le_trans HB.out.size hbl.size)))
  replace HT := hid hat
  clear hA2 hB2 hAB hsu hhas hst hfu hca hlen hw hat hbl hrd HA
  go_wp2_with fail
  have hbl := (Bl.refl w2).alloc (Nat.le_refl _) (.cells #[.int .u8 99, .int .u8 100] 5 (2, 3))
  have hrd := Rd.builtAll w2 .u8 5 (2, 3) [99, 100] (by decide)
  refine (X.save_to A2 B2 M2 ⟨p, 1, [97, 98], 1⟩ q _ _ 2 2 [99, 100] (X.bel HT.out hbl) (X.sbel HS.out hbl) HD.out (hrd (by decide)) (fun ad e _ => by cases e; exact ⟨fun h => by have := X.lt HT.out _ h; simp at this, fun h => by have := X.slt HS.out _ h; simp at this⟩) HST.out HH.out (show (0 : Int) < 1 by decide) (by show (1 : Int) < 1000000000; decide) (by have := HQ.out.2.1; omega) (by decide) (by rw [HQ.out.2.2]; show 1 + 2 ≤ 4; decide) (X.lb HL0.out (Bl.step HB.out hbl))).mono ?_
  rintro e w3 ⟨A3, B3, M3, E, s3, rfl, hA3, hB3, hAB, hat, hsu, hw, hsv, hfu, hca, hlen⟩
  cases hsv with
  | bad E hE hwf hf h => exact absurd HQ.out.1 hf
  | good hh hs ho =>
    have HA3 : Hid (∀ b, A3 b → w.heap.size ≤ b) := hid fun b hb => by rcases hA3 b hb with h | h; exact HA2.out b h; have := hbl.size; have := HB.out.size; omega
    have HH3 := hid hh; have HS3 := hid hs
    have HQ3 : Hid (M3.now.length = 4) := hid (hlen.trans HQ.out.2.2)
    replace HB := hid ((HB.out.trans (hbl.mono HB.out.size)).trans (hw.below (fun b hb => by rcases hb with h | h; exact HA2.out b h; exact HB2.out b h) (Nat.le_trans HB.out.size hbl.size)))
    replace HT := hid hat
    clear hA3 hB3 hAB hsu hh hs hfu hca hlen hw hat hbl hrd HA2 HB2 HD HS HH HST HQ ho
    go_wp2_with fail
    refine (X.crash_to A3 M3 p w3 none 0 0 [] HT.out (RdB.empty _)).mono ?_
    rintro e w4 ⟨r, A4, rfl, hA4, hr, hb⟩
    have HX4 : Hid (X.Has (M3.crash []).now 1 [99, 100] 2) := hid (by rw [HS3.out.crash]; exact HH3.out)
    have HN4 : Hid ((M3.crash []).now.length = 4) := hid ((Dv.crash_len (X.ok HT.out) []).trans HQ3.out)
    have HR := hid hr
    replace HT := hid (X.bel HT.out hb)
    replace HB := hid (Bl.step HB.out hb)
    clear hA4 hr hb HH3 HS3
    go_wp2_with fail
    refine (X.open_to A4 (M3.crash []) r w4 1 [99, 100] 2 HR.out HX4.out (by rw [HN4.out]; decide) (X.lb HL0.out HB.out)).mono ?_
    rintro e w5 ⟨u, B5, rfl, hB5, hsu, hb⟩
    have HS := hid hsu
    replace HT := hid (X.bel HT.out hb)
    replace HB := hid (Bl.step HB.out hb)
    clear hB5 hsu hb HR HX4 HN4
    go_wp2_with fail
    refine (X.new_to 4 w5 (by decide)).mono ?_
    rintro e w6 ⟨p6, A6, rfl, hA6, hat, hb⟩
    have HT6 := hid hat
    replace HS := hid (X.sbel HS.out hb)
    replace HT := hid (X.bel HT.out hb)
    replace HB := hid (Bl.step HB.out hb)
    clear hA6 hat hb
    go_wp2_with fail
    refine (X.open_blank A6 (Dv.new 4) p6 w6 1 HT6.out rfl (by decide) (X.lb HL0.out HB.out)).mono ?_
    rintro e w7 ⟨rfl, hb⟩
    replace HS := hid (X.sbel HS.out hb)
    replace HT := hid (X.bel HT.out hb)
    replace HB := hid (Bl.step HB.out hb)
    clear hb HT6
    go_wp2_with fail
    refine (X.make_far A3 M3 p w7 3 none 0 0 [] HT.out (by decide) (Rd.empty _ _) (by decide) (.inr (by rw [HQ3.out]; decide))).mono ?_
    rintro e w8 ⟨rfl, hb⟩
    replace HS := hid (X.sbel HS.out hb)
    replace HB := hid (Bl.step HB.out hb)
    clear hb HT
    go_wp2_with fail
    refine (X.text_at HS.out).mono ?_
    rintro e w9 ⟨ao, cap, rfl, hrd, hb⟩
    have hcv := conv_str (P := Tryd.prog) hrd 30 9 5 Tryd.underlying30 Tryd.underlying5 Tryd.underlying9
    replace HS := hid (X.sbel HS.out hb)
    replace HB := hid (Bl.step HB.out hb)
    clear hb hrd
    have e2 : ([99, 100] : List Int).length = 2 := rfl
    have es : strOfNums [99, 100] = ⟨#[99, 100]⟩ := by decide
    rw [es] at hcv
    rw [e2] at hcv ⊢
    clear e2 es
    go_wp2_with fail
    refine (X.turn_at HS.out).mono ?_
    rintro e wa ⟨rfl, hb⟩
    replace HB := hid (Bl.step HB.out hb)
    clear hb HS hcv
    go_wp2_with fail
    go_ret
    exact ⟨rfl, HB.out⟩
end Go.Proofs.YtpfcopdckjedfaaDoor
