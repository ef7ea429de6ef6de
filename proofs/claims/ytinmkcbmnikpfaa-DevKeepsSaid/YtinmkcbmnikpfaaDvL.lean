/- dev's laws: begun, DevNone; over DevSpec. -/
import Derived.Test.YtinmkcbmnikpfaaDvS
import Derived.Test.YtinmkcbmnikpfaaDvN
import Derived.Test.YtinmkcbmnikpfaaRegionTail
import Derived.Lib.SlBytesConst
namespace Go.Proofs.Ytinmkcbmnikpfaa
open Go.RowKit
set_option linter.unusedVariables false

set_option maxRecDepth 100000 in
set_option maxHeartbeats 4000000 in
theorem begun_to (X : DevSpec) (w : World) : Calls Try.prog 8 #[] w fun e w' => e = .returned (.bool true) ∧ Below w.heap.size w w' := by
  have kc := fun (w : World) (C : Array Value) (n c : Nat) => Lib.run_convert_bytes_const (P := Try.prog) w 22 5 C n c Try.underlying22 Try.underlying5
  go_enter Try.func8, Try.ntmps8
  go_wp2_with fail
  refine (X.new_to 3 w (by decide)).mono ?_
  rintro e w1 ⟨p, A, rfl, hA, hat, hb⟩
  have HA := hid hA; have HT := hid hat; have HB := hid hb
  clear hA hat hb
  go_wp2_with fail
  refine (X.len_to A (Dv.new 3) p w1 HT.out).mono ?_
  rintro e w2 ⟨rfl, hb⟩
  replace HT := hid (X.bel HT.out hb); replace HB := hid (Bl.step HB.out hb)
  clear hb
  have e3 : ((Dv.new 3).now.length : Int) = 3 := by decide
  rw [e3]
  go_wp2_with fail
  have hbl := (Bl.refl w2).alloc (Nat.le_refl _) (.cells #[.int .u8 97, .int .u8 98] 5 (2, 3))
  have hrd := Rd.builtAll w2 .u8 5 (2, 3) [97, 98] (by decide)
  refine (X.write_to A (Dv.new 3) p _ 1 _ 2 2 [97, 98] (X.bel HT.out hbl) (by decide) (hrd (by decide)) (fun ad e h => by cases e; have := X.lt HT.out _ h; simp at this) (by decide)).mono ?_
  rintro e w3 ⟨A3, rfl, hA3, hat, hw⟩
  have HA3 : Hid (∀ b, A3 b → w.heap.size ≤ b) := hid fun b hb => by rcases hA3 b hb with h | h; exact HA.out b h; have := hbl.size; have := HB.out.size; omega
  replace HB := hid (HB.out.trans ((hbl.mono (Nat.le_refl _)).mono HB.out.size) |>.trans (hw.below HA.out (Nat.le_trans HB.out.size hbl.size)))
  replace HT := hid hat
  clear hA3 hat hw hbl hrd HA
  obtain ⟨M, hM⟩ : ∃ M, (Dv.new 3).write 1 [97, 98] = M := ⟨_, rfl⟩
  have HM := hid hM
  have e4 : (Dv.new 3).writeE 1 2 = 0 := by decide
  rw [hM] at HT
  rw [e4]
  clear hM e4 e3
  go_wp2_with fail
  refine (X.loose_to A3 M p w3 HT.out).mono ?_
  rintro e w4 ⟨v, rfl, hv, hb⟩
  have eL : M.looses = [1] := by rw [← HM.out]; decide
  rw [eL] at hv
  obtain ⟨g, c, rfl, hg, hgc, hc63⟩ := hv.form (by decide)
  have e1 : ([1] : List Int).length = 1 := rfl
  rw [e1] at hv hgc ⊢
  clear e1
  have HV := hid hv
  have HG : Hid (∀ b, A3 b → g ≠ b) := hid fun b hb e => by have := X.lt HT.out b hb; omega
  have HWG : Hid (w.heap.size ≤ g) := hid (Nat.le_trans HB.out.size hg)
  replace HT := hid (X.bel HT.out hb); replace HB := hid (Bl.step HB.out hb)
  clear hb hv hg eL
  go_wp2_with fail
  refine (X.crash_to A3 M p w4 none 0 0 [] HT.out (RdB.empty _)).mono ?_
  rintro e w5 ⟨q, Aq, rfl, hAq, hq, hb⟩
  have HAQ := hid hAq; have HQ := hid hq
  have HAW : Hid (∀ b, Aq b → ¬ A3 b) := hid fun b hb hb' => by have := X.lt HT.out b hb'; have := hAq b hb; omega
  replace HV := hid (HV.out.below hb (Nat.le_refl _))
  replace HT := hid (X.bel HT.out hb); replace HB := hid (Bl.step HB.out hb)
  clear hb hAq hq
  go_wp2_with fail
  have hbl := (Bl.refl w5).alloc (Nat.le_refl _) (.cells #[.bool true] 4)
  refine (X.crash_to A3 M p _ _ 1 1 [true] (X.bel HT.out hbl) (RdB.built w5 4 true)).mono ?_
  rintro e w6 ⟨r, Ar, rfl, hAr, hr, hb⟩
  have HAR : Hid (∀ b, Ar b → ¬ A3 b) := hid fun b hb hb' => by have := X.lt HT.out b hb'; have := hAr b hb; have := hbl.size; omega
  have hb' := Bl.step hbl hb
  have HR := hid hr
  replace HV := hid (HV.out.below hb' (Nat.le_refl _))
  replace HQ := hid (X.bel HQ.out hb')
  replace HT := hid (X.bel HT.out hb'); replace HB := hid (Bl.step HB.out hb')
  clear hb hb' hbl hAr hr
  go_wp2_with fail
  refine (X.read_to Aq (M.crash []) q w6 1 HQ.out (by decide)).mono ?_
  rintro e w7 ⟨v, rfl, hv, hb⟩
  have eR : (M.crash []).readE 1 = 0 ∧ (M.crash []).read 1 = zSec := by rw [← HM.out]; decide
  rw [eR.1]
  rw [eR.2] at hv
  obtain ⟨gx, cx, rfl, hgx, hgcx, hc63x⟩ := hv.form (by decide)
  have e1 : zSec.length = 64 := rfl
  rw [e1] at hv hgcx ⊢
  clear e1
  have HX := hid hv
  have HGX : Hid (∀ b, A3 b → gx ≠ b) := hid fun b hb e => by have := X.lt HT.out b hb; omega
  replace HV := hid (HV.out.below hb (Nat.le_refl _))
  replace HQ := hid (X.bel HQ.out hb)
  replace HR := hid (X.bel HR.out hb)
  replace HT := hid (X.bel HT.out hb); replace HB := hid (Bl.step HB.out hb)
  clear hb hv hgx eR
  go_wp2_with fail
  refine (X.read_to Ar (M.crash [true]) r w7 1 HR.out (by decide)).mono ?_
  rintro e w8 ⟨v, rfl, hv, hb⟩
  have eR : (M.crash [true]).readE 1 = 0 ∧ (M.crash [true]).read 1 = [97, 98] ++ List.replicate 62 0 := by rw [← HM.out]; decide
  rw [eR.1]
  rw [eR.2] at hv
  obtain ⟨gy, cy, rfl, hgy, hgcy, hc63y⟩ := hv.form (by decide)
  have e1 : ([97, 98] ++ List.replicate 62 0 : List Int).length = 64 := rfl
  rw [e1] at hv hgcy ⊢
  clear e1
  have HY := hid hv
  have HGY : Hid (∀ b, A3 b → gy ≠ b) := hid fun b hb e => by have := X.lt HT.out b hb; omega
  replace HV := hid (HV.out.below hb (Nat.le_refl _))
  replace HX := hid (HX.out.below hb (Nat.le_refl _))
  replace HQ := hid (X.bel HQ.out hb)
  replace HT := hid (X.bel HT.out hb); replace HB := hid (Bl.step HB.out hb)
  clear hb hv hgy eR HR HAR
  go_wp2_with fail
  refine (X.fuse_to A3 M p w8 0 HT.out (by decide)).mono ?_
  rintro e w9 ⟨A4, rfl, hA4, hat, hw⟩
  have HA4 : Hid (∀ b, A4 b → w.heap.size ≤ b) := hid fun b hb => by rcases hA4 b hb with h | h; exact HA3.out b h; have := HB.out.size; omega
  have c0 : w9.cell? ⟨g, 0, none⟩ = some (.int .i64 1) := ((HV.out.wrs hw (own_no HG.out)).cell 0 (by decide)).1
  have c1 : w9.cell? ⟨gx, 0, none⟩ = some (.int .u8 0) := ((HX.out.wrs hw (own_no HGX.out)).cell 0 (by decide)).1
  have c2 : w9.cell? ⟨gy, 1, none⟩ = some (.int .u8 98) := ((HY.out.wrs hw (own_no HGY.out)).cell 1 (by decide)).1
  have HAW4 : Hid (∀ b, Aq b → ¬ A4 b) := hid fun b hb h4 => by rcases hA4 b h4 with h | h; exact HAW.out b hb h; have := X.lt HQ.out b hb; omega
  replace HQ := hid (X.wrs HQ.out hw HAW.out)
  replace HB := hid (HB.out.trans (hw.below HA3.out HB.out.size))
  replace HT := hid hat
  clear hA4 hat hw HV HX HY HG HGX HGY HA3 HAW HAQ
  obtain ⟨M2, hM2⟩ : ∃ M2, M.fuseTo 0 = M2 := ⟨_, rfl⟩
  rw [hM2] at HT
  have HM2 := hid hM2
  clear hM2
  go_wp2_with fail
  refine (X.write_to A4 M2 p w9 9 none 0 0 [] HT.out (by decide) (Rd.empty _ _) (fun _ h => by cases h) (by rw [← HM2.out, ← HM.out]; decide)).mono ?_
  rintro e wa ⟨A5, rfl, hA5, hat, hw⟩
  have e1 : M2.writeE 9 0 = 10 := by rw [← HM2.out, ← HM.out]; decide
  rw [e1]
  have HA5 : Hid (∀ b, A5 b → w.heap.size ≤ b) := hid fun b hb => by rcases hA5 b hb with h | h; exact HA4.out b h; have := HB.out.size; omega
  have HAW5 : Hid (∀ b, Aq b → ¬ A5 b) := hid fun b hb h4 => by rcases hA5 b h4 with h | h; exact HAW4.out b hb h; have := X.lt HQ.out b hb; omega
  replace HQ := hid (X.wrs HQ.out hw HAW4.out)
  replace HB := hid (HB.out.trans (hw.below HA4.out HB.out.size))
  replace HT := hid hat
  clear hA5 hat hw HA4 HAW4 e1 c0 c1 c2
  obtain ⟨M3, hM3⟩ : ∃ M3, M2.write 9 [] = M3 := ⟨_, rfl⟩
  rw [hM3] at HT
  have HM3 := hid hM3
  clear hM3
  go_wp2_with fail
  refine (X.flush_to A5 M3 p wa HT.out (by rw [← HM3.out, ← HM2.out, ← HM.out]; decide)).mono ?_
  rintro e wb ⟨A6, rfl, hA6, hat, hw⟩
  have e1 : M3.flushE = 10 := by rw [← HM3.out, ← HM2.out, ← HM.out]; decide
  rw [e1]
  replace HQ := hid (X.wrs HQ.out hw HAW5.out)
  replace HB := hid (HB.out.trans (hw.below HA5.out HB.out.size))
  replace HT := hid hat
  clear hA6 hat hw HA5 HAW5 e1
  go_wp2_with fail
  refine (X.calls_to A6 M3.flush p wb HT.out (by rw [← HM3.out, ← HM2.out, ← HM.out]; decide)).mono ?_
  rintro e wc ⟨rfl, hb⟩
  have e1 : (M3.flush.calls : Int) = 1 := by rw [← HM3.out, ← HM2.out, ← HM.out]; decide
  rw [e1]
  replace HQ := hid (X.bel HQ.out hb)
  replace HT := hid (X.bel HT.out hb); replace HB := hid (Bl.step HB.out hb)
  clear hb e1
  go_wp2_with fail
  refine (X.dead_to A6 M3.flush p wc HT.out).mono ?_
  rintro e wd ⟨rfl, hb⟩
  have e1 : decide (M3.flush.fuse = 0) = true := by rw [← HM3.out, ← HM2.out, ← HM.out]; decide
  rw [e1]
  replace HQ := hid (X.bel HQ.out hb); replace HB := hid (Bl.step HB.out hb)
  clear hb e1 HT
  go_wp2_with fail
  refine (X.dead_to Aq (M.crash []) q wd HQ.out).mono ?_
  rintro e we ⟨rfl, hb⟩
  have e1 : decide ((M.crash []).fuse = 0) = false := by rw [← HM.out]; decide
  rw [e1]
  replace HB := hid (Bl.step HB.out hb)
  clear hb e1 HQ
  go_wp2_with fail
  go_ret
  exact ⟨rfl, HB.out⟩
set_option maxRecDepth 100000 in
set_option maxHeartbeats 4000000 in
theorem devNone_walk (X : DevSpec) (w : World) : Calls Try.prog 4 #[] w fun e w' => e = .returned (.bool true) ∧ Below w.heap.size w w' := by
  go_enter Try.func4, Try.ntmps4
  go_wp2_with fail
  refine (X.read_nil w 0).mono ?_
  rintro e w1 ⟨v, rfl, _, hb⟩
  have HB := hid hb
  clear hb
  go_wp2_with fail
  refine (X.fuse_nil w1 3).mono ?_
  rintro e w2 ⟨rfl, hb⟩
  replace HB := hid (Bl.step HB.out hb)
  clear hb
  go_wp2_with fail
  refine (begun_to X w2).mono ?_
  rintro e w3 ⟨rfl, hb⟩
  replace HB := hid (Bl.step HB.out hb)
  clear hb
  go_wp2_with fail
  refine (X.len_nil w3).mono ?_
  rintro e w4 ⟨rfl, hb⟩
  replace HB := hid (Bl.step HB.out hb)
  clear hb
  go_wp2_with fail
  refine (X.write_nil w4 0 none 0 0).mono ?_
  rintro e w5 ⟨rfl, hb⟩
  replace HB := hid (Bl.step HB.out hb)
  clear hb
  go_wp2_with fail
  refine (X.flush_nil w5).mono ?_
  rintro e w6 ⟨rfl, hb⟩
  replace HB := hid (Bl.step HB.out hb)
  clear hb
  go_wp2_with fail
  refine (X.loose_nil w6).mono ?_
  rintro e w7 ⟨v2, rfl, hv, hb⟩
  obtain ⟨ao, cap, rfl, _⟩ := hv.rd
  replace HB := hid (Bl.step HB.out hb)
  clear hb hv
  have e1 : ([] : List Int).length = 0 := rfl
  rw [e1]
  go_wp2_with fail
  refine (X.calls_nil w7).mono ?_
  rintro e w8 ⟨rfl, hb⟩
  replace HB := hid (Bl.step HB.out hb)
  clear hb
  go_wp2_with fail
  refine (X.dead_nil w8).mono ?_
  rintro e w9 ⟨rfl, hb⟩
  replace HB := hid (Bl.step HB.out hb)
  clear hb
  go_wp2_with fail
  refine (X.crash_nil w9 none 0 0).mono ?_
  rintro e wa ⟨rfl, hb⟩
  replace HB := hid (Bl.step HB.out hb)
  clear hb
  go_wp2_with fail
  go_ret
  exact ⟨rfl, HB.out⟩
end Go.Proofs.Ytinmkcbmnikpfaa
