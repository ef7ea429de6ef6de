/- dev's laws: DevOwn; over DevSpec. -/
import Derived.Test.YtinmkcbmnikpfaaDvK
import Derived.Test.YtinmkcbmnikpfaaShort
import Derived.Test.YtinmkcbmnikpfaaMake
import Derived.BigRegion
namespace Go.Proofs.Ytinmkcbmnikpfaa
open Go.RowKit
set_option linter.unusedVariables false

theorem infoU8 : (Try.prog.info? 5).map (fun i => (i.zero, i.size, i.bytes)) = some (some (.int .u8 0), 1, 1) := by kernel_rfl
theorem str_size (xs : List Int) : (strOfNums xs).size = xs.length := by
  have h := congrArg List.length (strOfNums_data xs)
  simpa using h
theorem str_cat (xs ys : List Int) : strOfNums xs ++ strOfNums ys = strOfNums (xs ++ ys) := by
  have h : (strOfNums xs ++ strOfNums ys).data.toList = (strOfNums (xs ++ ys)).data.toList := by
    rw [strOfNums_data, ByteArray.data_append, Array.toList_append, strOfNums_data, strOfNums_data, List.map_append]
  cases hx : strOfNums xs ++ strOfNums ys with
  | mk a =>
    cases hy : strOfNums (xs ++ ys) with
    | mk c =>
      rw [hx, hy] at h
      exact congrArg ByteArray.mk (Array.ext' h)
theorem own_M (b : List Int) (h : b.length ≤ 64) : (Dv.new 2).write 0 b = (Dv.new 2).put 0 b := by
  have e : (Dv.new 2).writeE 0 b.length = 0 := by
    unfold Dv.writeE
    rw [if_neg (by decide), if_neg (by decide), if_neg (by omega)]
  unfold Dv.write
  rw [if_pos e]
  rfl
theorem own_read (b : List Int) (q : Nat) (h : 64 - b.length = q) : ((Dv.new 2).put 0 b).read 0 = b ++ List.replicate q 0 := by
  show b ++ zSec.drop b.length = _
  unfold zSec
  rw [List.drop_replicate, h]
set_option maxRecDepth 100000 in
set_option maxHeartbeats 4000000 in
theorem devOwn_walk (X : DevSpec) (bo : Option Addr) (n cap : Nat) (xs : List Int) (w : World) (hx : Rd .u8 w bo n cap xs) :
    Calls Try.prog 3 #[.slice bo n cap] w fun e w' => e = .returned (.bool true) ∧ Below w.heap.size w w' := by
  obtain ⟨m, hm⟩ : ∃ m, m = min n 64 := ⟨_, rfl⟩
  have HSH := hid (short_any bo n cap 64 · hx.le hx.cap63 (by omega))
  have HH := hid (hx.short 64)
  rw [← hm] at HSH HH
  have hm8 : m ≤ 64 := by omega
  obtain ⟨b, hb⟩ : ∃ b, xs.take m = b := ⟨_, rfl⟩
  rw [hb] at HH
  clear hx hm hb
  go_enter Try.func3, Try.ntmps3
  go_wp2_with fail
  refine (begun_to X w).mono ?_
  rintro e w1 ⟨rfl, hb⟩
  have HB := hid hb
  have HBB := hid hb.size
  replace HH := hid (HH.out.below hb)
  clear hb
  go_wp2_with fail
  refine (HSH.out w1).mono ?_
  rintro e w2 ⟨rfl, rfl⟩
  clear HSH
  go_wp2_with (first
    | (at_builtin; refine wpList_append_rd rfl (.const (.slice none 0 0)) (.tmp 17) 22 rfl 5 .u8 w1.heap.size 1 Try.underlying22 infoU8 _ [] rfl (Own.nil _ _ _ _) bo m cap b rfl HH.out (by simp; omega) (by simp; omega) (Nat.le_refl _) ?_; intro v w3 o3 b3 k3; clear k3; rw [List.nil_append] at o3; have HO := hid o3; have HB3 := hid b3; clear o3 b3)
    | fail)
  refine (X.new_to 2 w3 (by decide)).mono ?_
  rintro e w4 ⟨p, A, rfl, hA, hat, hb⟩
  have HA : Hid (∀ b, A b → w3.heap.size ≤ b) := hid hA
  have HT := hid hat
  have HVL := hid HO.out.lt
  replace HO := hid (HO.out.below hb (Nat.le_refl _))
  have HW1 := HB3.out.size
  replace HB := hid ((HB.out.trans (HB3.out.mono HB.out.size)).trans (hb.mono (Nat.le_trans HB.out.size HW1)))
  have HB4 := hid hb.size
  clear hA hat hb HB3
  obtain ⟨vo, vc, rfl, hrd⟩ := HO.out.rd
  have hbl : b.length = m := HH.out.len
  rw [hbl] at hrd HO HVL ⊢
  have HRD := hid hrd
  have HBL := hid hbl
  clear hrd hbl
  go_wp2_with fail
  refine (X.write_to A (Dv.new 2) p w4 0 vo m vc b HT.out (by decide) HRD.out (fun ad e h => by have h1 := (HVL.out ad.block (by rw [e]; rfl)).2; have h2 := HA.out _ h; omega) (by decide)).mono ?_
  rintro e w5 ⟨A2, rfl, hA2, hat, hw⟩
  have h43 := X.lt HT.out
  have HA2 : Hid (∀ b, A2 b → w3.heap.size ≤ b) := hid fun b hb => by
    rcases hA2 b hb with h | h
    · exact HA.out b h
    · have := HB4.out; omega
  replace HO := hid (HO.out.wrs hw fun b hb h => by have h1 := (HVL.out b hb).2; have h2 := HA.out b h; omega)
  replace HB := hid (HB.out.trans (hw.below (fun b hb => Nat.le_trans (Nat.le_trans HBB.out HW1) (HA.out b hb)) HB.out.size))
  replace HT := hid hat
  obtain ⟨e1, -, -, e4, -⟩ := Dv.write_live (M := Dv.new 2) (by decide) (i := 0) (by decide) (by decide) HBL.out hm8
  rw [e1]
  obtain ⟨M, hM⟩ : ∃ M, (Dv.new 2).write 0 b = M := ⟨_, rfl⟩
  rw [hM] at HT
  have HM := hid hM
  obtain ⟨vo', vc', hve, hrd⟩ := HO.out.rd
  obtain ⟨rfl, -, rfl⟩ : vo = vo' ∧ m = b.length ∧ vc = vc' := by injection hve with h1 h2 h3; exact ⟨h1, h2, h3⟩
  rw [HBL.out] at hrd
  replace HRD := hid hrd
  clear hA2 hat hw h43 e1 e4 hM hve hrd HA
  go_wp2_with fail
  obtain ⟨q, hq⟩ : ∃ q : Nat, (64 : Int) - m = q ∧ 64 - m = q := ⟨64 - m, by omega, rfl⟩
  obtain ⟨hq1, hq2⟩ := hq
  have hd : Below w5.heap.size w5 w5.drew := (Below.refl _ _).drew
  have hda : Below w5.heap.size w5 (w5.drew.alloc (.cells ((List.replicate q (0 : Int)).map (Value.int .u8)).toArray 5)) := Bl.alloc hd _
  have k1 := conv_str (P := Try.prog) (HRD.out.below hd) 22 9 5 Try.underlying22 Try.underlying5 Try.underlying9
  have k2 := conv_str (P := Try.prog) (HRD.out.below hda) 22 9 5 Try.underlying22 Try.underlying5 Try.underlying9
  have k3 := conv_str (P := Try.prog) (Rd.zeros w5.drew 5 q (by omega)) 22 9 5 Try.underlying22 Try.underlying5 Try.underlying9
  have hmk := make_u8 (P := Try.prog) 22 5 Try.underlying22 infoU8 q (by omega) w5.drew
  have HDA := hid hda
  obtain ⟨w6, hw6⟩ : ∃ w6, w5.drew.alloc (.cells ((List.replicate q (0 : Int)).map (Value.int .u8)).toArray 5) = w6 := ⟨_, rfl⟩
  rw [hw6] at k2 k3 hmk HDA
  rw [show w5.drew.heap.size = w5.heap.size from rfl] at k3 hmk
  have k4 : (Op.stringOp .add (strOfNums b) (strOfNums (List.replicate q (0 : Int)))).run Try.prog w6 = .ok (.string (strOfNums (b ++ List.replicate q (0 : Int)))) w6 := by
    rw [run_string_add_sum _ _ _ (by rw [str_size, str_size, List.length_replicate, HBL.out]; omega), str_cat]
  clear hd hda
  go_region
  clear k1 k2 k3 k4 hmk hw6
  have HBS := hid hq2
  replace HB := hid (HB.out.trans (HDA.out.mono HB.out.size))
  replace HO := hid (HO.out.below HDA.out (Nat.le_refl _))
  replace HT := hid (X.bel HT.out HDA.out)
  have HMF : Hid (M.read 0 = b ++ List.replicate q 0 ∧ M.looses = [0] ∧ M.readE 0 = 0) := hid (by
    rw [← HM.out, own_M b (by rw [HBL.out]; exact hm8)]
    exact ⟨own_read b q (by rw [HBL.out]; exact hq2), rfl, rfl⟩)
  have HSL : Hid ((b ++ List.replicate q 0).length = 64) := hid (by rw [List.length_append, List.length_replicate, HBL.out]; omega)
  obtain ⟨S, hS⟩ : ∃ S, b ++ List.replicate q (0 : Int) = S := ⟨_, rfl⟩
  rw [hS] at HMF HSL ⊢
  obtain ⟨st, hst⟩ : ∃ st, strOfNums S = st := ⟨_, rfl⟩
  rw [hst]
  have HST := hid hst
  have HAG : Hid (∀ b, (Value.slice vo m vc).ownBlock = some b → ¬ A2 b ∧ w.heap.size ≤ b) := hid fun b hb => ⟨fun h => by have h1 := (HVL.out b hb).2; have h2 := HA2.out b h; omega, Nat.le_trans HBB.out (HVL.out b hb).1⟩
  clear hS hst HDA HRD HM HBS hq1 hq2 HH
  go_wp2_with fail
  go_loopw [33] (fun i wr => ∃ (k : Nat) (c : List Int), k ≤ m ∧ i = .int .i64 k ∧ c.length = m ∧ Own 5 .u8 w1.heap.size wr (.slice vo m vc) c ∧ X.At A2 M p wr ∧ Below w.heap.size w wr) (fun i _ => m - (intOf i).toNat)
  case atStart => exact ⟨0, b, Nat.zero_le _, rfl, HBL.out, HO.out, HT.out, HB.out⟩
  case round =>
    clear HO HT HB
    obtain ⟨k, c, hk, rfl, hc, hO, hat, hB⟩ := hrel
    have HO := hid hO; have HT := hid hat; have HB := hid hB; have HC := hid hc
    clear hO hat hB hc
    by_cases hlt : k < m
    · obtain ⟨g, cap', hve, hg1, hg2, hg3⟩ := HO.out.form (by rw [HC.out]; omega)
      obtain ⟨rfl, -, rfl⟩ : vo = some ⟨g, 0, none⟩ ∧ m = c.length ∧ vc = cap' := by injection hve with h1 h2 h3; exact ⟨h1, h2, h3⟩
      clear hve
      obtain ⟨hcell, hfro, hz1, hglt, hz2⟩ := HO.out.cell k (by rw [HC.out]; exact hlt)
      obtain ⟨x, hx⟩ : ∃ x, c.getD k 0 = x := ⟨_, rfl⟩
      rw [hx] at hcell
      obtain ⟨z, hz⟩ : ∃ z, (x + 1) % 256 = z ∧ 0 ≤ z ∧ z ≤ 255 := ⟨_, rfl, by omega, by omega⟩
      obtain ⟨hz, hz3, hz4⟩ := hz
      have HZ : Hid ((Lit.int .u8 z).wf = true) := hid (WalkArith.wf_u8 ⟨hz3, hz4⟩)
      clear hx hz1 hz2 hz3 hz4
      go_wp2_with fail
      have HNG : Hid (¬ A2 g ∧ w.heap.size ≤ g) := hid (HAG.out g rfl)
      go_roundw
      case rel => exact ⟨k + 1, c.set k z, by omega, by go_num, by rw [List.length_set]; exact HC.out, HO.out.set k z HZ.out, X.keep HT.out (fun b hb => Below.heap_setCell wr _ _ b (fun e => HNG.out.1 (by have e2 : b = g := e; rw [← e2]; exact hb))), HB.out.setCell HNG.out.2 _⟩
      case measure => simp [intOf]; omega
    · obtain rfl : k = m := by omega
      clear hk hlt
      go_wp2_with fail
      refine (X.read_to A2 M p wr 0 HT.out (by decide)).mono ?_
      rintro e w7 ⟨v, rfl, hv, hb⟩
      rw [HMF.out.1] at hv
      rw [HMF.out.2.2]
      have HBX := hid (X.lt HT.out)
      replace HO := hid (HO.out.below hb (Nat.le_refl _))
      replace HT := hid (X.bel HT.out hb)
      have HBZ := hid HB.out.size
      replace HB := hid (Bl.step HB.out hb)
      obtain ⟨gx, cx, rfl, hgx, hgcx, hc63x⟩ := hv.form (by rw [HSL.out]; decide)
      rw [HSL.out] at hv hgcx ⊢
      have HGX : Hid (¬ A2 gx ∧ w.heap.size ≤ gx) := hid ⟨fun h => by have := HBX.out gx h; omega, Nat.le_trans HBZ.out hgx⟩
      have HX := hid hv
      obtain ⟨B7, hB7⟩ : ∃ B7, wr.heap.size = B7 := ⟨_, rfl⟩
      rw [hB7] at HX hgx
      clear hv hb HBX HBZ HO HAG HVL hB7
      obtain ⟨wo, rfl⟩ : ∃ wo : World, wo = wr := ⟨_, rfl⟩
      go_wp2_with fail
      go_loopw [50] (fun i wr => ∃ (k : Nat) (c : List Int), k ≤ 64 ∧ i = .int .i64 k ∧ c.length = 64 ∧ Own X.E .u8 B7 wr (.slice (some ⟨gx, 0, none⟩) 64 cx) c ∧ X.At A2 M p wr ∧ Below w.heap.size w wr) (fun i _ => 64 - (intOf i).toNat)
      case atStart => exact ⟨0, S, Nat.zero_le _, rfl, HSL.out, HX.out, HT.out, HB.out⟩
      case round =>
        clear HX HT HB
        obtain ⟨j, c2, hj, rfl, hc, hO, hat, hB⟩ := hrel
        have HX := hid hO; have HT := hid hat; have HB := hid hB; have HC2 := hid hc
        clear hO hat hB hc
        by_cases hlt : j < 64
        · obtain ⟨hcell, hfro, -, hglt, -⟩ := HX.out.cell j (by rw [HC2.out]; exact hlt)
          obtain ⟨x, hx⟩ : ∃ x, c2.getD j 0 = x := ⟨_, rfl⟩
          rw [hx] at hcell
          obtain ⟨z, hz⟩ : ∃ z, (x + 1) % 256 = z ∧ 0 ≤ z ∧ z ≤ 255 := ⟨_, rfl, by omega, by omega⟩
          obtain ⟨hz, hz3, hz4⟩ := hz
          have HZ : Hid ((Lit.int .u8 z).wf = true) := hid (WalkArith.wf_u8 ⟨hz3, hz4⟩)
          clear hx hz3 hz4
          go_wp2_with fail
          go_roundw
          case rel => exact ⟨j + 1, c2.set j z, by omega, by go_num, by rw [List.length_set]; exact HC2.out, HX.out.set j z HZ.out, X.keep HT.out (fun b hb => Below.heap_setCell wr _ _ b (fun e => HGX.out.1 (by have e2 : b = gx := e; rw [← e2]; exact hb))), HB.out.setCell HGX.out.2 _⟩
          case measure => simp [intOf]; omega
        · obtain rfl : j = 64 := by omega
          clear hj hlt HX HC2 hgx hgcx hc63x HGX
          go_wp2_with fail
          have hbl := (Bl.refl wr).alloc (Nat.le_refl _) (.cells #[.bool true] 4)
          refine (X.crash_to A2 M p _ _ 1 1 [true] (X.bel HT.out hbl) (RdB.built wr 4 true)).mono ?_
          rintro e w8 ⟨r, Ar, rfl, hAr, hr, hb⟩
          have HAR : Hid (∀ b, Ar b → ¬ A2 b ∧ w.heap.size ≤ b) := hid fun b hb => by
            have h1 := hAr b hb
            have h2 := hbl.size
            have h3 := HB.out.size
            exact ⟨fun hb' => by have := X.lt HT.out b hb'; omega, by omega⟩
          have HR := hid hr
          have hb' := Bl.step hbl hb
          replace HT := hid (X.bel HT.out hb'); replace HB := hid (Bl.step HB.out hb')
          clear hb hb' hbl hAr hr
          go_wp2_with fail
          have hbl := (Bl.refl w8).alloc (Nat.le_refl _) (.cells #[.int .u8 1, .int .u8 2, .int .u8 3] 5)
          have hrd := Rd.builtAll w8 .u8 5 (0, 0) [1, 2, 3] (by decide) (by decide)
          refine (X.write_to Ar (M.crash [true]) r _ 0 _ 3 3 [1, 2, 3] (X.bel HR.out hbl) (by decide) hrd (fun ad e h => by cases e; have := X.lt HR.out _ h; simp at this) (by show (0 : Nat) < 1000000000; decide)).mono ?_
          rintro e w9 ⟨A3, rfl, hA3, hat, hw⟩
          replace HT := hid (X.wrs (X.bel HT.out hbl) hw (fun b hb h => (HAR.out b h).1 hb))
          replace HB := hid ((Bl.step HB.out hbl).trans (hw.below (fun b hb => (HAR.out b hb).2) (Nat.le_trans HB.out.size hbl.size)))
          clear hA3 hat hw hbl hrd HR HAR
          go_wp2_with fail
          refine (X.read_to A2 M p w9 0 HT.out (by decide)).mono ?_
          rintro e wa ⟨v, rfl, hv, hb⟩
          rw [HMF.out.1] at hv
          rw [HMF.out.2.2]
          replace HT := hid (X.bel HT.out hb); replace HB := hid (Bl.step HB.out hb)
          obtain ⟨vo2, vc2, rfl, hrd⟩ := hv.rd
          rw [HSL.out] at hrd ⊢
          have hcv := conv_str (P := Try.prog) hrd 22 9 5 Try.underlying22 Try.underlying5 Try.underlying9
          rw [HST.out] at hcv
          clear hb hv hrd
          go_wp2_with fail
          refine (X.loose_to A2 M p wa HT.out).mono ?_
          rintro e wb ⟨v, rfl, hv, hb⟩
          rw [HMF.out.2.1] at hv
          obtain ⟨vo3, vc3, rfl, _⟩ := hv.rd
          rw [show ([0] : List Int).length = 1 from rfl]
          replace HB := hid (Bl.step HB.out hb)
          clear hb hv HT
          go_wp2_with fail
          go_ret
          exact ⟨rfl, HB.out⟩
end Go.Proofs.Ytinmkcbmnikpfaa
