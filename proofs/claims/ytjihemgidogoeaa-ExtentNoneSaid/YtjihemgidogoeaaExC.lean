/- extent's laws: ExtentCopy; over ExtSpec. -/
import Derived.Test.YtjihemgidogoeaaExL
namespace Go.Proofs.Ytjihemgidogoeaa
open Go.RowKit
set_option linter.unusedVariables false

theorem copy_all : ∀ a b : Fin 20, ((Rm.new 0 40).take (a.val + 1)).takeV (b.val + 1) = ((a.val : Int) + 1, (b.val : Int) + 1, true) ∧ ((((Rm.new 0 40).take (a.val + 1)).take (b.val + 1)).free : Int) = 40 - ((a.val : Int) + 1) - ((b.val : Int) + 1) ∧
    (((((Rm.new 0 40).take (a.val + 1)).take (b.val + 1)).use (a.val + 1) (b.val + 1) false).free : Int) = 40 - ((a.val : Int) + 1) := by decide +kernel
theorem copy_facts (a b : Int) (ha : 1 ≤ a ∧ a ≤ 20) (hb : 1 ≤ b ∧ b ≤ 20) : ((Rm.new 0 40).take a).takeV b = (a, b, true) ∧ ((((Rm.new 0 40).take a).take b).free : Int) = 40 - a - b ∧ (((((Rm.new 0 40).take a).take b).use a b false).free : Int) = 40 - a := by
  have := copy_all ⟨(a - 1).toNat, by omega⟩ ⟨(b - 1).toNat, by omega⟩
  simp only at this
  rw [show (((a - 1).toNat : Nat) : Int) + 1 = a by omega, show (((b - 1).toNat : Nat) : Int) + 1 = b by omega] at this
  exact this
set_option maxRecDepth 100000 in
set_option maxHeartbeats 4000000 in
theorem extentCopy_walk (X : ExtSpec) (a b : Int) (w : World) (ha : (Lit.int .i64 a).wf = true) (hb : (Lit.int .i64 b).wf = true) : Calls Try.prog 5 #[.int .i64 a, .int .i64 b] w fun e w' => e = .returned (.bool true) ∧ Below w.heap.size w w' := by
  have HWA := hid ha; have HWB := hid hb
  clear ha hb
  go_enter Try.func5, Try.ntmps5
  go_wp2_with fail
  refine (begun_to X w).mono ?_
  rintro e w1 ⟨rfl, hb⟩
  have HB := hid hb
  clear hb
  by_cases hr : a < 1 ∨ 20 < a ∨ b < 1 ∨ 20 < b
  · rcases hr with h | h | h | h
    all_goals
      go_wp2_with fail
      all_goals
        go_ret
        exact ⟨rfl, HB.out⟩
  · obtain ⟨f1, f2, f3⟩ := copy_facts a b (by omega) (by omega)
    have h1 : ¬ a < 1 := by omega
    have h2 : ¬ 20 < a := by omega
    have h3 : ¬ b < 1 := by omega
    have h4 : ¬ 20 < b := by omega
    have HF := hid (And.intro f1 (And.intro f2 f3))
    clear hr f1 f2 f3
    go_wp2_with fail
    refine (X.new_to 0 40 w1 (by decide) (by decide) (by decide)).mono ?_
    rintro e w2 ⟨p, A, rfl, hA, hat, hb⟩
    have HA : Hid (∀ b, A b → w.heap.size ≤ b) := hid fun b hb => Nat.le_trans HB.out.size (hA b hb)
    have HT := hid hat
    replace HB := hid (Bl.step HB.out hb)
    clear hA hat hb
    go_wp2_with fail
    refine (X.take_to A _ p w2 a HT.out HWA.out).mono ?_
    rintro e w3 ⟨A1, rfl, hA1, hat, hw⟩
    have HA1 : Hid (∀ b, A1 b → w.heap.size ≤ b) := hid fun b hb => by rcases hA1 b hb with h | h; exact HA.out b h; have := HB.out.size; omega
    replace HB := hid (HB.out.trans (hw.below HA.out HB.out.size))
    obtain ⟨M, hM⟩ : ∃ M, (Rm.new 0 40).take a = M := ⟨_, rfl⟩
    rw [hM] at hat HF
    obtain ⟨v1, hv1⟩ : ∃ v, (Rm.new 0 40).takeV a = v := ⟨_, rfl⟩
    rw [hv1]
    replace HT := hid hat
    clear hA1 hat hw HA hM hv1
    go_wp2_with fail
    refine (X.copy_to A1 M p w3 HT.out).mono ?_
    rintro e w4 ⟨q, C, rfl, hC, hq, hb⟩
    have HCA : Hid (∀ b, C b → ¬ A1 b) := hid fun b hb h => by have := hC b hb; have := X.lt HT.out b h; omega
    have HC : Hid (∀ b, C b → w.heap.size ≤ b) := hid fun b hb => Nat.le_trans HB.out.size (hC b hb)
    have HQ := hid hq
    replace HT := hid (X.bel HT.out hb)
    replace HB := hid (Bl.step HB.out hb)
    clear hC hq hb
    go_wp2_with fail
    refine (X.take_to C M q w4 b HQ.out HWB.out).mono ?_
    rintro e w5 ⟨C1, rfl, hC1, hat, hw⟩
    have HC1 : Hid (∀ b, C1 b → w.heap.size ≤ b) := hid fun b hb => by rcases hC1 b hb with h | h; exact HC.out b h; have := HB.out.size; omega
    have HCA1 : Hid (∀ b, C1 b → ¬ A1 b) := hid fun b hb h => by rcases hC1 b hb with h' | h'; exact HCA.out b h' h; have := X.lt HT.out b h; omega
    rw [HF.out.1]
    replace HT := hid (X.wrs HT.out hw fun b h h' => HCA.out b h' h)
    replace HB := hid (HB.out.trans (hw.below HC.out HB.out.size))
    replace HQ := hid hat
    clear hC1 hat hw HC HCA
    go_wp2_with fail
    obtain ⟨g, hg⟩ : ∃ g, w5.heap.size = g := ⟨_, rfl⟩
    obtain ⟨w6, hw6⟩ : ∃ w6, w5.alloc (.cells #[.int .i64 a, .int .i64 b] 30) = w6 := ⟨_, rfl⟩
    have hbl : Below w5.heap.size w5 w6 := by rw [← hw6]; exact Bl.alloc (Bl.refl _) _
    have HP1 : Hid (Pair w6 g (.int .i64 a) (.int .i64 b)) := hid (by rw [← hw6]; exact Pair.new w5 _ _ _ hg.symm)
    have HGA : Hid (∀ b, A1 b ∨ C1 b → g ≠ b) := hid fun b hb => by rcases hb with h | h; have := X.lt HT.out b h; omega; have := X.lt HQ.out b h; omega
    replace HT := hid (X.bel HT.out hbl); replace HQ := hid (X.bel HQ.out hbl); replace HB := hid (Bl.step HB.out hbl)
    rw [hw6, hg]
    clear hbl hw6 hg
    refine (X.take_to A1 M p w6 b HT.out HWB.out).mono ?_
    rintro e w7 ⟨A2, rfl, hA2, hat, hw⟩
    have HCA2 : Hid (∀ b, A2 b → ¬ C1 b) := hid fun b hb h => by rcases hA2 b hb with h' | h'; exact HCA1.out b h h'; have := X.lt HQ.out b h; omega
    rw [HF.out.1]
    replace HQ := hid (X.wrs HQ.out hw HCA1.out)
    replace HB := hid (HB.out.trans (hw.below HA1.out HB.out.size))
    replace HP1 := hid (HP1.out.stay (hw.block g HP1.out.lt fun h => HGA.out g (.inl h) rfl))
    replace HT := hid hat
    clear hA2 hat hw HA1 HCA1
    have hp1 := HP1.out.below (Bl.alloc (Bl.refl w7) (.cells #[.int .i64 a, .int .i64 b] 30))
    have a0 := hp1.c0
    have a1 := hp1.c1
    clear hp1
    go_wp2_with fail
    obtain ⟨g2, hg2⟩ : ∃ g2, w7.heap.size = g2 := ⟨_, rfl⟩
    obtain ⟨w8, hw8⟩ : ∃ w8, w7.alloc (.cells #[.int .i64 a, .int .i64 b] 30) = w8 := ⟨_, rfl⟩
    have hbl : Below w7.heap.size w7 w8 := by rw [← hw8]; exact Bl.alloc (Bl.refl _) _
    have HP2 : Hid (Pair w8 g2 (.int .i64 a) (.int .i64 b)) := hid (by rw [← hw8]; exact Pair.new w7 _ _ _ hg2.symm)
    have HGA2 : Hid (∀ b, C1 b → g2 ≠ b) := hid fun b hb => by have := X.lt HQ.out b hb; omega
    replace HP1 := hid (HP1.out.below hbl)
    replace HT := hid (X.bel HT.out hbl); replace HQ := hid (X.bel HQ.out hbl); replace HB := hid (Bl.step HB.out hbl)
    rw [hw8, hg2]
    clear hbl hw8 hg2 a0 a1
    refine (X.give_to C1 (M.take b) q w8 a b HQ.out HWA.out HWB.out).mono ?_
    rintro e w9 ⟨C2, rfl, hC2, hat, hw⟩
    obtain ⟨v2, hv2⟩ : ∃ v, (M.take b).all a b false = v := ⟨_, rfl⟩
    rw [hv2]
    replace HT := hid (X.wrs HT.out hw HCA2.out)
    replace HB := hid (HB.out.trans (hw.below HC1.out HB.out.size))
    replace HP1 := hid (HP1.out.stay (hw.block g HP1.out.lt fun h => HGA.out g (.inr h) rfl))
    replace HP2 := hid (HP2.out.stay (hw.block g2 HP2.out.lt fun h => HGA2.out g2 h rfl))
    replace HQ := hid hat
    clear hC2 hat hw HC1 HCA2 HGA HGA2 hv2
    have a0 := HP1.out.c0
    have a1 := HP2.out.c0
    go_wp2_with fail
    clear a0 a1 HP1 HP2
    refine (X.free_to A2 _ p w9 HT.out).mono ?_
    rintro e wa ⟨rfl, hb⟩
    rw [HF.out.2.1]
    replace HQ := hid (X.bel HQ.out hb); replace HB := hid (Bl.step HB.out hb)
    clear hb HT
    go_wp2_with fail
    refine (X.free_to C2 _ q wa HQ.out).mono ?_
    rintro e wb ⟨rfl, hb⟩
    rw [HF.out.2.2]
    replace HB := hid (Bl.step HB.out hb)
    clear hb HQ
    go_wp2_with fail
    go_ret
    exact ⟨rfl, HB.out⟩
end Go.Proofs.Ytjihemgidogoeaa
