/- extent's laws: ExtentFull; over ExtSpec. -/
import Derived.Test.YtjihemgidogoeaaExL
import Derived.Test.YtjihemgidogoeaaExN
namespace Go.Proofs.Ytjihemgidogoeaa
open Go.RowKit
set_option linter.unusedVariables false

set_option maxRecDepth 100000 in
set_option maxHeartbeats 4000000 in
theorem extentFull_walk (X : ExtSpec) (a n : Int) (w : World) (ha : (Lit.int .i64 a).wf = true) (hn : (Lit.int .i64 n).wf = true) : Calls Try.prog 8 #[.int .i64 a, .int .i64 n] w fun e w' => e = .returned (.bool true) ∧ Below w.heap.size w w' := by
  have HWA := hid ha; have HWN := hid hn
  clear ha hn
  go_enter Try.func8, Try.ntmps8
  go_wp2_with fail
  refine (begun_to X w).mono ?_
  rintro e w1 ⟨rfl, hb⟩
  have HB := hid hb
  clear hb
  by_cases hr : a < 0 ∨ 100 < a ∨ n < 0 ∨ 100 < n
  · rcases hr with h | h | h | h
    all_goals
      go_wp2_with fail
      all_goals
        go_ret
        exact ⟨rfl, HB.out⟩
  · obtain ⟨lo, rfl⟩ : ∃ lo : Nat, a = lo := ⟨a.toNat, by omega⟩
    obtain ⟨m, rfl⟩ : ∃ m : Nat, n = m := ⟨n.toNat, by omega⟩
    have h1 : ¬ 100 < (lo : Int) := by omega
    have h2 : ¬ 100 < (m : Int) := by omega
    clear hr
    go_wp2_with fail
    refine (ExtSpec.L.make X HB.out HWA.out HWN.out (by omega)).mono ?_
    rintro e w2 ⟨p, rfl, hL, -⟩
    have HL := hid (hL.sub (G' := fun _ => False) (fun b h => h.elim))
    have HF := hid (FullM.new lo m (by omega))
    clear hL HB HWA HWN
    go_wp2_with fail
    go_loopw [7] (fun i wr => ∃ (k : Nat) (M : Rm), k ≤ m ∧ i = .int .i64 k ∧ FullM M lo m k ∧ X.L w (fun _ => False) M p wr) (fun i _ => m - (intOf i).toNat)
    case atStart => exact ⟨0, _, Nat.zero_le _, rfl, HF.out, HL.out⟩
    case round =>
      clear HL HF
      obtain ⟨k, M, hk, rfl, hf, hL⟩ := hrel
      have HL := hid hL; have HF := hid hf
      clear hL hf
      by_cases hlt : k < m
      · have hv : M.takeV 1 = ((lo : Int) + k, 1, true) := by
          unfold Rm.takeV
          rw [HF.out.takeAt hlt]
          simp [HF.out.lo]
        have hM : M.take 1 = M.use (M.lo + k) 1 true := by
          unfold Rm.take
          rw [HF.out.takeAt hlt]
        have hs := HF.out.step hlt
        have hfr := hs.free (by omega)
        rw [← hM] at hs hfr
        have hfi : ((M.take 1).free : Int) = (m : Int) - k - 1 := by rw [hfr]; omega
        have HS := hid hs; have HFI := hid hfi
        clear hM hs hfr hfi
        go_wp2_with fail
        refine (HL.out.take (by decide)).mono ?_
        rintro e w3 ⟨rfl, hL, -⟩
        rw [hv]
        replace HL := hid hL
        clear hv hL
        go_wp2_with fail
        replace HL := hid (HL.out.bel (Bl.alloc (Bl.refl _) (.cells #[.int .i64 ((lo : Int) + k), .int .i64 1] 30)))
        refine HL.out.free.mono ?_
        rintro e w4 ⟨rfl, hL, -⟩
        rw [HFI.out]
        replace HL := hid hL
        clear hL HFI
        go_wp2_with fail
        go_roundw
        case rel => exact ⟨k + 1, _, by omega, by go_num, HS.out, HL.out⟩
        case measure => simp [intOf]; omega
      · obtain rfl : k = m := by omega
        have hv : M.takeV 1 = (0, 0, false) := by
          unfold Rm.takeV
          rw [HF.out.none]
        have hM : M.take 1 = M := by
          unfold Rm.take
          rw [HF.out.none]
        clear hk hlt
        go_wp2_with fail
        refine (HL.out.take (by decide)).mono ?_
        rintro e w3 ⟨rfl, hL, -⟩
        rw [hv]
        rw [hM] at hL
        replace HL := hid hL
        clear hv hL hM
        go_wp2_with fail
        replace HL := hid (HL.out.bel (Bl.alloc (Bl.refl _) (.cells #[.int .i64 0, .int .i64 0] 30)))
        refine HL.out.spans.mono ?_
        rintro e w4 ⟨ao, n, cap, rfl, hq, hL, -⟩
        rw [HF.out.spans] at hq
        obtain rfl : n = 0 := hq.len.symm
        replace HL := hid hL
        clear hq hL
        go_wp2_with fail
        go_ret
        exact ⟨rfl, HL.out.b⟩
end Go.Proofs.Ytjihemgidogoeaa
