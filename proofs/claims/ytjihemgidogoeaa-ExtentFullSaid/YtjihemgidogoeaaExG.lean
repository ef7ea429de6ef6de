/- extent's laws: ExtentFirst; over ExtSpec. -/
import Derived.Test.YtjihemgidogoeaaExL
import Derived.Test.YtjihemgidogoeaaExN
namespace Go.Proofs.Ytjihemgidogoeaa
open Go.RowKit
set_option linter.unusedVariables false

set_option maxRecDepth 100000 in
set_option maxHeartbeats 4000000 in
theorem extentFirst_walk (X : ExtSpec) (ao : Option Addr) (l cap : Nat) (xs : List Int) (n : Int) (w : World) (hx : Rd .i64 w ao l cap xs) (hn : (Lit.int .i64 n).wf = true) : Calls Try.prog 7 #[.slice ao l cap, .int .i64 n] w fun e w' => e = .returned (.bool true) ∧ Below w.heap.size w w' := by
  have HX := hid hx; have HWN := hid hn
  have hnc := hx.cap63
  have hnl := hx.le
  clear hx hn
  go_enter Try.func7, Try.ntmps7
  go_wp2_with fail
  refine (begun_to X w).mono ?_
  rintro e w1 ⟨rfl, hb⟩
  have HB := hid hb
  clear hb
  by_cases hr : n < 1 ∨ 20 < n
  · rcases hr with h | h
    all_goals
      go_wp2_with fail
      all_goals
        go_ret
        exact ⟨rfl, HB.out⟩
  · obtain ⟨m, rfl⟩ : ∃ m : Nat, n = m := ⟨n.toNat, by omega⟩
    have h1 : ¬ (m : Int) < 1 := by omega
    have h2 : ¬ 20 < (m : Int) := by omega
    clear hr
    go_wp2_with fail
    refine (ExtSpec.L.make X HB.out (by decide) (by decide) (by decide)).mono ?_
    rintro e w2 ⟨p, rfl, hL, -⟩
    have HL := hid (hL.sub (G' := fun _ => False) (fun b h => h.elim))
    clear hL HB
    go_wp2_with fail
    go_loopw [7, 8, 9] (fun at' want i wr => ∃ (k q : Nat) (v : Int) (M : Rm), k ≤ l ∧ k ≤ 12 ∧ q ≤ 21 * k ∧ i = .int .i64 k ∧ at' = .int .i64 q ∧ want = .int .i64 v ∧ FirstM M q ∧ WantM M m q v ∧ X.L w (fun _ => False) M p wr) (fun _ _ i _ => l - (intOf i).toNat)
    case atStart => exact ⟨0, 0, -1, _, Nat.zero_le _, by omega, by omega, rfl, rfl, rfl, FirstM.new, .inl ⟨rfl, fun a ha => by omega⟩, HL.out⟩
    case round =>
      clear HL
      obtain ⟨k, q, v, M, hk, hk12, hq, rfl, rfl, rfl, hf, hw, hL⟩ := hrel
      have HL := hid hL; have HF := hid hf; have HV := hid hw
      clear hL hf hw
      by_cases hlt : k < l ∧ k < 12
      · obtain ⟨hlt, h12⟩ := hlt
        obtain ⟨bx, ox, rfl, hcx⟩ := HX.out.at (by omega)
        have hc := (HL.out.b.cell (World.block_lt_of_cell? _ _ (hcx k hlt))).trans (hcx k hlt)
        obtain ⟨x, hx⟩ : ∃ x, xs.getD k 0 = x := ⟨_, rfl⟩
        rw [hx] at hc
        clear hx hcx
        obtain ⟨i4, hi4, hi5⟩ := rem20 x
        obtain ⟨t, ht⟩ : ∃ t, x.tmod 20 = t ∧ -20 < t ∧ t < 20 := ⟨_, rfl, Int.lt_tmod_of_pos _ (by decide), Int.tmod_lt_of_pos _ (by decide)⟩
        obtain ⟨ht, ht1, ht2⟩ := ht
        rw [ht] at hi5
        obtain ⟨kk, hkk⟩ : ∃ kk : Nat, 1 + (i4 : Int) = kk ∧ kk ≤ 20 := ⟨i4 + 1, by omega, by omega⟩
        obtain ⟨hkk, hk20⟩ := hkk
        have hqk : q + kk < 400 := by omega
        obtain ⟨u, hu⟩ : ∃ u : Nat, (q : Int) + kk = u := ⟨q + kk, by omega⟩
        have hall := HF.out.all hqk
        have hst := HF.out.step hqk
        rw [hu] at hall hst
        have HST := hid hst
        clear hst
        have hcase : (∃ v', v = -1 ∧ (m : Int) ≤ kk ∧ v' = (q : Int) ∧ WantM (M.use (u : Int) 1 true) m (q + kk + 1) v') ∨ (v = -1 ∧ ¬ (m : Int) ≤ kk ∧ WantM (M.use (u : Int) 1 true) m (q + kk + 1) (-1)) ∨ (0 ≤ v ∧ WantM (M.use (u : Int) 1 true) m (q + kk + 1) v) := by
          rw [← hu]
          rcases HV.out with ⟨rfl, hg⟩ | ⟨v, rfl, g1, g2, g3⟩
          · by_cases hmk : m ≤ kk
            · exact .inl ⟨q, rfl, by omega, rfl, WantM.found HF.out hg hqk hmk⟩
            · exact .inr (.inl ⟨rfl, by omega, WantM.short HF.out hg hqk (by omega)⟩)
          · exact .inr (.inr ⟨by omega, WantM.stay HF.out g1 g2 g3 hqk⟩)
        clear HV HF
        rcases hcase with ⟨v', rfl, hmk, rfl, hg⟩ | ⟨rfl, hmk, hg⟩ | ⟨hv, hg⟩
        · go_wp2_with fail
          refine (HL.out.use (WalkArith.wf_i64 ⟨by omega, by omega⟩) (by decide)).mono ?_
          rintro e w3 ⟨rfl, hL, -⟩
          rw [hall]
          replace HL := hid hL
          clear hL hall hc hi5 ht ht1 ht2
          go_wp2_with fail
          go_roundw
          case rel => exact ⟨k + 1, q + kk + 1, (q : Int), _, by omega, by omega, by omega, by go_num, by go_num, rfl, HST.out, hg, HL.out⟩
          case measure => simp [intOf]; omega
          
        · go_wp2_with fail
          refine (HL.out.use (WalkArith.wf_i64 ⟨by omega, by omega⟩) (by decide)).mono ?_
          rintro e w3 ⟨rfl, hL, -⟩
          rw [hall]
          replace HL := hid hL
          clear hL hall hc hi5 ht ht1 ht2
          go_wp2_with fail
          go_roundw
          case rel => exact ⟨k + 1, q + kk + 1, (-1), _, by omega, by omega, by omega, by go_num, by go_num, rfl, HST.out, hg, HL.out⟩
          case measure => simp [intOf]; omega
          
        · go_wp2_with fail
          refine (HL.out.use (WalkArith.wf_i64 ⟨by omega, by omega⟩) (by decide)).mono ?_
          rintro e w3 ⟨rfl, hL, -⟩
          rw [hall]
          replace HL := hid hL
          clear hL hall hc hi5 ht ht1 ht2
          go_wp2_with fail
          go_roundw
          case rel => exact ⟨k + 1, q + kk + 1, v, _, by omega, by omega, by omega, by go_num, by go_num, rfl, HST.out, hg, HL.out⟩
          case measure => simp [intOf]; omega
          
      · have hex : ¬ k < l ∨ k < l ∧ ¬ (k : Int) < 12 := by omega
        have hend : ∃ v' : Nat, (v < 0 ∧ (v' : Int) = q ∨ ¬ v < 0 ∧ (v' : Int) = v) ∧ M.takeV m = ((v' : Int), (m : Int), true) := by
          rcases HV.out with ⟨rfl, hg⟩ | ⟨v, rfl, g1, g2, g3⟩
          · exact ⟨q, .inl ⟨by decide, rfl⟩, first_take HF.out.lo HF.out.len (by omega) (by omega) (fun i h1 h2 => HF.out.rest i h1 (by omega)) hg⟩
          · exact ⟨v, .inr ⟨by omega, rfl⟩, first_take HF.out.lo HF.out.len (by omega) (by omega) g2 g3⟩
        clear HV HF hlt
        obtain ⟨v', hend, htv⟩ := hend
        rcases hex with h | ⟨h, h'⟩
        all_goals
          rcases hend with ⟨hv, hvq⟩ | ⟨hv, hvq⟩
          all_goals
            go_wp2_with fail
            all_goals
              refine (HL.out.take HWN.out).mono ?_
              rintro e w3 ⟨rfl, hL, -⟩
              rw [htv]
              replace HL := hid hL
              clear hL
              go_wp2_with fail
              go_ret
              refine ⟨?_, Bl.alloc HL.out.b _⟩
              try simp
              try omega
end Go.Proofs.Ytjihemgidogoeaa
