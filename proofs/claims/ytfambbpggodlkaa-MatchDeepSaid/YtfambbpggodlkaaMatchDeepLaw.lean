/- MatchDeep: the walk. -/
import Derived.Test.YtfambbpggodlkaaCodeApp
namespace Go.Proofs.Ytfambbpggodlkaa
open Go.RowKit

theorem deep_last (ok : Bool) (a : Bool) (h : ok = a) : (ok == a) = true := by simp [h]

set_option maxRecDepth 100000 in
set_option maxHeartbeats 4000000 in
theorem matchDeep_walk (n pad : Int) (w : World) :
    Calls Try.prog 4 #[.int .i64 n, .int .i64 pad] w fun e w' => e = .returned (.bool true) ∧ Below w.heap.size w w' := by
  by_cases hin : 0 ≤ n ∧ n ≤ 60 ∧ 0 ≤ pad ∧ pad ≤ 320
  · obtain ⟨nn, rfl⟩ := Int.eq_ofNat_of_zero_le hin.1
    obtain ⟨pp, rfl⟩ := Int.eq_ofNat_of_zero_le hin.2.2.1
    have g1 : ¬ ((nn : Int) < 0) := by omega
    have g2 : ¬ ((60 : Int) < nn) := by omega
    have g3 : ¬ ((pp : Int) < 0) := by omega
    have g4 : ¬ ((320 : Int) < pp) := by omega
    have hn60 : nn ≤ 60 := by omega
    have hp320 : pp ≤ 320 := by omega
    clear hin
    go_enter Try.func4, Try.ntmps4
    go_wp2_with fail
    refine (begun6_to _).mono ?_
    rintro e w0 ⟨rfl, hb⟩
    have HB0 := hid hb
    clear hb
    go_wp2_with fail
    go_loopw [6, 7] (fun v i wr => ∃ k : Nat, k ≤ nn ∧ i = .int .i64 k ∧ OwnP w0.heap.size wr v ((begs k).map bare) ∧ Below w0.heap.size w0 wr) (fun _ i _ => nn - (intOf i).toNat)
    case atStart => exact ⟨0, Nat.zero_le _, rfl, OwnP.nil _ _, Below.refl _ _⟩
    case round =>
      obtain ⟨k, hk, rfl, ho, hb⟩ := hrel
      have HO := hid ho
      have HB := hid hb
      have hsz := hb.size
      clear ho hb
      by_cases hkn : k < nn
      · obtain ⟨op, hop⟩ : ∃ op, op = 2 + (k : Int) % 2 := ⟨_, rfl⟩
        have hop2 := hop.symm
        have HOP := hid hop
        clear hop
        go_wp2_with (first
          | (at_builtin; refine wpList_app_bare rfl (.tmp 34) (.tmp 39) rfl w0.heap.size _ _ rfl (HO.out.below (Bl.alloc (Bl.refl wr) _) (Nat.le_refl _)) op wr.heap.size rfl (World.news_of_block (heap_alloc_new wr _)) (by rw [List.length_map, begs_len]; omega) (by simp; omega) ?_; intro v2 w2 o2 b2; have HO2 := hid o2; have HB2 := hid b2; clear o2 b2)
          | fail)
        go_roundw
        case rel =>
          refine ⟨k + 1, by omega, by go_num, ?_, (Below.alloc HB.out hsz _).trans HB2.out⟩
          rw [begs, List.map_append, ← HOP.out]
          exact HO2.out
        case measure => simp [intOf]; omega
      · have hkk : k = nn := by omega
        subst hkk
        obtain ⟨W1, hW1⟩ : ∃ W1 : World, W1 = wr := ⟨_, rfl⟩
        subst hW1
        have hsz1 := hsz
        clear hsz
        go_wp2_with fail
        go_loopw [6, 8] (fun v i wr => ∃ j : Nat, j ≤ pp ∧ i = .int .i64 j ∧ OwnP w0.heap.size wr v ((begs k ++ List.replicate j 1).map bare) ∧ Below w0.heap.size w0 wr) (fun _ i _ => pp - (intOf i).toNat)
        case atStart => exact ⟨0, Nat.zero_le _, rfl, by simpa using HO.out, HB.out⟩
        case round =>
          obtain ⟨j, hj, rfl, ho, hb⟩ := hrel
          have HO1 := hid ho
          have HB1 := hid hb
          have hsz := hb.size
          clear ho hb
          by_cases hjn : j < pp
          · go_wp2_with (first
              | (at_builtin; refine wpList_app_bare rfl (.tmp 46) (.tmp 48) rfl w0.heap.size _ _ rfl (HO1.out.below (Bl.alloc (Bl.refl wr) _) (Nat.le_refl _)) 1 wr.heap.size rfl (World.news_of_block (heap_alloc_new wr _)) (by rw [List.length_map, List.length_append, begs_len, List.length_replicate]; omega) (by simp; omega) ?_; intro v2 w2 o2 b2; have HO2 := hid o2; have HB2 := hid b2; clear o2 b2)
              | fail)
            go_roundw
            case rel =>
              refine ⟨j + 1, by omega, by go_num, ?_, (Below.alloc HB1.out hsz _).trans HB2.out⟩
              rw [List.replicate_succ', ← List.append_assoc, List.map_append]
              exact HO2.out
            case measure => simp [intOf]; omega
          · have hjj : j = pp := by omega
            subst hjj
            obtain ⟨W2, hW2⟩ : ∃ W2 : World, W2 = wr := ⟨_, rfl⟩
            subst hW2
            clear hsz HO HB hsz1
            go_wp2_with fail
            go_loopw [6, 9] (fun v i wr => ∃ m : Nat, m ≤ k ∧ i = .int .i64 m ∧ OwnP w0.heap.size wr v ((begs k ++ List.replicate j 1 ++ List.replicate m 11).map bare) ∧ Below w0.heap.size w0 wr) (fun _ i _ => k - (intOf i).toNat)
            case atStart => exact ⟨0, Nat.zero_le _, rfl, by simpa using HO1.out, HB1.out⟩
            case round =>
              obtain ⟨m, hm, rfl, ho, hb⟩ := hrel
              have HO2 := hid ho
              have HB2 := hid hb
              have hsz := hb.size
              clear ho hb
              by_cases hmn : m < k
              · go_wp2_with (first
                  | (at_builtin; refine wpList_app_bare rfl (.tmp 55) (.tmp 57) rfl w0.heap.size _ _ rfl (HO2.out.below (Bl.alloc (Bl.refl wr) _) (Nat.le_refl _)) 11 wr.heap.size rfl (World.news_of_block (heap_alloc_new wr _)) (by rw [List.length_map, List.length_append, List.length_append, begs_len, List.length_replicate, List.length_replicate]; omega) (by simp; omega) ?_; intro v3 w3 o3 b3; have HO3 := hid o3; have HB3 := hid b3; clear o3 b3)
                  | fail)
                go_roundw
                case rel =>
                  refine ⟨m + 1, by omega, by go_num, ?_, (Below.alloc HB2.out hsz _).trans HB3.out⟩
                  rw [List.replicate_succ', ← List.append_assoc, List.map_append]
                  exact HO3.out
                case measure => simp [intOf]; omega
              · have hmm : m = k := by omega
                subst hmm
                obtain ⟨xo, xc, rfl, hrx⟩ := HO2.out.rd (bare_ok _)
                obtain ⟨xn, hxn⟩ : ∃ xn, xn = ((begs m ++ List.replicate j 1 ++ List.replicate m 11).map bare).length := ⟨_, rfl⟩
                rw [← hxn] at hrx ⊢
                have HRX := hid hrx
                clear hrx hxn HO1 HB1 HO2
                go_wp2_with fail
                refine (match_to _ xo xn xc _ wr HRX.out).mono ?_
                rintro e w5 ⟨v5, rfl, hv, hb⟩
                have hfb : fits (opsI ((begs m ++ List.replicate j 1 ++ List.replicate m 11).map bare)) = fits (deepL m j) := by rw [opsI_bare]; rfl
                rw [hfb] at hv ⊢
                obtain ⟨bo, bc, rfl, _, _, _⟩ := hv.shape
                have HB5 := hid (Bl.step HB2.out hb)
                clear hv hb hfb HRX
                by_cases hyes : m ≤ 40 ∧ 2 * m + j ≤ 300
                · obtain ⟨bl, h1, h2⟩ := deep_yes hyes.1 hyes.2
                  rw [h1]
                  simp only [Option.isSome_some, Option.getD_some, List.length_map, h2]
                  have y1 : (m : Int) ≤ 40 := by omega
                  have y2 : 2 * (m : Int) + j ≤ 300 := by omega
                  clear h1 h2 hyes
                  go_wp2_with fail
                  go_ret
                  exact ⟨rfl, Bl.step HB0.out HB5.out⟩
                · have h1 := deep_no (n := m) (pad := j) (by omega)
                  rw [h1]
                  simp only [Option.isSome_none, Option.getD_none, List.map_nil, List.length_nil]
                  have hc : ¬ ((m : Int) ≤ 40) ∨ ((m : Int) ≤ 40 ∧ ¬ (2 * (m : Int) + j ≤ 300)) := by omega
                  clear h1 hyes
                  rcases hc with y1 | ⟨y1, y2⟩
                  all_goals
                    go_wp2_with fail
                    go_ret
                    exact ⟨rfl, Bl.step HB0.out HB5.out⟩
  · have hc : (n < 0) ∨ (¬ n < 0 ∧ 60 < n) ∨ (¬ n < 0 ∧ ¬ 60 < n ∧ pad < 0) ∨ (¬ n < 0 ∧ ¬ 60 < n ∧ ¬ pad < 0 ∧ 320 < pad) := by omega
    clear hin
    rcases hc with h1 | ⟨h1, h2⟩ | ⟨h1, h2, h3⟩ | ⟨h1, h2, h3, h4⟩
    all_goals
      go_enter Try.func4, Try.ntmps4
      go_wp2_with fail
      refine (begun6_to _).mono ?_
      rintro e w0 ⟨rfl, hb⟩
      have HB0 := hid hb
      clear hb
      go_wp2_with fail
      go_ret
      exact ⟨rfl, HB0.out⟩
end Go.Proofs.Ytfambbpggodlkaa
