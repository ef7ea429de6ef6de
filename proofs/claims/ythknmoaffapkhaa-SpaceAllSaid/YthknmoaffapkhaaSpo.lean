/- space's laws: SpaceOver. -/
import Derived.Test.YthknmoaffapkhaaSpl
import Derived.Deep.CutBlock
namespace Go.Proofs.Ythknmoaffapkhaa
open Go.RowKit Go.Maps
set_option linter.unusedVariables false

/-- The number of a function out of any number. -/
def nrm (x : Int) : Int := (x.tmod 1000 + 1000).tmod 1000
theorem nrm_in (x : Int) : 0 ≤ nrm x ∧ nrm x ≤ 999 := by
  have h1 := Int.lt_tmod_of_pos x (show (0 : Int) < 1000 by decide)
  have h2 := Int.tmod_lt_of_pos x (show (0 : Int) < 1000 by decide)
  unfold nrm
  rw [Int.tmod_eq_emod_of_nonneg (by omega)]
  omega
/-- So many of -1, the rest nought. -/
def fillI (n k : Nat) : List Int := List.replicate k (-1) ++ List.replicate (n - k) 0
theorem fillI_len (n k : Nat) (h : k ≤ n) : (fillI n k).length = n := by simp [fillI]; omega
theorem fillI_set (n k : Nat) (h : k < n) : (fillI n k).set k (-1) = fillI n (k + 1) := by
  unfold fillI
  rw [List.set_append_right _ _ (by simp), List.length_replicate, Nat.sub_self, List.replicate_succ', List.append_assoc]
  congr 1
  rw [show n - k = (n - (k + 1)) + 1 by omega, List.replicate_succ]
  rfl
theorem fillI_all (n : Nat) : fillI n n = List.replicate n (-1) := by simp [fillI]
theorem fillI_wf (n k : Nat) : ∀ x ∈ fillI n k, (Lit.int .i64 x).wf = true := by
  intro x hx
  rcases List.mem_append.1 hx with h | h
  · rw [(List.mem_replicate.1 h).2]; decide
  · rw [(List.mem_replicate.1 h).2]; decide
theorem layT_one (T : List Int) (off : Nat) (fs : List Int) (x : Int) (h : off + fs.length < T.length) : (layT T off fs).set (off + fs.length) x = layT T off (fs ++ [x]) := by
  have := layT_snoc T off fs.length (fs ++ [x]) (by simp) (by simp; omega)
  rw [List.take_left' rfl, List.take_of_length_le (by simp)] at this
  rw [← this]
  simp [List.getD]
/-- 'make([]int, n)' as a row of the call's own. -/
theorem own_made {w w1 : World} {n : Nat} (h : w1.ownsRow w.heap.size 3 1 (.slice (some ⟨w.heap.size, 0, none⟩) n n) n (madeCells (Value.int .i64 0).cells (n * 1)).toList) : Own 3 .i64 w.heap.size w1 (.slice (some ⟨w.heap.size, 0, none⟩) n n) (fillI n 0) := by
  have e : (madeCells (Value.int .i64 0).cells (n * 1)).toList = (fillI n 0).map (Value.int .i64) := by
    simp [madeCells, Value.cells, Nat.mod_one, fillI, List.map_const']
  have hl := fillI_len n 0 (Nat.zero_le _)
  refine ⟨?_, fillI_wf n 0⟩
  rw [hl, ← e]
  exact h
/-- The numbers of functions out of the first k. -/
def nrms (zs : List Int) (k : Nat) : List Int := (zs.take k).map nrm
theorem nrms_len (zs : List Int) (k : Nat) (h : k ≤ zs.length) : (nrms zs k).length = k := by simp [nrms]; omega
theorem nrms_snoc (zs : List Int) (k : Nat) (h : k < zs.length) : nrms zs k ++ [nrm (zs.getD k 0)] = nrms zs (k + 1) := by
  unfold nrms
  rw [List.take_succ_eq_append_getElem h, List.map_append]
  simp [List.getD, h]
theorem nrms_in (zs : List Int) (k : Nat) : ∀ f ∈ nrms zs k, 0 ≤ f ∧ f ≤ 999 := by
  intro f hf
  obtain ⟨x, _, rfl⟩ := List.mem_map.1 hf
  exact nrm_in x

theorem Own.low {E : TypeId} {k : IntKind} {base B g n c : Nat} {w w' : World} {xs : List Int} (h : Own E k base w (.slice (some ⟨g, 0, none⟩) n c) xs) (hb : Below B w w') (hg : g < B) : Own E k base w' (.slice (some ⟨g, 0, none⟩) n c) xs := by
  refine ⟨⟨h.row.1, ?_⟩, h.wf⟩
  rcases h.row.2 with ⟨h', _⟩ | ⟨g', cap, cur, hv, hb', hh, rest⟩
  · simp at h'
  · have e : g = g' := by simp at hv; exact hv.1
    subst e
    exact .inr ⟨g, cap, cur, hv, hb', (hb.block g hg).trans hh, rest⟩
theorem Own.low' {E : TypeId} {k : IntKind} {base B : Nat} {w w' : World} {v : Value} {xs : List Int} (h : Own E k base w v xs) (hb : Below B w w') (hg : ∀ q, v.ownBlock = some q → q < B) : Own E k base w' v xs := by
  refine ⟨⟨h.row.1, ?_⟩, h.wf⟩
  rcases h.row.2 with h' | ⟨g', cap, cur, hv, hb', hh, rest⟩
  · exact .inl h'
  · exact .inr ⟨g', cap, cur, hv, hb', (hb.block g' (hg g' (by rw [hv]; rfl))).trans hh, rest⟩
theorem layT_mem {T : List Int} {off : Nat} {fs : List Int} {f : Int} (h : f ∈ layT T off fs) : f ∈ T ∨ f ∈ fs := by
  simp only [layT, splice, List.mem_append] at h
  rcases h with h | h | h
  · exact .inl (List.mem_of_mem_take h)
  · exact .inr h
  · exact .inl (List.mem_of_mem_drop h)
theorem Own.rdAt {E : TypeId} {k : IntKind} {base : Nat} {w : World} {g n cap : Nat} {xs : List Int} (h : Own E k base w (.slice (some ⟨g, 0, none⟩) n cap) xs) : Rd k w (some ⟨g, 0, none⟩) n cap xs := by
  obtain ⟨ao, c, he, hr⟩ := h.rd
  injection he with h1 h2 h3
  subst h1 h2 h3
  exact hr
theorem nrm_steps (z : Int) : ∃ r y, z.tmod 1000 = r ∧ (-1000 < r ∧ r < 1000) ∧ (r + 1000).tmod 1000 = y ∧ y = nrm z ∧ (0 ≤ y ∧ y ≤ 999) :=
  ⟨_, _, rfl, ⟨Int.lt_tmod_of_pos z (by decide), Int.tmod_lt_of_pos z (by decide)⟩, rfl, rfl, nrm_in z⟩
set_option maxRecDepth 100000 in
set_option maxHeartbeats 4000000 in
theorem spaceOver_walk (n a b : Int) (ao : Option Addr) (len cap : Nat) (fs : List Int) (go : Option Addr) (gen gcap : Nat) (gs : List Int) (w : World) (hf : Rd .i64 w ao len cap fs) (hg : Rd .i64 w go gen gcap gs)
    (ha : -9223372036854775808 ≤ a ∧ a ≤ 9223372036854775807) (hb : -9223372036854775808 ≤ b ∧ b ≤ 9223372036854775807) :
    Calls Try.prog 5 #[.int .i64 n, .int .i64 a, .int .i64 b, .slice ao len cap, .slice go gen gcap] w fun e w' => e = .returned (.bool true) ∧ Below w.heap.size w w' := by
  have hl63 := hf.cap63
  have hle := hf.le
  have gl63 := hg.cap63
  have gle := hg.le
  have HF := hid hf
  have HG := hid hg
  clear hf hg
  go_enter Try.func5, Try.ntmps5
  go_wp2_with fail
  refine (begun_to w).mono ?_
  rintro e w1 ⟨rfl, hbb⟩
  have HB := hid hbb
  clear hbb
  by_cases hr : n < 1 ∨ 16 < n ∨ a < 0 ∨ b < 0
  · by_cases h1 : n < 1
    · go_wp2_with fail
      go_ret
      exact ⟨rfl, HB.out⟩
    · by_cases h2 : 16 < n
      · go_wp2_with fail
        go_ret
        exact ⟨rfl, HB.out⟩
      · by_cases h3 : a < 0
        · go_wp2_with fail
          go_ret
          exact ⟨rfl, HB.out⟩
        · have h4 : b < 0 := by omega
          go_wp2_with fail
          go_ret
          exact ⟨rfl, HB.out⟩
  obtain ⟨n, rfl⟩ : ∃ y : Nat, n = y := ⟨n.toNat, by omega⟩
  have hn1 : (1 : Int) ≤ n := by omega
  have hn2 : (n : Int) ≤ 16 := by omega
  have ha0 : 0 ≤ a := by omega
  have hb0 : 0 ≤ b := by omega
  clear hr
  obtain ⟨a', ea⟩ : ∃ a' : Nat, a.tmod n = a' := ⟨(a.tmod n).toNat, by have := Int.tmod_nonneg n ha0; omega⟩
  obtain ⟨b', eb⟩ : ∃ b' : Nat, b.tmod n = b' := ⟨(b.tmod n).toNat, by have := Int.tmod_nonneg n hb0; omega⟩
  have ha' : a' < n := by have := Int.tmod_lt_of_pos a (show (0 : Int) < n by omega); omega
  have hb' : b' < n := by have := Int.tmod_lt_of_pos b (show (0 : Int) < n by omega); omega
  have d1 : decide ((n : Int) < 1) = false := by simp; omega
  have d2 : decide ((16 : Int) < (n : Int)) = false := by simp; omega
  have d3 : decide (a < 0) = false := by simp; omega
  have d4 : decide (b < 0) = false := by simp; omega
  obtain ⟨i0, hi, hz0, hz1, hz2⟩ := info_parts infoI
  have hby : i0.bytes * n ≤ 281474976710656 := by rw [hz2]; omega
  go_wp2_with fail
  clear d1 d2 d3 d4
  go_quiet (fail)
  have hB1 := HB.out.trans ((below_drewN w1.heap.size w1 nq).mono HB.out.size)
  replace HB := hid hB1
  clear hB1
  generalize w1.drewN nq = w2 at HB ⊢
  have hw2 : w.heap.size ≤ w2.heap.size := HB.out.size
  go_wp2_with (at_make; refine wpList_make_full _ rfl _ _ 29 rfl w2.heap.size 3 i0 (.int .i64 0) 1 Try.underlying29 hi hz0 hz1 _ _ _ _ n rfl rfl rfl rfl hby (by unfold maxLen; omega) (Nat.le_refl _) ?_; intro w3 hrow hg1; apply stopHere)
  refine hid ?_
  have hO := (own_made hrow).lift (base' := w.heap.size) hw2
  have hB2 : Below w.heap.size w w3 := HB.out.trans ((Below.refl _ _).grown hg1 hw2 (fun b hb => by cases hb))
  have hg3 : w2.heap.size < w3.heap.size := (hO.lt _ rfl).2
  replace HB := hid hB2
  have HO := hid hO
  clear hrow hg1 hO hB2
  obtain ⟨g, hgg⟩ : ∃ g, w2.heap.size = g := ⟨_, rfl⟩
  rw [hgg] at HO hg3 hw2 ⊢
  clear hgg
  go_wp2_with fail
  go_loopw [48] (fun i wr => ∃ k : Nat, k ≤ n ∧ i = .int .i64 k ∧ Own 3 .i64 w.heap.size wr (.slice (some ⟨g, 0, none⟩) n n) (fillI n k) ∧ Below w.heap.size w wr ∧ g < wr.heap.size) (fun i _ => n - (intOf i).toNat)
  case atStart => exact ⟨0, Nat.zero_le _, rfl, HO.out, HB.out, hg3⟩
  case round =>
    clear HO HB hg3
    obtain ⟨k, hk, rfl, hO, hB, hg3⟩ := hrel
    have hfl := fillI_len n k hk
    by_cases hlt : k < n
    · have c1 := (hO.cell k (by omega)).1
      have f1 := (hO.cell k (by omega)).2.1
      have hO2 := hO.set k (-1) (by decide)
      rw [fillI_set n k hlt] at hO2
      have HO := hid (And.intro hO2 (And.intro (Below.setCell hB (p := ⟨g, k, none⟩) hw2 (.int .i64 (-1))) (show g < (wr.setCell ⟨g, k, none⟩ (.int .i64 (-1))).heap.size by simpa using hg3)))
      clear hO hO2 hB hfl
      go_wp2_with fail
      go_roundw
      case rel => exact ⟨k + 1, by omega, by go_num, HO.out⟩
      case measure => simp [intOf]; omega
    obtain rfl : n = k := by omega
    rw [fillI_all] at hO
    have HO := hid hO
    have HB := hid hB
    clear hO hB hfl hlt hk hi hz0 hz1 hz2 hby
    go_upto_block 2 with fail
    obtain ⟨B1, hB1⟩ : ∃ B1, wr.heap.size = B1 := ⟨_, rfl⟩
    obtain ⟨T0, hT0⟩ : ∃ T0, T0 = List.replicate n (-1) := ⟨_, rfl⟩
    have hT0l : T0.length = n := by rw [hT0]; simp
    obtain ⟨L, hL⟩ : ∃ L, L = min len (n - a') := ⟨_, rfl⟩
    have hLl : L ≤ len := by omega
    have hLn : a' + L ≤ n := by omega
    rw [← hT0] at HO
    rw [hB1] at hg3
    have hs2 : wr.heap.size ≥ B1 := by omega
    have HT0 := hid (And.intro hT0 (And.intro hT0l hL))
    have HB1 := hid hB1
    clear hT0 hB1 hT0l hL
    obtain ⟨w4, hw4⟩ : ∃ w4, wr = w4 := ⟨_, rfl⟩
    subst hw4
    go_cut [14, 16] from 55 to 86 (fun v i wc => i = .int .i64 (L : Int) ∧ Hid (Own 3 .i64 B1 wc v (nrms fs L) ∧ Own 3 .i64 w.heap.size wc (.slice (some ⟨g, 0, none⟩) n n) (layT T0 a' (nrms fs L)) ∧ Below w.heap.size w wc ∧ B1 ≤ wc.heap.size))
    case first =>
      go_wp2_with fail
      go_loopw [14, 16] (fun v i wr => ∃ k : Nat, k ≤ L ∧ i = .int .i64 k ∧ Own 3 .i64 B1 wr v (nrms fs k) ∧ Own 3 .i64 w.heap.size wr (.slice (some ⟨g, 0, none⟩) n n) (layT T0 a' (nrms fs k)) ∧ Below w.heap.size w wr ∧ B1 ≤ wr.heap.size) (fun _ i _ => L - (intOf i).toNat)
      case atStart => exact ⟨0, Nat.zero_le _, rfl, Own.nil _ _ _ _, by rw [show nrms fs 0 = [] by simp [nrms], layT_nil]; exact HO.out, HB.out, hs2⟩
      case round =>
        clear HO HB hs2
        obtain ⟨k, hk, rfl, hV, hO, hB, hs3⟩ := hrel
        by_cases hlt : k < L
        · obtain ⟨x, off, rfl, hc⟩ := (HF.out.below (Below.mono hB (Nat.le_refl _))).at (by omega)
          have hck := hc k (by omega)
          obtain ⟨z, hz⟩ : ∃ z, fs.getD k 0 = z := ⟨_, rfl⟩
          rw [hz] at hck
          have hxl := World.block_lt_of_cell? wr _ hck
          obtain ⟨r, y, hr1, hr2, hr3, hr4, hr5⟩ := nrm_steps z
          have hfl := HF.out.len
          have hns := nrms_snoc fs k (by omega)
          have hnl := nrms_len fs k (by omega)
          rw [hz, ← hr4] at hns
          have hwy : (Lit.int .i64 y).wf = true := WalkArith.wf_i64 (by omega)
          have d1 : decide ((k : Int) < (len : Int)) = true := by simp; omega
          have d2 : decide ((a' : Int) + k < (n : Int)) = true := by simp; omega
          have d3 : IntKind.i64.wrap ((a' : Int) + k) = a' + k := IntWalk.i64_in _ (by omega)
          have d4 : IntKind.i64.wrap (r + 1000) = r + 1000 := IntWalk.i64_in _ (by omega)
          have hrd := Rd.built wr .i64 3 y hwy
          have hgv : ∀ q, u14.ownBlock = some q → q ≠ g := fun q hq => by have := (hV.lt q hq).1; omega
          have HV := hid (And.intro (hV.alloc (.cells #[.int .i64 y] 3)) (And.intro hO (And.intro hB hrd)))
          have HN := hid (And.intro hns (And.intro hnl hgv))
          clear hc hz hr4 hns hnl hV hO hB hrd hgv hfl
          go_wp2_with (at_builtin; refine wpList_append_rd rfl (.tmp 68) (.tmp 76) 29 rfl 3 .i64 B1 8 Try.underlying29 infoI u14 (nrms fs k) rfl HV.out.1 (some ⟨wr.heap.size, 0, none⟩) 1 1 [y] rfl HV.out.2.2.2 (by rw [HN.out.2.1]; omega) (by rw [HN.out.2.1]; omega) (by simp; omega) ?_; intro v' w4 h1 h2 h3; apply stopHere)
          refine hid ?_
          have hal : Below B1 wr (wr.alloc (.cells #[.int .i64 y] 3)) := (Bl.alloc (Bl.refl wr) _).mono hs3
          have hO4 := HV.out.2.1.low (hal.trans h2) hg3
          have hB4 : Below w.heap.size w w4 := HV.out.2.2.1.trans ((hal.trans h2).mono (by omega))
          have hs4 : B1 ≤ w4.heap.size := by have := h2.size; simp at this; omega
          obtain ⟨gf, cf, rfl, hgf, hcf, hcf2⟩ := h1.form (by simp)
          have hll : (nrms fs k ++ [y]).length = k + 1 := by rw [List.length_append, HN.out.2.1]; rfl
          have hgfg : gf ≠ g := by omega
          have e1 := (h1.cell k (by omega)).1
          have e1' : (nrms fs k ++ [y]).getD k 0 = y := by rw [List.getD_eq_getElem?_getD, List.getElem?_append_right (by rw [HN.out.2.1]; exact Nat.le_refl _), HN.out.2.1]; simp
          rw [e1'] at e1
          rw [hll] at hcf h1 ⊢
          have hnl2 : a' + (nrms fs k).length < T0.length := by rw [HN.out.2.1, HT0.out.2.1]; omega
          have hlay := layT_one T0 a' (nrms fs k) y hnl2
          have hlen := layT_len T0 a' (nrms fs k) (by omega)
          rw [HN.out.2.1, HN.out.1] at hlay
          have c2 := (hO4.cell (a' + k) (by rw [hlen, HT0.out.2.1]; omega)).1
          have f2 := (hO4.cell (a' + k) (by rw [hlen, HT0.out.2.1]; omega)).2.1
          have hO5 := hO4.set (a' + k) y hwy
          rw [hlay] at hO5
          rw [HN.out.1] at h1
          have H := hid (And.intro (h1.aside (p := ⟨g, a' + k, none⟩) (fun q hq => by simp [Value.ownBlock] at hq; rw [← hq]; exact hgfg) (.int .i64 y)) (And.intro hO5 (And.intro (Below.setCell hB4 (p := ⟨g, a' + k, none⟩) hw2 (.int .i64 y)) (show B1 ≤ (w4.setCell ⟨g, a' + k, none⟩ (.int .i64 y)).heap.size by simpa using hs4))))
          clear hal hO4 hB4 h1 h2 h3 hll e1' hnl2 hlay hlen hO5 HV HN hr1 hr2 hr3 d4 hck
          go_wp2_with fail
          go_roundw
          case rel => exact ⟨k + 1, by omega, by go_num, H.out⟩
          case measure => simp [intOf]; omega
        obtain rfl : L = k := by omega
        have H := hid (And.intro hV (And.intro hO (And.intro hB hs3)))
        clear hV hO hB hs3 hlt hk
        by_cases hq : L < len
        · have d1 : decide ((L : Int) < (len : Int)) = true := by simp; omega
          have d2 : decide ((a' : Int) + L < (n : Int)) = false := by have := HT0.out.2.2; simp; omega
          have d3 : IntKind.i64.wrap ((a' : Int) + L) = a' + L := IntWalk.i64_in _ (by omega)
          go_wp2_with fail
          go_meet
          case rel => exact ⟨rfl, H⟩
        · have d1 : decide ((L : Int) < (len : Int)) = false := by simp; omega
          go_wp2_with fail
          go_meet
          case rel => exact ⟨rfl, H⟩
    case rest =>
      obtain ⟨rfl, H⟩ := hcut
      have hLF := (H.out.1.lt)
      go_upto_block 4 with fail
      obtain ⟨B2, hB2⟩ : ∃ B2, wc.heap.size = B2 := ⟨_, rfl⟩
      obtain ⟨T1, hT1⟩ : ∃ T1, T1 = layT T0 a' (nrms fs L) := ⟨_, rfl⟩
      have hnl0 := nrms_len fs L (by have := HF.out.len; omega)
      have hT1l : T1.length = n := by rw [hT1, layT_len _ _ _ (by rw [hnl0, HT0.out.2.1]; exact hLn)]; exact HT0.out.2.1
      obtain ⟨L2, hL2⟩ : ∃ L2, L2 = min gen (n - b') := ⟨_, rfl⟩
      have hLl2 : L2 ≤ gen := by omega
      have hLn2 : b' + L2 ≤ n := by omega
      have hg4 : g < B2 := by have := H.out.2.2.2; omega
      have HO := hid H.out.2.1
      rw [← hT1] at HO
      have HFR := hid H.out.1
      have HB := hid H.out.2.2.1
      have hs2 : wc.heap.size ≥ B2 := by omega
      have HLF : Hid (∀ q, u14.ownBlock = some q → q < B2) := hid (fun q hq => by have := (hLF q hq).2; omega)
      have HGF : Hid (∀ q, u14.ownBlock = some q → q ≠ g) := hid (fun q hq => by have := (hLF q hq).1; omega)
      have HT1 := hid (And.intro hT1 (And.intro hT1l (And.intro hL2 hnl0)))
      clear hT1 hB2 hT1l hL2 hLF H hnl0
      obtain ⟨ws, rfl⟩ : ∃ wo : World, wo = wc := ⟨_, rfl⟩
      go_cut [15, 17] from 87 to 118 (fun v i wc => i = .int .i64 (L2 : Int) ∧ Hid (Own 3 .i64 B2 wc v (nrms gs L2) ∧ Own 3 .i64 w.heap.size wc (.slice (some ⟨g, 0, none⟩) n n) (layT T1 b' (nrms gs L2)) ∧ Own 3 .i64 B1 wc u14 (nrms fs L) ∧ Below w.heap.size w wc ∧ B2 ≤ wc.heap.size))
      case first =>
        go_wp2_with fail
        go_loopw [15, 17] (fun v i wr => ∃ k : Nat, k ≤ L2 ∧ i = .int .i64 k ∧ Own 3 .i64 B2 wr v (nrms gs k) ∧ Own 3 .i64 w.heap.size wr (.slice (some ⟨g, 0, none⟩) n n) (layT T1 b' (nrms gs k)) ∧ Own 3 .i64 B1 wr u14 (nrms fs L) ∧ Below w.heap.size w wr ∧ B2 ≤ wr.heap.size) (fun _ i _ => L2 - (intOf i).toNat)
        case atStart => exact ⟨0, Nat.zero_le _, rfl, Own.nil _ _ _ _, by rw [show nrms gs 0 = [] by simp [nrms], layT_nil]; exact HO.out, HFR.out, HB.out, hs2⟩
        case round =>
          clear HO HB HFR hs2
          obtain ⟨k, hk, rfl, hV, hO, hR, hB, hs3⟩ := hrel
          by_cases hlt : k < L2
          · obtain ⟨x, off, rfl, hc⟩ := (HG.out.below (Below.mono hB (Nat.le_refl _))).at (by omega)
            have hck := hc k (by omega)
            obtain ⟨z, hz⟩ : ∃ z, gs.getD k 0 = z := ⟨_, rfl⟩
            rw [hz] at hck
            have hxl := World.block_lt_of_cell? wr _ hck
            obtain ⟨r, y, hr1, hr2, hr3, hr4, hr5⟩ := nrm_steps z
            have hfl := HG.out.len
            have hns := nrms_snoc gs k (by omega)
            have hnl := nrms_len gs k (by omega)
            rw [hz, ← hr4] at hns
            have hwy : (Lit.int .i64 y).wf = true := WalkArith.wf_i64 (by omega)
            have d1 : decide ((k : Int) < (gen : Int)) = true := by simp; omega
            have d2 : decide ((b' : Int) + k < (n : Int)) = true := by simp; omega
            have d3 : IntKind.i64.wrap ((b' : Int) + k) = b' + k := IntWalk.i64_in _ (by omega)
            have d4 : IntKind.i64.wrap (r + 1000) = r + 1000 := IntWalk.i64_in _ (by omega)
            have hrd := Rd.built wr .i64 3 y hwy
            have hgv : ∀ q, u15.ownBlock = some q → q ≠ g := fun q hq => by have := (hV.lt q hq).1; omega
            have HV := hid (And.intro (hV.alloc (.cells #[.int .i64 y] 3)) (And.intro hO (And.intro hB (And.intro hrd hR))))
            have HN := hid (And.intro hns (And.intro hnl hgv))
            clear hc hz hr4 hns hnl hV hO hB hrd hgv hfl hR
            go_wp2_with (at_builtin; refine wpList_append_rd rfl (.tmp 100) (.tmp 108) 29 rfl 3 .i64 B2 8 Try.underlying29 infoI u15 (nrms gs k) rfl HV.out.1 (some ⟨wr.heap.size, 0, none⟩) 1 1 [y] rfl HV.out.2.2.2.1 (by rw [HN.out.2.1]; omega) (by rw [HN.out.2.1]; omega) (by simp; omega) ?_; intro v' w4 h1 h2 h3; apply stopHere)
            refine hid ?_
            have hal : Below B2 wr (wr.alloc (.cells #[.int .i64 y] 3)) := (Bl.alloc (Bl.refl wr) _).mono hs3
            have hO4 := HV.out.2.1.low (hal.trans h2) hg4
            have hR4 := HV.out.2.2.2.2.low' (hal.trans h2) HLF.out
            have hB4 : Below w.heap.size w w4 := HV.out.2.2.1.trans ((hal.trans h2).mono (by omega))
            have hs4 : B2 ≤ w4.heap.size := by have := h2.size; simp at this; omega
            obtain ⟨gf, cf, rfl, hgf, hcf, hcf2⟩ := h1.form (by simp)
            have hll : (nrms gs k ++ [y]).length = k + 1 := by rw [List.length_append, HN.out.2.1]; rfl
            have hgfg : gf ≠ g := by omega
            have e1 := (h1.cell k (by omega)).1
            have e1' : (nrms gs k ++ [y]).getD k 0 = y := by rw [List.getD_eq_getElem?_getD, List.getElem?_append_right (by rw [HN.out.2.1]; exact Nat.le_refl _), HN.out.2.1]; simp
            rw [e1'] at e1
            rw [hll] at hcf h1 ⊢
            have hnl2 : b' + (nrms gs k).length < T1.length := by rw [HN.out.2.1, HT1.out.2.1]; omega
            have hlay := layT_one T1 b' (nrms gs k) y hnl2
            have hlen := layT_len T1 b' (nrms gs k) (by omega)
            rw [HN.out.2.1, HN.out.1] at hlay
            have c2 := (hO4.cell (b' + k) (by rw [hlen, HT1.out.2.1]; omega)).1
            have f2 := (hO4.cell (b' + k) (by rw [hlen, HT1.out.2.1]; omega)).2.1
            have hO5 := hO4.set (b' + k) y hwy
            rw [hlay] at hO5
            rw [HN.out.1] at h1
            have H := hid (And.intro (h1.aside (p := ⟨g, b' + k, none⟩) (fun q hq => by simp [Value.ownBlock] at hq; rw [← hq]; exact hgfg) (.int .i64 y)) (And.intro hO5 (And.intro (hR4.aside (p := ⟨g, b' + k, none⟩) (fun q hq => HGF.out q hq) (.int .i64 y)) (And.intro (Below.setCell hB4 (p := ⟨g, b' + k, none⟩) hw2 (.int .i64 y)) (show B2 ≤ (w4.setCell ⟨g, b' + k, none⟩ (.int .i64 y)).heap.size by simpa using hs4)))))
            clear hal hO4 hB4 hR4 h1 h2 h3 hll e1' hnl2 hlay hlen hO5 HV HN hr1 hr2 hr3 d4 hck
            go_wp2_with fail
            go_roundw
            case rel => exact ⟨k + 1, by omega, by go_num, H.out⟩
            case measure => simp [intOf]; omega
          obtain rfl : L2 = k := by omega
          have H := hid (And.intro hV (And.intro hO (And.intro hR (And.intro hB hs3))))
          clear hV hO hB hR hs3 hlt hk
          by_cases hq : L2 < gen
          · have d1 : decide ((L2 : Int) < (gen : Int)) = true := by simp; omega
            have d2 : decide ((b' : Int) + L2 < (n : Int)) = false := by have := HT1.out.2.2.1; simp; omega
            have d3 : IntKind.i64.wrap ((b' : Int) + L2) = b' + L2 := IntWalk.i64_in _ (by omega)
            go_wp2_with fail
            go_meet
            case rel => exact ⟨rfl, H⟩
          · have d1 : decide ((L2 : Int) < (gen : Int)) = false := by simp; omega
            go_wp2_with fail
            go_meet
            case rel => exact ⟨rfl, H⟩
      case rest =>
        obtain ⟨rfl, H⟩ := hcut
        obtain ⟨F, hF⟩ : ∃ F, nrms fs L = F := ⟨_, rfl⟩
        obtain ⟨G, hG⟩ : ∃ G, nrms gs L2 = G := ⟨_, rfl⟩
        have hFl : F.length = L := by rw [← hF]; exact HT1.out.2.2.2
        have hGl : G.length = L2 := by rw [← hG]; exact nrms_len gs L2 (by have := HG.out.len; omega)
        have hFi : ∀ f ∈ F, 0 ≤ f ∧ f ≤ 999 := by rw [← hF]; exact nrms_in fs L
        have hGi : ∀ f ∈ G, 0 ≤ f ∧ f ≤ 999 := by rw [← hG]; exact nrms_in gs L2
        obtain ⟨h1, h2, h3, h4, h5⟩ := H.out
        rw [hF] at h3
        rw [hG] at h1 h2
        obtain ⟨T2, hT2⟩ : ∃ T2, layT T1 b' G = T2 := ⟨_, rfl⟩
        rw [hT2] at h2
        have hT1e : T1 = layT T0 a' F := by rw [HT1.out.1, hF]
        have hT2l : T2.length = n := by rw [← hT2, layT_len _ _ _ (by rw [hGl, HT1.out.2.1]; exact hLn2)]; exact HT1.out.2.1
        have hT2w : ∀ f ∈ T2, (Lit.int .i64 f).wf = true := by
          intro f hf
          rw [← hT2] at hf
          have hb : -1 ≤ f ∧ f ≤ 999 := by
            rcases layT_mem hf with hf | hf
            · rw [hT1e] at hf
              rcases layT_mem hf with hf | hf
              · rw [HT0.out.1] at hf; rw [(List.mem_replicate.1 hf).2]; decide
              · have := hFi f hf; omega
            · have := hGi f hf; omega
          exact WalkArith.wf_i64 (by omega)
        have hl1 := h1.lt
        have hl3 := h3.lt
        obtain ⟨fo, fc, rfl, hrF⟩ := h3.rd
        obtain ⟨go', gc', rfl, hrG⟩ := h1.rd
        have HR := hid (And.intro hrF (And.intro hrG (And.intro h2 h4)))
        have HT2 := hid (And.intro hT2 (And.intro hT1e (And.intro hT2l hT2w)))
        have HFL := hid (And.intro hFl (And.intro hGl (And.intro hFi hGi)))
        have HLT : Hid ((∀ ad, fo = some ad → ad.block < wc.heap.size) ∧ (∀ ad, go' = some ad → ad.block < wc.heap.size)) := hid ⟨fun ad e => (hl3 ad.block (by rw [e]; rfl)).2, fun ad e => (hl1 ad.block (by rw [e]; rfl)).2⟩
        clear hF hG hFl hGl hFi hGi h1 h2 h3 h4 hT2 hT1e hT2l hT2w hl1 hl3 hrF hrG H HO HFR HB HB1
        go_wp2_with fail
        refine (new_to true n (-1) (by omega) (.inl rfl) none 0 [] (by decide) wc (RdC.empty 3 wc)).mono ?_
        rintro e w5 ⟨S, rfl, hS, hb⟩
        have HS := hid hS
        have HC := hid hb
        clear hS hb
        go_wp2_with fail
        have hst1 := setElems_to HS.out a' fo fc F (HR.out.1.below (HC.out.mono (Nat.le_refl _))) (fun f hf => by have := HFL.out.2.2.1 f hf; omega) (by have := HFL.out.1; simp; omega) (by decide) (fun ad e => by have := HLT.out.1 ad e; have := HS.out.hb; omega)
        rw [show layT (List.replicate n (-1)) a' F = T1 by rw [HT2.out.2.1, HT0.out.1]] at hst1
        refine hst1.mono ?_
        rintro e w6 ⟨rfl, hS, hW⟩
        clear hst1
        replace HC := hid (HC.out.trans (hW.below HC.out.size HS.out.hb))
        replace HS := hid hS
        clear hS hW
        go_wp2_with fail
        have hst2 := setElems_to HS.out b' go' gc' G (HR.out.2.1.below (HC.out.mono (Nat.le_refl _))) (fun f hf => by have := HFL.out.2.2.2 f hf; omega) (by have := HFL.out.2.1; have := HT1.out.2.1; omega) (by have := HFL.out.1; omega) (fun ad e => by have := HLT.out.2 ad e; have := HS.out.hb; omega)
        rw [HT2.out.1] at hst2
        refine hst2.mono ?_
        rintro e w7 ⟨rfl, hS, hW⟩
        clear hst2
        replace HC := hid (HC.out.trans (hW.below HC.out.size HS.out.hb))
        replace HS := hid hS
        clear hS hW
        go_wp2_with fail
        replace HS := hid (HS.out.alloc (.cells #[.int .i64 1] 3))
        replace HC := hid (HC.out.trans ((Bl.alloc (Bl.refl w7) (.cells #[.int .i64 1] 3)).mono HC.out.size))
        obtain ⟨q, hq⟩ : ∃ q, w7.heap.size = q := ⟨_, rfl⟩
        rw [hq]
        generalize w7.alloc (.cells #[.int .i64 1] 3) = w8 at HS HC ⊢
        refine (setElems_no HS.out n (by omega) (some ⟨q, 0, none⟩) 1 1 (by decide) (.inr (by rw [HT2.out.2.2.1]; omega))).mono ?_
        rintro e w' ⟨rfl, rfl⟩
        go_wp2_with fail
        refine (setElems_no HS.out (-1) (by decide) none 0 0 (by decide) (.inl (by decide))).mono ?_
        rintro e w' ⟨rfl, rfl⟩
        go_wp2_with fail
        refine (elems_to HS.out HT2.out.2.2.2).mono ?_
        rintro e w9 ⟨v, rfl, hV, hb⟩
        obtain ⟨vo, vc, ev, hrV⟩ := hV.rd
        rw [HT2.out.2.2.1] at ev hrV
        subst ev
        have hps := HS.out.lt
        have hgs := HS.out.gl.lt
        obtain ⟨B9, hB9⟩ : ∃ B9, w8.heap.size = B9 := ⟨_, rfl⟩
        have hc9 : wc.heap.size ≤ B9 := by rw [← hB9]; exact HC.out.size
        rw [hB9] at hV hps
        have HNE : Hid ((∀ g', B9 ≤ g' → g' ≠ S.p) ∧ (∀ g', B9 ≤ g' → g' ≠ S.bm) ∧ (∀ g', B9 ≤ g' → ∀ x, S.gs.ownBlock = some x → g' ≠ x)) := hid ⟨fun g' h => by omega, fun g' h => by omega, fun g' h x hx => by have := (hgs x hx).2; omega⟩
        replace HS := hid (HS.out.bl hb)
        replace HC := hid (HC.out.trans (hb.mono HC.out.size))
        have HO := hid (HR.out.2.2.1.below HC.out (Nat.le_refl _))
        have heq := eqInts_to vo (some ⟨g, 0, none⟩) n n vc n T2 T2 true (by simp) w9 hrV HO.out.rdAt
        have HV := hid hV
        have hs9 : B9 ≤ w9.heap.size := by rw [← hB9]; exact hb.size
        have hcv := hrV.cap63
        clear hV hrV hps hgs hB9 hb
        go_wp2_with fail
        refine heq.mono ?_
        rintro e w10 ⟨rfl, hb⟩
        clear heq
        replace HS := hid (HS.out.bl hb)
        replace HC := hid (HC.out.trans (hb.mono HC.out.size))
        replace HV := hid (HV.out.below hb (Nat.le_refl _))
        have hs10 : B9 ≤ w10.heap.size := by have := hb.size; omega
        clear hb HO
        go_wp2_with fail
        go_loopw [153] (fun i wr => ∃ (k : Nat) (X : List Int), k ≤ n ∧ i = .int .i64 k ∧ X.length = n ∧ Own 3 .i64 B9 wr (.slice vo n vc) X ∧ SpAt wc.heap.size wr S (0 + F.length + G.length) T2 [] ∧ Below wc.heap.size wc wr) (fun i _ => n - (intOf i).toNat)
        case atStart => exact ⟨0, T2, Nat.zero_le _, rfl, HT2.out.2.2.1, HV.out, HS.out, HC.out⟩
        case round =>
          clear HV HS HC hs10
          obtain ⟨k, X, hk, rfl, hXl, hV, hS, hC⟩ := hrel
          by_cases hlt : k < n
          · obtain ⟨gv, cp, ev, hgv, _, _⟩ := hV.form (by omega)
            rw [hXl] at ev
            injection ev with e1 _ e3
            subst e1 e3
            have c1 := (hV.cell k (by omega)).1
            have f1 := (hV.cell k (by omega)).2.1
            have hV2 := hV.set k 77 (by decide)
            have hS2 := hS.grown (grown_set wr ⟨gv, k, none⟩ (.int .i64 77)) (by simpa using HNE.out.1 gv hgv) (by simpa using HNE.out.2.1 gv hgv) (fun x hx => by simpa using HNE.out.2.2 gv hgv x hx)
            have hC2 := Below.setCell hC (p := ⟨gv, k, none⟩) (by show wc.heap.size ≤ gv; omega) (.int .i64 77)
            have H := hid (And.intro hV2 (And.intro hS2 hC2))
            have HXL := hid hXl
            clear hV hS hC hV2 hS2 hC2 hXl
            go_wp2_with fail
            go_roundw
            case rel => exact ⟨k + 1, _, by omega, by go_num, by rw [List.length_set]; exact HXL.out, H.out⟩
            case measure => simp [intOf]; omega
          · have H := hid (And.intro hS hC)
            clear hV hS hC hXl
            have hkn : k = n := by omega
            subst hkn
            clear hlt hk
            go_wp2_with fail
            refine (elems_to H.out.1 HT2.out.2.2.2).mono ?_
            rintro e w11 ⟨v2, rfl, hV, hb⟩
            have hC := H.out.2.trans (hb.mono H.out.2.size)
            obtain ⟨vo2, vc2, rfl, hrV⟩ := hV.rd
            have hO := HR.out.2.2.1.below hC (Nat.le_refl _)
            have heq := eqInts_to vo2 _ _ _ vc2 _ T2 T2 true (by simp) w11 hrV hO.rdAt
            have HB := hid (HR.out.2.2.2.trans (hC.mono HR.out.2.2.2.size))
            clear hV hb hC hrV hO
            go_wp2_with fail
            refine heq.mono ?_
            rintro e w12 ⟨rfl, hb⟩
            replace HB := hid (HB.out.trans (hb.mono HB.out.size))
            clear hb heq
            go_wp2_with fail
            go_ret
            exact ⟨rfl, HB.out⟩
end Go.Proofs.Ythknmoaffapkhaa
