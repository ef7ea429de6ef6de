/- dev: Crash. -/
import Derived.Test.YtpfcopdckjedfaaDoorDyJ
import Derived.Deep.Cut
import Derived.Deep.RegionHeld3
namespace Go.Proofs.YtpfcopdckjedfaaDoor
open Go.RowKit Go.Maps
set_option linter.unusedVariables false
set_option maxRecDepth 100000

abbrev intOf' : Value → Int
  | .int _ x => x
  | _ => 0
set_option maxRecDepth 100000 in
/-- One round: the sector is as it was flushed. -/
theorem crash_store {w w' : World} {M : Dv} {ks : List Bool} {k x q bs2 cap2 bm2 : Nat} (h : DvL w (Dv.of (crS M ks k)) q bs2 cap2 bm2) (hM : M.ok) (hx : x < M.now.length) (hk : ks.getD k false = false) (ex : (M.looses.getD k 0).toNat = x)
    (hw' : w' = w.drew.setCells bs2 (x * 64) (cs8 (M.safe.getD x []))) : DvL w' (Dv.of (crS M ks (k + 1))) q bs2 cap2 bm2 ∧ Wr bs2 w w' := by
  subst hw'
  have hW : Wr bs2 w (w.drew.setCells bs2 (x * 64) (cs8 (M.safe.getD x []))) := (Wr.refl bs2 w).drew.setCells _ _
  have e : crS M ks (k + 1) = (crS M ks k).set x (M.safe.getD x []) := by
    show (if ks.getD k false = true then _ else _) = _
    rw [if_neg (by rw [hk]; decide), ex]
  have hs : secOk (M.safe.getD x []) := hM.safe _ (getD_mem (by rw [hM.s]; exact hx))
  rw [e]
  refine ⟨h.sector (by rw [crS_length]; exact hx) hs hW (fun cur hc => ?_), hW⟩
  obtain ⟨cur', hc', e1, hle, hmx, hsz, ht, hB⟩ := h.sec.open
  have : cur = cur' := by
    unfold Blk at hc hc'
    rw [hc] at hc'
    injection hc' with hc'
    injection hc' with hc'
    simpa using hc'
  subst this
  refine Blk.setCells _ hc.drew _ ?_
  rw [cs8_len hs, hsz]
  have e2 : (Dv.of (crS M ks k)).now.length = M.now.length := crS_length M ks k
  have := Nat.mul_le_mul_right 64 (show x + 1 ≤ cap2 by rw [e2] at hle; omega)
  omega

theorem RdB.at {w : World} {ao : Option Addr} {n cap : Nat} {xs : List Bool} (h : RdB w ao n cap xs) (hp : 0 < n) : ∃ b off, ao = some ⟨b, off, none⟩ ∧ ∀ i, i < n → w.cell? ⟨b, off + i, none⟩ = some (.bool (xs.getD i false)) := by
  cases ao with
  | none => have := h.nil rfl; have := h.le; omega
  | some ad =>
    obtain ⟨b, off, spot⟩ := ad
    have hspot : spot = none := by simpa [Addr.add] using World.cell?_spot (h.cell _ rfl 0 hp)
    subst hspot
    exact ⟨b, off, rfl, fun j hj => by rw [← Go.WideShapes.add_plain]; exact h.cell _ rfl j hj⟩
theorem loose_nat {M : Dv} {k : Nat} (hk : k < M.looses.length) (hM : M.ok) : ∃ x : Nat, M.looses.getD k 0 = (x : Int) ∧ x < M.now.length ∧ M.loose.getD x false = true := by
  have hat : M.looses[k]? = some (M.looses.getD k 0) := by simp [List.getD, hk]
  obtain ⟨i, i1, i2, i3, i4⟩ := looses_at M.loose 0 k _ hat
  exact ⟨i, by omega, by rw [← hM.l]; exact i1, i3⟩
set_option maxHeartbeats 2000000 in
theorem crash_to {w : World} {M : Dv} {p bs cap bm : Nat} (h : DvL w M p bs cap bm) {ao : Option Addr} {n kcap : Nat} {ks : List Bool} (hks : RdB w ao n kcap ks) :
    Calls Tryd.prog 13 #[atp p, .slice ao n kcap] w fun e w' => ∃ q bs2 cap2 bm2, e = .returned (atp q) ∧ w.heap.size ≤ q ∧ w.heap.size ≤ bs2 ∧ w.heap.size ≤ bm2 ∧ DvL w' (M.crash ks) q bs2 cap2 bm2 ∧ Below w.heap.size w w' := by
  have c0 := h.cells.1
  have hcl := clone_to h.sec h.ok.n1 h.ok.n2
  have hnn := hks.cap63
  have hle := hks.le
  have HX := hid (And.intro h hks)
  obtain ⟨m, hm⟩ : ∃ m, M.now.length = m := ⟨_, rfl⟩
  rw [hm] at c0 hcl
  have HM := hid hm
  clear h hks hm
  go_enter Tryd.func13, Tryd.ntmps13
  go_wp2_with fail
  refine hcl.mono ?_
  rintro e w1 ⟨g, cap2, rfl, hg, ho, hb1⟩
  clear hcl
  have hof := of_to (L := M.now) (bs := g) (cap := cap2) (by rw [HM.out]; exact ho) HX.out.1.ok.n1 HX.out.1.ok.n2 HX.out.1.ok.now
  rw [HM.out] at hof
  have HB1 := hid (And.intro hb1 hg)
  clear ho hb1 hg
  go_wp2_with fail
  refine hof.mono ?_
  rintro e w2 ⟨rfl, h2, hb2⟩
  clear hof
  have hl2 := (HX.out.1.bel (HB1.out.1.trans (hb2.mono HB1.out.1.size)))
  have hlo := loose_to hl2
  have HB2 := hid (And.intro h2 hb2)
  obtain ⟨q, hq⟩ : ∃ q, w1.heap.size + 1 = q := ⟨_, rfl⟩
  have HQ := hid hq
  rw [hq]
  clear h2 hb2 hl2 hq
  go_wp2_with fail
  refine hlo.mono ?_
  rintro e w3 ⟨v, rfl, hv, hb3⟩
  clear hlo
  obtain ⟨vo, vc, rfl, hrd⟩ := hv.rd
  have HV := hid (And.intro hv hb3)
  clear hv hb3 hrd
  obtain ⟨c, hc⟩ : ∃ c, M.looses.length = c := ⟨_, rfl⟩
  have hc2 : c ≤ 2048 := by
    have h1 : M.looses.length = M.loose.count true := looses_length 0 M.loose
    have h2 := HX.out.1.cnt
    omega
  have HC := hid hc
  rw [hc] at HV ⊢
  clear hc
  go_wp2_with fail
  have hS0 : DvL w3 (Dv.of (crS M ks 0)) q g cap2 w1.heap.size := by rw [← HQ.out]; exact HB2.out.1.bel HV.out.2
  have HG : Hid ((Value.slice vo c vc).ownBlock ≠ some g) := by
    obtain ⟨cur, hc, _⟩ := hS0.sec.open
    exact HV.out.1.ne_blk hc (by decide)
  have HS0 := hid hS0
  clear hS0
  go_loopw [19] (fun i wr => ∃ k : Nat, k ≤ c ∧ i = .int .i64 k ∧ DvL wr (Dv.of (crS M ks k)) q g cap2 w1.heap.size ∧ Wr g w3 wr) (fun i _ => c - (intOf' i).toNat)
  case atStart => exact ⟨0, Nat.zero_le _, rfl, HS0.out, Wr.refl _ _⟩
  case round =>
    obtain ⟨k, hk, rfl, hS, hW⟩ := hrel
    have HR := hid (And.intro hS hW)
    clear hS hW HS0
    by_cases hlt : k < c
    · have hBw : Below w.heap.size w w2 := HB1.out.1.trans (HB2.out.2.mono HB1.out.1.size)
      have hB3 : Below w.heap.size w w3 := hBw.trans (HV.out.2.mono hBw.size)
      have hBr : Below w.heap.size w wr := hB3.trans (HR.out.2.below hB3.size HB1.out.2)
      have hrdr := (HV.out.1.wr HR.out.2 HG.out).rd
      obtain ⟨ao', cap', e', hrd⟩ := hrdr
      rw [HC.out] at hrd e'
      cases e'
      obtain ⟨vb, vof, rfl, hvc⟩ := hrd.at (by omega)
      have hvk := hvc k hlt
      obtain ⟨x, hx, hxm, hxl⟩ := loose_nat (k := k) (by rw [HC.out]; exact hlt) HX.out.1.ok
      rw [hx] at hvk
      have hMr : DvL wr M p bs cap bm := HX.out.1.bel hBr
      have hkr : RdB wr ao n kcap ks := HX.out.2.below hBr
      have k0 : (0 : Int) ≤ (k : Int) := by omega
      have k1 : (k : Int) < (c : Int) := by omega
      have hvmax := hrd.max
      have hvle := hrd.le
      have hv63 : vc ≤ 9223372036854775807 := by unfold maxLen at hvmax; omega
      have HY := hid (And.intro hBr (And.intro hx (And.intro hxm (And.intro hxl (And.intro hMr hkr)))))
      clear hBw hB3 hBr hrd hvc hx hMr hvmax
      have kw : IntKind.i64.wrap ((k : Int) + 1) = (k : Int) + 1 := IntWalk.i64_in _ (by omega)
      by_cases hkeep : k < n ∧ ks.getD k false = true
      · obtain ⟨kb, ko, rfl, hkc⟩ := hkr.at (by omega)
        have hkk := hkc k hkeep.1
        rw [hkeep.2] at hkk
        have e1 : crS M ks (k + 1) = crS M ks k := by
          show (if ks.getD k false = true then _ else _) = _
          rw [if_pos hkeep.2]
        have HE := hid e1
        have kn : (k : Int) < (n : Int) := by omega
        have d1 : decide ((k : Int) ≥ (n : Int)) = false := by simp; omega
        clear hkr hkc hkeep e1 hxm hxl
        go_wp2_with fail
        go_roundw
        case rel => exact ⟨k + 1, by omega, by go_num, by rw [HE.out]; exact HR.out.1, HR.out.2⟩
        case measure => simp [intOf']; omega
      · have hkf : ks.getD k false = false := by
          by_cases h1 : k < n
          · cases h2 : ks.getD k false with
            | false => rfl
            | true => exact absurd ⟨h1, h2⟩ hkeep
          · rw [List.getD_eq_getElem?_getD, List.getElem?_eq_none (by rw [hkr.len]; omega)]; rfl
        obtain ⟨U, hU⟩ : ∃ U, M.safe.getD x [] = U := ⟨_, rfl⟩
        have hUo : secOk U := by rw [← hU]; exact HX.out.1.ok.safe _ (getD_mem (by rw [HX.out.1.ok.s]; exact hxm))
        have hlen := cs8_len hUo
        have hone := cs8_one U
        have hz := size46
        rw [← hlen] at hz
        have hui := Tryd.underlying60
        obtain ⟨D, hm, hD⟩ := HY.out.2.2.2.2.1.map
        have hkey := keyOf_int_mk (P := Tryd.prog) Tryd.underlying3 (a := (x : Int)) (WalkArith.wf_i64 (by have := HX.out.1.ok.n2; omega))
        have hlk := ownsMap_look hm.drew keyedI Tryd.underlying61 (zero46 _) hkey (x := secV U) (by rw [← hU]; exact hD.at' x hxm hxl _)
        have g0 : wr.cell? ⟨q, 0, none⟩ = some (.slice (some ⟨g, 0, none⟩) m cap2) := by
          have := HR.out.1.cells.1
          rwa [show (Dv.of (crS M ks k)).now.length = m from (crS_length M ks k).trans HM.out] at this
        have g1 := HY.out.2.2.2.2.1.cells.2.1
        have gth : wr.there g (x * 64) 64 := HR.out.1.sec.there (by rw [List.length_map]; show x < (crS M ks k).length; rw [crS_length]; exact hxm)
        have x0 : (0 : Int) ≤ (x : Int) := by omega
        have x1 : (x : Int) < (m : Int) := by have := HM.out; omega
        have hmcap := HR.out.1.capb
        have hmm : (m : Int) ≤ (cap2 : Int) := by rw [show (Dv.of (crS M ks k)).now.length = m from (crS_length M ks k).trans HM.out] at hmcap; omega
        have key : ∀ w', Hid (w' = wr.drew.setCells g (x * 64) (cs8 U)) → DvL w' (Dv.of (crS M ks (k + 1))) q g cap2 w1.heap.size ∧ Wr g wr w' := fun w' hw' =>
          crash_store HR.out.1 HX.out.1.ok hxm hkf (by rw [HY.out.2.1]; rfl) (by rw [hU]; exact hw'.out)
        have HK := hid key
        have hS3 : (wr.drew.setCells g (x * 64) (cs8 U)).cell? ⟨q, 0, none⟩ = some (.slice (some ⟨g, 0, none⟩) m cap2) ∧ (wr.drew.setCells g (x * 64) (cs8 U)).cell? ⟨p, 1, none⟩ = some (.map (some bm)) ∧ (wr.drew.setCells g (x * 64) (cs8 U)).there g (x * 64) 64 := by
          obtain ⟨k1', k2'⟩ := HK.out _ (hid rfl)
          refine ⟨(k2'.cell (p := ⟨q, 0, none⟩) HR.out.1.lt.1 HR.out.1.ne.1).trans g0, (k2'.cell (p := ⟨p, 1, none⟩) HY.out.2.2.2.2.1.lt.1 ?_).trans g1, ?_⟩
          · have h1 := HX.out.1.lt.1
            have h2 := HB1.out.2
            show p ≠ g
            omega
          · exact k1'.sec.there (by rw [List.length_map]; show x < (crS M ks (k + 1)).length; rw [crS_length]; exact hxm)
        have HU := hid (And.intro hU (And.intro hkf (And.intro hUo hxm)))
        clear hU hkf hUo key hm hD hmcap hxm hxl
        by_cases hkn : k < n
        · obtain ⟨kb, ko, rfl, hkc⟩ := hkr.at (by omega)
          have hkk := hkc k hkn
          rw [HU.out.2.1] at hkk
          have kn : (k : Int) < (n : Int) := by omega
          have d1 : decide ((k : Int) ≥ (n : Int)) = false := by simp; omega
          clear hkr hkc hkeep
          go_wp2_with fail
          go_region_held3 (fun w' => w'.cell? ⟨q, 0, none⟩ = some (.slice (some ⟨g, 0, none⟩) m cap2) ∧ w'.cell? ⟨p, 1, none⟩ = some (.map (some bm)) ∧ w'.there g (x * 64) 64) (first | assumption | go_keep_ranges) (fail)
          have HZ := hid (HK.out _ (hid rfl))
          go_wp2_with fail
          go_roundw
          case rel => exact ⟨k + 1, by omega, by go_num, HZ.out.1, HR.out.2.step HZ.out.2⟩
          case measure => simp [intOf']; omega
        · have d1 : decide ((k : Int) ≥ (n : Int)) = true := by simp; omega
          clear hkr hkeep
          go_wp2_with fail
          go_region_held3 (fun w' => w'.cell? ⟨q, 0, none⟩ = some (.slice (some ⟨g, 0, none⟩) m cap2) ∧ w'.cell? ⟨p, 1, none⟩ = some (.map (some bm)) ∧ w'.there g (x * 64) 64) (first | assumption | go_keep_ranges) (fail)
          have HZ := hid (HK.out _ (hid rfl))
          go_wp2_with fail
          go_roundw
          case rel => exact ⟨k + 1, by omega, by go_num, HZ.out.1, HR.out.2.step HZ.out.2⟩
          case measure => simp [intOf']; omega
    · obtain rfl : k = c := by omega
      go_wp2_with fail
      go_ret
      have hBw : Below w.heap.size w w2 := HB1.out.1.trans (HB2.out.2.mono HB1.out.1.size)
      have hB3 : Below w.heap.size w w3 := hBw.trans (HV.out.2.mono hBw.size)
      have hBr : Below w.heap.size w wr := hB3.trans (HR.out.2.below hB3.size HB1.out.2)
      have hs : ∀ j : Nat, j < M.now.length → M.loose.getD j false = false → M.safe.getD j [] = M.now.getD j [] := by
        obtain ⟨D, _, hD⟩ := HX.out.1.map
        exact hD.same
      have e1 : Dv.of (crS M ks k) = M.crash ks := by rw [crash_of M HX.out.1.ok ks, ← crS_all HX.out.1.ok hs ks, HC.out]
      have := HR.out.1
      rw [e1] at this
      have hsz := HB1.out.1.size
      have hqq := HQ.out
      exact ⟨q, g, cap2, w1.heap.size, rfl, by omega, HB1.out.2, hsz, this, hBr⟩
theorem crash_nil (v : Value) (w : World) : Calls Tryd.prog 13 #[.pointer none, v] w fun e w' => e = .returned (.pointer none) ∧ w = w' := by
  go_enter Tryd.func13, Tryd.ntmps13
  go_wp2_with fail
  go_ret
  exact ⟨rfl, rfl⟩
end Go.Proofs.YtpfcopdckjedfaaDoor
