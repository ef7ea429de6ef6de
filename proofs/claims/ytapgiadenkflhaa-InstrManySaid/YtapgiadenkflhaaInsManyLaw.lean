/- InstrMany: the walk. -/
import Derived.Test.YtapgiadenkflhaaInsBody
import Derived.Test.YtapgiadenkflhaaInsSlice
import Derived.Test.YtapgiadenkflhaaInsAllLaw
namespace Go.Proofs.Ytapgiadenkflhaa
open Go.RowKit

def mayII (I : Ins) : Bool := mayI I.op I.a I.b I.l
def encII (I : Ins) : List Int := encI I.op I.a I.b I.l
def encMs (js : List Ins) : List Int := js.flatMap encII
def keep (js : List Ins) : List Ins := js.filter mayII
theorem keep_snoc (js : List Ins) (I : Ins) : keep (js ++ [I]) = if mayII I then keep js ++ [I] else keep js := by
  unfold keep
  rw [List.filter_append]
  by_cases h : mayII I = true <;> simp [h]
theorem keep_may {js : List Ins} {I : Ins} (h : I ∈ keep js) : mayII I = true ∧ I ∈ js := by
  unfold keep at h
  simp at h
  exact ⟨h.2, h.1⟩
theorem keep_len (js : List Ins) : (keep js).length ≤ js.length := List.length_filter_le _ _
theorem encMs_snoc (js : List Ins) (I : Ins) : encMs (js ++ [I]) = encMs js ++ encII I := by simp [encMs]
theorem encMs_len : ∀ js : List Ins, (∀ I ∈ js, mayII I = true) → (encMs js).length ≤ js.length * 20001
  | [], _ => by simp [encMs]
  | I :: r, h => by
    have h1 := encMs_len r (fun J hJ => h J (by simp [hJ]))
    have h2 := h I (by simp)
    have h3 := tailI_len (sh I.op) I.a I.b I.l (Nat.le_trans (may_len h2) (by decide))
    simp [encMs, encII, encI] at h1 ⊢
    omega
theorem cutI_ok {I : Ins} (h : okI I) : okI (cutI I) := h
theorem RdP.okAll {w : World} {C : Addr → Prop} {ao : Option Addr} {n cap : Nat} {is : List Ins} (h : RdP w C ao n cap is) : ∀ I ∈ is, okI I := by
  intro I hI
  obtain ⟨i, hi, rfl⟩ := List.getElem_of_mem hI
  have := h.ok i (by rw [← h.len]; exact hi)
  simpa [List.getD, hi] using this

set_option maxHeartbeats 2000000 in
theorem instrMany_walk (ao : Option Addr) (n cap : Nat) (is : List Ins) (C : Addr → Prop) (w : World) (hr : RdP w C ao n cap is) :
    Calls Try.prog 6 #[.slice ao n cap] w fun e w' => e = .returned (.bool true) ∧ Below w.heap.size w w' := by
  have hn63 : n ≤ 9223372036854775807 := by have h1 := hr.le; have h2 := hr.max; unfold maxLen at h2; omega
  have Hr := hid hr
  clear hr
  go_enter Try.func6, Try.ntmps6
  go_wp2_with fail
  refine (begun_to _).mono ?_
  rintro e w0 ⟨rfl, hb⟩
  have Hr0 := hid (Hr.out.below hb)
  have HB0 := hid hb
  have hok := Hr0.out.okAll
  clear hb Hr
  go_wp2_with fail
  refine (body_to C ao n cap is w0 Hr0.out).mono ?_
  rintro e w1 ⟨v, rfl, hown, hb⟩
  have HB1 := hid (Bl.step HB0.out hb)
  obtain ⟨IL, hIL⟩ : ∃ IL, IL = (is.take 30).map cutI := ⟨_, rfl⟩
  have hl30 : IL.length ≤ 30 := by rw [hIL]; simp; omega
  have hokL : ∀ I ∈ IL, okI I := by
    intro I hI
    rw [hIL] at hI
    obtain ⟨J, hJ, rfl⟩ := List.mem_map.1 hI
    exact cutI_ok (hok J (List.mem_of_mem_take hJ))
  rw [← hIL] at hown
  obtain ⟨ao1, cap1, rfl, hr1⟩ := hown.rd hokL
  have HOK := hid hokL
  have HR1 := hid hr1
  obtain ⟨n1, hn1⟩ : ∃ n1, n1 = IL.length := ⟨_, rfl⟩
  rw [← hn1] at HR1 hl30 ⊢
  have HN1 := hid hn1
  clear hb hok hokL hIL hown hr1 Hr0 HB0 hn1 hn63
  go_wp2_with fail
  go_loopw [4, 5, 6] (fun b m i wr => ∃ k : Nat, k ≤ n1 ∧ i = .int .i64 k ∧ Own 5 .u8 w1.heap.size wr b (encMs (keep (IL.take k))) ∧ OwnP w1.heap.size wr m (keep (IL.take k)) ∧ (∀ g, m.ownBlock = some g → b.ownBlock ≠ some g) ∧ Below w1.heap.size w1 wr) (fun _ _ i _ => n1 - (intOf i).toNat)
  case atStart => exact ⟨0, Nat.zero_le _, rfl, by simpa [keep, encMs] using Own.nil _ _ _ _, by simpa [keep] using OwnP.nil _ _, by simp [Value.ownBlock], Below.refl _ _⟩
  case round =>
    obtain ⟨k, hkn, rfl, hob, hom, hne, hb⟩ := hrel
    have HOB := hid hob
    have HOM := hid hom
    have HNE := hid hne
    have HB2 := hid hb
    clear hob hom hne hb
    by_cases hk : k < n1
    · obtain ⟨b, off, lo, ln, lc, rfl, c0, c1, c2, c3, hrl, hlo⟩ := (HR1.out.below HB2.out).cell k hk
      have hs := take_ins (is := IL) (k := k) (by rw [← HN1.out]; exact hk)
      have hok := HR1.out.ok k hk
      obtain ⟨⟨op, p, q, l⟩, hI⟩ : ∃ I, I = IL.getD k default := ⟨_, rfl⟩
      rw [← hI] at c0 c1 c2 hrl hs hok
      simp only at c0 c1 c2 hrl
      have hp : -9223372036854775808 ≤ p ∧ p ≤ 9223372036854775807 := hok
      have Hs := hid hs
      have Hrl := hid hrl
      have hlb := World.block_lt_of_cell? _ _ c0
      obtain ⟨t, ht⟩ : ∃ t, mayI op p q l = t := ⟨_, rfl⟩
      have HT := hid ht
      have HLO := hid hlo
      clear hI hs hrl hok ht hlo
      go_wp2_with fail
      refine (mayInstr_to op p q lo ln lc l t HT.out _ Hrl.out).mono ?_
      rintro e w2 ⟨rfl, hb⟩
      have HB3 := hid (Bl.step HB2.out hb)
      have HOB3 := hid (HOB.out.below hb (Nat.le_refl _))
      have HOM3 := hid (HOM.out.below hb (Nat.le_refl _))
      have Hrl3 := hid (Hrl.out.below hb)
      obtain ⟨e0, e1, e2, e3⟩ : w2.cell? ⟨b, off + k * 4, none⟩ = some (.int .i64 op) ∧ w2.cell? ⟨b, off + k * 4 + 1, none⟩ = some (.int .i64 p) ∧ w2.cell? ⟨b, off + k * 4 + 2, none⟩ = some (.int .i64 q) ∧ w2.cell? ⟨b, off + k * 4 + 3, none⟩ = some (.slice lo ln lc) :=
        ⟨(hb.cell (p := ⟨b, off + k * 4, none⟩) hlb).trans c0, (hb.cell (p := ⟨b, off + k * 4 + 1, none⟩) hlb).trans c1, (hb.cell (p := ⟨b, off + k * 4 + 2, none⟩) hlb).trans c2, (hb.cell (p := ⟨b, off + k * 4 + 3, none⟩) hlb).trans c3⟩
      clear hb hlb c0 c1 c2 c3 HOB HOM Hrl
      cases t
      · go_wp2_with fail
        go_roundw
        case rel =>
          have hkp : keep (IL.take (k + 1)) = keep (IL.take k) := by
            rw [Hs.out, keep_snoc, if_neg (by have := HT.out; simp [mayII, this])]
          refine ⟨k + 1, by omega, by go_num, ?_, ?_, HNE.out, HB3.out⟩
          · rw [hkp]
            exact HOB3.out
          · rw [hkp]
            exact HOM3.out
        case measure => simp [intOf]; omega
      · have hkp : keep (IL.take (k + 1)) = keep (IL.take k) ++ [⟨op, p, q, l⟩] := by
          rw [Hs.out, keep_snoc, if_pos (by have := HT.out; simp [mayII, this])]
        have hkl : (keep (IL.take k)).length ≤ k := by
          have h1 := keep_len (IL.take k)
          have h2 : (IL.take k).length ≤ k := by simp; omega
          omega
        have hkm : ∀ I ∈ keep (IL.take k), mayII I = true := fun I h => (keep_may h).1
        obtain ⟨js, hjs⟩ : ∃ js, js = keep (IL.take k) := ⟨_, rfl⟩
        rw [← hjs] at hkp hkl hkm HOB3 HOM3
        have HKP := hid hkp
        have hml := encMs_len js hkm
        clear hkp hkm hjs
        obtain ⟨ps, hps, hrow, hin⟩ := HOM3.out.below (Bl.alloc (Bl.refl w2) (.cells #[.int .i64 op, .int .i64 p, .int .i64 q, .slice lo ln lc] 24)) (Nat.le_refl _)
        have hpl : ps.length = js.length := by have := congrArg List.length hps; simpa using this
        have hps30 : ps.length ≤ 30 := by omega
        have HPS := hid hps
        have HROW := hid hrow
        have HIN := hid hin
        have hold : ∀ g, u5.ownBlock = some g → w1.heap.size ≤ g ∧ g < w2.heap.size := HOM3.out.lt
        have hsz3 := HB3.out.size
        have hrb := HOB3.out.rd
        obtain ⟨bo, bc, rfl, hrb⟩ := hrb
        have hblt := HOB3.out.lt
        have HRB := hid (hrb.below (Bl.alloc (Bl.refl w2) (.cells #[.int .i64 op, .int .i64 p, .int .i64 q, .slice lo ln lc] 24)))
        clear hps hrow hin hrb
        obtain ⟨i0', hi0, hz0, hz1, hz2⟩ := info_parts infoIns
        go_wp2_with (at_builtin; apply stopHere)
        refine hid ?_
        refine wpList_append_lies _ rfl (.tmp 27) (.tmp 32) 41 rfl w1.heap.size 24 i0' _ 4 48 Try.underlying41 hi0 hz0 hz1 hz2 rfl (by decide) u5 ps.length _ rfl HROW.out ⟨w2.heap.size, 0, none⟩ 1 1 [.int .i64 op, .int .i64 p, .int .i64 q, .slice lo ln lc] rfl rfl (World.news_of_block (heap_alloc_new w2 _)) (by simp [Value.oneCell']) (by decide) (by unfold maxLen; omega) (by omega) (by simp; omega) (w2.heap.size + 1) (by simp) ?_
        intro g cap2 w3 o2 g2 hg2 _
        have HO4 := hid (OwnP.step HPS.out HIN.out ⟨op, p, q, lo, ln, lc, l⟩ (Hrl3.out.below (Bl.alloc (Bl.refl _) _)) (fun ad ha => ⟨by have := HLO.out ad ha; simp; omega, fun e => by have := (hold _ e).1; have := HLO.out ad ha; omega⟩) o2 g2 hg2 (by simp))
        have HB4 := hid (grow_below HB3.out (Bl.alloc (Bl.refl w2) _) g2 (fun b hb => (hold b hb).1) hsz3)
        have HRB4 := hid (HRB.out.grown g2 (fun ad ha e => HNE.out _ e (by rw [ha]; rfl)))
        have Hrl4 := hid ((Hrl3.out.below (Bl.alloc (Bl.refl w2) (.cells #[.int .i64 op, .int .i64 p, .int .i64 q, .slice lo ln lc] 24))).grown g2 (fun ad ha e => by have := (hold _ e).1; have := HLO.out ad ha; omega))
        have hbK : b < w1.heap.size := by
          obtain ⟨b', off', _, _, _, e, c, _⟩ := HR1.out.cell k hk
          cases e
          exact World.block_lt_of_cell? _ _ c
        have hsame : ∀ o, w3.cell? ⟨b, o, none⟩ = w2.cell? ⟨b, o, none⟩ := fun o => (HB4.out.cell (p := ⟨b, o, none⟩) hbK).trans (HB3.out.cell (p := ⟨b, o, none⟩) hbK).symm
        rw [← hsame] at e0 e1 e2 e3
        have hsz4 := HB4.out.size
        clear o2 g2 hg2 hsame hbK HRB HIN HROW HPS HOM3 hi0 hz0 hz1 hz2 Hrl3
        go_wp2_with fail
        refine (put_to bo _ bc _ op p q lo ln lc l w3 HT.out hp HRB4.out (by omega) Hrl4.out).mono ?_
        rintro e w4 ⟨v, rfl, hv, hb⟩
        have HB5 := hid (HB4.out.trans (hb.mono hsz4))
        have HO5 := hid (HO4.out.below hb (Nat.le_refl _))
        have HV5 := hid (hv.lift (base' := w1.heap.size) hsz4)
        have hvg : ∀ x, v.ownBlock = some x → w3.heap.size ≤ x := fun x hx => (hv.lt x hx).1
        have hgg : g < w3.heap.size := (HO4.out.lt g rfl).2
        clear hv hb HO4 HRB4 Hrl4
        go_wp2_with fail
        go_roundw
        case rel =>
          refine ⟨k + 1, by omega, by go_num, ?_, ?_, ?_, HB5.out⟩
          · rw [HKP.out, encMs_snoc]
            exact HV5.out
          · rw [HKP.out, ← hpl]
            exact HO5.out
          · intro x hx e
            have := hvg x e
            simp [Value.ownBlock] at hx
            omega
        case measure => simp [intOf]; omega
    · have hkn1 : k = n1 := by omega
      subst hkn1
      rw [List.take_of_length_le (by rw [← HN1.out]; exact Nat.le_refl _)] at HOB HOM
      have hkl := keep_len IL
      have hkm : ∀ I ∈ keep IL, mayII I = true := fun I h => (keep_may h).1
      have hko : ∀ I ∈ keep IL, okI I := fun I h => HOK.out I (keep_may h).2
      obtain ⟨js, hjs⟩ : ∃ js, js = keep IL := ⟨_, rfl⟩
      rw [← hjs] at hkl hkm hko HOB HOM
      obtain ⟨mo, mc, rfl, hrm⟩ := HOM.out.rd hko
      obtain ⟨bo, bc, rfl, hrb⟩ := HOB.out.rd
      obtain ⟨mn, hmn⟩ : ∃ mn, mn = js.length := ⟨_, rfl⟩
      have hml := encMs_len js hkm
      rw [← hmn] at hrm hkl hml ⊢
      have hmn30 : mn ≤ 30 := by rw [← HN1.out] at hkl; omega
      obtain ⟨bn, hbn⟩ : ∃ bn, bn = (encMs js).length := ⟨_, rfl⟩
      rw [← hbn] at hrb hml ⊢
      have HRM := hid hrm
      have HRB := hid hrb
      have HKM := hid hkm
      have HKO := hid hko
      have HMN := hid hmn
      have HBR := hid (HB1.out.trans (HB2.out.mono HB1.out.size))
      clear hrm hrb hkm hko hjs hmn hbn HOB HOM HNE HB2 HR1 HOK HN1 HB1
      obtain ⟨W2, hW2⟩ : ∃ W2, W2 = wr := ⟨_, rfl⟩
      subst hW2
      go_wp2_with fail
      go_loopw [4, 7] (fun b i wx => ∃ j : Nat, j ≤ mn ∧ i = .int .i64 j ∧ ∃ bo bn bc, b = .slice bo bn bc ∧ Rd .u8 wx bo bn bc (encMs (js.drop j)) ∧ bn ≤ 600030 ∧ Below W2.heap.size W2 wx) (fun _ i _ => mn - (intOf i).toNat)
      case atStart => exact ⟨0, Nat.zero_le _, rfl, bo, bn, bc, rfl, by simpa using HRB.out, by omega, Below.refl _ _⟩
      case round =>
        obtain ⟨j, hjn, rfl, bo', bn', bc', rfl, hrb, hbn, hb⟩ := hrel
        have HRB2 := hid hrb
        have HB2 := hid hb
        clear hrb hb
        by_cases hj : j < mn
        · obtain ⟨b, off, lo, ln, lc, rfl, c0, c1, c2, c3, hrl, _⟩ := (HRM.out.below HB2.out).cell j hj
          have hlb := World.block_lt_of_cell? _ _ c0
          have hjl : j < js.length := by rw [← HMN.out]; exact hj
          have hds : js.drop j = js.getD j default :: js.drop (j + 1) := by
            rw [List.drop_eq_getElem_cons hjl]
            simp [List.getD, hjl]
          have hmem : js.getD j default ∈ js := by
            simp only [List.getD, List.getElem?_eq_getElem hjl, Option.getD_some]
            exact List.getElem_mem hjl
          obtain ⟨⟨op, p, q, l⟩, hI⟩ : ∃ I, I = js.getD j default := ⟨_, rfl⟩
          rw [← hI] at c0 c1 c2 hrl hds hmem
          simp only at c0 c1 c2 hrl
          have HT : Hid (mayI op p q l = true) := hid (HKM.out _ hmem)
          have hp : -9223372036854775808 ≤ p ∧ p ≤ 9223372036854775807 := HKO.out _ hmem
          obtain ⟨rest, hrest⟩ : ∃ r, r = encMs (js.drop (j + 1)) := ⟨_, rfl⟩
          have hen : encMs (js.drop j) = encI op p q l ++ rest := by
            rw [hds, hrest]
            simp [encMs, encII]
          rw [hen] at HRB2
          obtain ⟨cl, hcl⟩ : ∃ cl, cl = (encI op p q l).length := ⟨_, rfl⟩
          have hgt : getI (encI op p q l ++ rest) = (⟨op, p, q, l⟩, cl, 0) := by
            rw [hcl]
            exact getI_enc op p q l rest HT.out hp
          have hbl : bn' = cl + rest.length := by
            have := HRB2.out.len
            rw [List.length_append, ← hcl] at this
            exact this.symm
          have hcr := HRB2.out.cut cl bn' (by omega) (Nat.le_refl _)
          have hdr : ((encI op p q l ++ rest).take bn').drop cl = rest := by
            rw [List.take_of_length_le (by rw [HRB2.out.len]; exact Nat.le_refl _), hcl]
            simp
          rw [hdr] at hcr
          have hbc := HRB2.out.le
          have hbc63 := HRB2.out.cap63
          have hcut := run_cut_l 25 elem_b size_b bo' bn' bc' (cl : Int) cl rfl (by omega)
          obtain ⟨el, hel2⟩ : ∃ el, el = bn' - cl := ⟨_, rfl⟩
          obtain ⟨ec, hec2⟩ : ∃ ec, ec = bc' - cl := ⟨_, rfl⟩
          obtain ⟨eo, heo2⟩ : ∃ eo, eo = cutAt bo' cl bc' := ⟨_, rfl⟩
          rw [← hel2, ← hec2, ← heo2] at hcr hcut
          have HC2 := hid hcr
          have HREST := hid hrest
          have HGT := hid hgt
          have Hrl := hid hrl
          have HCUT := hid hcut
          have hel30 : el ≤ 600030 := by omega
          have hclb : cl ≤ bn' := by omega
          clear hcut hdr hcr hbl hgt hcl hen hrest hds hmem hI hrl hel2 hec2 heo2
          go_wp2_with fail
          refine (get_to bo' _ bc' _ _ HRB2.out _ cl 0 HGT.out).mono ?_
          rintro e w3 ⟨zo, zn, zc, rfl, hown, hb⟩
          have HB3 := hid (HB2.out.trans (hb.mono HB2.out.size))
          have HC3 := hid (HC2.out.below hb)
          have Hrl3 := hid (Hrl.out.below hb)
          have HZ3 := hid hown.rdAt
          have HX4 := hid (Box4.new w3 op p q zo zn zc 24)
          have HB4 := hid (Bl.alloc HB3.out (.cells #[.int .i64 op, .int .i64 p, .int .i64 q, .slice zo zn zc] 24))
          have HC4 := hid (HC3.out.below (Bl.alloc (Bl.refl w3) (.cells #[.int .i64 op, .int .i64 p, .int .i64 q, .slice zo zn zc] 24)))
          have Hrl4 := hid (Hrl3.out.below (Bl.alloc (Bl.refl w3) (.cells #[.int .i64 op, .int .i64 p, .int .i64 q, .slice zo zn zc] 24)))
          have HZ4 := hid (HZ3.out.below (Bl.alloc (Bl.refl w3) (.cells #[.int .i64 op, .int .i64 p, .int .i64 q, .slice zo zn zc] 24)))
          obtain ⟨e0, e1, e2, e3⟩ : w3.cell? ⟨b, off + j * 4, none⟩ = some (.int .i64 op) ∧ w3.cell? ⟨b, off + j * 4 + 1, none⟩ = some (.int .i64 p) ∧ w3.cell? ⟨b, off + j * 4 + 2, none⟩ = some (.int .i64 q) ∧ w3.cell? ⟨b, off + j * 4 + 3, none⟩ = some (.slice lo ln lc) :=
            ⟨(hb.cell (p := ⟨b, off + j * 4, none⟩) hlb).trans c0, (hb.cell (p := ⟨b, off + j * 4 + 1, none⟩) hlb).trans c1, (hb.cell (p := ⟨b, off + j * 4 + 2, none⟩) hlb).trans c2, (hb.cell (p := ⟨b, off + j * 4 + 3, none⟩) hlb).trans c3⟩
          have hlb3 : b < w3.heap.size := Nat.lt_of_lt_of_le hlb hb.size
          clear hb hown c0 c1 c2 c3 hlb HRB2 HGT HC2 Hrl HB2 HB3 HC3 Hrl3 HZ3
          simp only
          go_wp2_with fail
          have hal := Bl.alloc (Bl.refl w3) (.cells #[.int .i64 op, .int .i64 p, .int .i64 q, .slice zo zn zc] 24)
          have d0 := (hal.cell (p := ⟨b, off + j * 4, none⟩) hlb3).trans e0
          have d1 := (hal.cell (p := ⟨b, off + j * 4 + 1, none⟩) hlb3).trans e1
          have d2 := (hal.cell (p := ⟨b, off + j * 4 + 2, none⟩) hlb3).trans e2
          have d3 := (hal.cell (p := ⟨b, off + j * 4 + 3, none⟩) hlb3).trans e3
          have hlb4 : b < (w3.alloc (.cells #[.int .i64 op, .int .i64 p, .int .i64 q, .slice zo zn zc] 24)).heap.size := Nat.lt_of_lt_of_le hlb3 hal.size
          obtain ⟨w4, hw4⟩ : ∃ w4, w4 = w3.alloc (.cells #[.int .i64 op, .int .i64 p, .int .i64 q, .slice zo zn zc] 24) := ⟨_, rfl⟩
          rw [← hw4] at HX4 HB4 HC4 Hrl4 HZ4 d0 d1 d2 d3 hlb4 ⊢
          obtain ⟨X, hX⟩ : ∃ X, X = w3.heap.size := ⟨_, rfl⟩
          rw [← hX] at HX4 ⊢
          clear hal hw4 hX e0 e1 e2 e3 hlb3
          have hlx := HX4.out.lt
          obtain ⟨c0, c1, c2, c3⟩ := HX4.out
          have hgt : ¬ ((bn' : Int) < (cl : Int)) := by omega
          refine wp_region_quiet_below (by kernel_rfl) (by kernel_rfl) ?_
          have hbc := fun x => @Bw.cell w4 x
          repeat (go_big_quiet_step (first
            | (go_at_call 14; exact Calls.bw (eqInstr_to op p q zo zn zc l op p q lo ln lc l true (eqI_refl _ _ _ _) _ (HZ4.out.below (Bw.h _)) (Hrl4.out.below (Bw.h _))))))
          refine wpQuiet_nil ?_
          rintro _ ⟨x, rfl⟩
          have HB5 := hid (HB4.out.trans (x.h.mono HB4.out.size))
          have HC5 := hid (HC4.out.below x.h)
          clear hbc c0 c1 c2 c3 d0 d1 d2 d3 hlx hlb4 HX4 Hrl4 HZ4 HB4 HC4
          generalize x.w = w5 at HB5 HC5 ⊢
          have hcut := HCUT.out
          go_wp2_with fail
          go_roundw
          case rel =>
            refine ⟨j + 1, by omega, by go_num, eo, el, ec, rfl, ?_, hel30, HB5.out⟩
            rw [← HREST.out]
            exact HC5.out
          case measure => simp [intOf]; omega
        · have hjm : j = mn := by omega
          subst hjm
          have hd : js.drop j = [] := List.drop_eq_nil_of_le (by rw [← HMN.out]; exact Nat.le_refl _)
          rw [hd] at HRB2
          have hz : bn' = 0 := HRB2.out.len.symm
          subst hz
          go_wp2_with fail
          go_ret
          exact ⟨rfl, HBR.out.trans (HB2.out.mono HBR.out.size)⟩
end Go.Proofs.Ytapgiadenkflhaa
