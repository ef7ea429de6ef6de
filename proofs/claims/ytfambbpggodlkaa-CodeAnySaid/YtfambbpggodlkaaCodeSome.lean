/- diapauselaw6.some: where no body is read there is none. -/
import Derived.Test.YtfambbpggodlkaaCodeGetM
import Derived.Test.YtfambbpggodlkaaCodeRefMatch
import Derived.Test.YtfambbpggodlkaaInsGetT
namespace Go.Proofs.Ytfambbpggodlkaa
open Go.RowKit

theorem getB_bad {xs : List Int} {acc : List Ins} {n : Nat} (h : readB 301 xs [] 0 0 = (acc, n, 0)) (hb : (getB xs).2.2 ≠ 0) : fits (opsI acc) = none := by
  unfold getB at hb
  rw [h] at hb
  simp only [if_pos] at hb
  cases hf : fits (opsI acc) with
  | none => rfl
  | some bl => rw [hf] at hb; simp at hb

set_option maxHeartbeats 4000000 in
theorem some_to (bo : Option Addr) (m bc : Nat) (xs : List Int) (w : World) (hr : Rd .u8 w bo m bc xs) (hbad : (getB xs).2.2 ≠ 0) :
    Calls Try.prog 33 #[.slice bo m bc] w fun e w' => e = .returned (.bool false) ∧ Below w.heap.size w w' := by
  have Hr := hid hr
  have HBAD := hid hbad
  have HBS : Hid (Bs xs) := hid (fun x hx => bounds_u8 (hr.wf x hx))
  obtain ⟨r, hres⟩ : ∃ r, r = readB 301 xs [] 0 0 := ⟨_, rfl⟩
  have HRES := hid hres
  clear hr hres hbad
  go_enter Try.func33, Try.ntmps33
  go_wp2_with fail
  go_loopw [0, 3, 4, 5] (fun b v d i wr => ∃ (acc : List Ins) (at' : Nat) (dd : Int) (f : Nat) (bo' : Option Addr) (bn bc' : Nat), b = .slice bo' bn bc' ∧ i = .int .i64 (acc.length : Int) ∧ d = .int .i64 dd ∧ at' ≤ xs.length ∧ f + acc.length = 301 ∧ -acc.length ≤ dd ∧ dd ≤ acc.length ∧ Hid (r = readB f xs acc at' dd) ∧ Hid (∀ w', Below w.heap.size w w' → Rd .u8 w' bo' bn bc' (xs.drop at')) ∧ OwnP w.heap.size wr v acc ∧ (∀ I ∈ acc, okI I) ∧ Below w.heap.size w wr) (fun _ _ _ i _ => 301 - (intOf i).toNat)
  case atStart => exact ⟨[], 0, 0, 301, bo, m, bc, rfl, rfl, rfl, Nat.zero_le _, rfl, by simp, by simp, HRES, hid (fun w' h => by simpa using Hr.out.below h), OwnP.nil _ _, (fun _ h => by cases h), Below.refl _ _⟩
  case round =>
    obtain ⟨acc, at', dd, f, bo', bn, bc', rfl, rfl, rfl, ham, hf, hd0, hd1, HR2, HQ, hown, hok, hb⟩ := hrel
    have HO := hid hown
    have HB := hid hb
    have HOK := hid hok
    have HRD := hid (HQ.out wr hb)
    have hszr := hb.size
    obtain ⟨an, han⟩ : ∃ an, an = acc.length := ⟨_, rfl⟩
    rw [← han] at hf hd0 hd1 ⊢
    have HAN := hid han
    clear hown hb hok han
    by_cases hle : an ≤ 300
    · obtain ⟨f, rfl⟩ : ∃ g, f = g + 1 := ⟨f - 1, by omega⟩
      have hlei : (an : Int) ≤ 300 := by omega
      obtain ⟨⟨op, p, q, l⟩, k, er, hg⟩ : ∃ I k er, getI (xs.drop at') = (I, k, er) := ⟨_, _, _, rfl⟩
      have HG := hid hg
      have hk : er = 0 → okI ⟨op, p, q, l⟩ ∧ k ≤ bn := fun he => by
        subst he
        obtain ⟨_, g2, _, g4, g5⟩ := getI_conv (HBS.out.drop _) HG.out
        rw [HRD.out.len] at g5
        exact ⟨g2, g5⟩
      have HK := hid hk
      clear hg hk
      go_wp2_with fail
      refine (refGet_to bo' bn bc' (xs.drop at') wr HRD.out ⟨op, p, q, l⟩ k er HG.out).mono ?_
      rintro e w1 ⟨lo, ln, lc, rfl, hl, hb1⟩
      have HL := hid hl
      have HO1 := hid (HO.out.below hb1 (Nat.le_refl _))
      have HB1 := hid (HB.out.trans (hb1.mono hszr))
      have HRD1 := hid (HRD.out.below hb1)
      have hsz1 := hb1.size
      have hfar : ∀ ad, lo = some ad → wr.heap.size ≤ ad.block ∧ ad.block < w1.heap.size := fun ad ha => hl.lt ad.block (by rw [ha]; rfl)
      have HFAR := hid hfar
      have HOLD := hid HO.out.lt
      clear hl hb1 hfar HO HB HRD
      simp only
      by_cases he : er = 0
      · subst he
        obtain ⟨hokI, hkm⟩ := HK.out rfl
        have HKI := hid hokI
        have hcr := HRD1.out.cut k bn hkm (Nat.le_refl _)
        have hbl := HRD1.out.len
        have hbc63 := HRD1.out.cap63
        have hbcle := HRD1.out.le
        rw [List.take_of_length_le (by rw [hbl]; exact Nat.le_refl _), List.drop_drop] at hcr
        have hcut := run_cut_l 41 elem_b size_b bo' bn bc' (k : Int) k rfl hkm
        obtain ⟨co, hco⟩ : ∃ co, co = cutAt bo' k bc' := ⟨_, rfl⟩
        obtain ⟨cn, hcn⟩ : ∃ cn, cn = bn - k := ⟨_, rfl⟩
        obtain ⟨cc, hcc⟩ : ∃ cc, cc = bc' - k := ⟨_, rfl⟩
        have hatk : at' + k ≤ xs.length := by simp at hbl; omega
        rw [← hco, ← hcn, ← hcc] at hcr hcut
        have HCR := hid hcr
        have HQ2 : Hid (∀ w', Below w.heap.size w w' → Rd .u8 w' co cn cc (xs.drop (at' + k))) := hid (fun w' h => by
          have h1 := (HQ.out w' h).cut k bn hkm (Nat.le_refl _)
          rw [List.take_of_length_le (by rw [hbl]; exact Nat.le_refl _), List.drop_drop, ← hco, ← hcn, ← hcc] at h1
          exact h1)
        clear hokI HK hcr hbl hco hcn hcc HRD1
        obtain ⟨uo, uc, rfl, _⟩ := HO1.out.rd HOK.out
        rw [← HAN.out] at HO1 HOLD ⊢
        by_cases hend : op = 11 ∧ dd = 0
        · obtain ⟨rfl, rfl⟩ := hend
          have hr2 := HR2.out
          rw [readB_end HG.out rfl rfl, HRES.out] at hr2
          have HF := hid (getB_bad hr2 HBAD.out)
          obtain ⟨uo', uc', hue, hru⟩ := (HO1.out.below (Bl.alloc (Bl.refl w1) (.cells #[.int .i64 11, .int .i64 p, .int .i64 q, .slice lo ln lc] 39)) (Nat.le_refl _)).rd HOK.out
          rw [← HAN.out] at hue hru
          cases hue
          have HRU := hid hru
          clear hr2 hru
          go_wp2_with fail
          refine (refMatch_to _ uo an uc acc _ HRU.out (by omega)).mono ?_
          rintro e w3 ⟨v3, rfl, hv3, hb3⟩
          obtain ⟨_, _, rfl, _, _, _⟩ := hv3.shape
          have HB3 := hid ((Below.alloc HB1.out (by omega) (.cells #[.int .i64 11, .int .i64 p, .int .i64 q, .slice lo ln lc] 39)).trans (hb3.mono (by simp; omega)))
          rw [HF.out]
          clear hv3 hb3
          go_wp2_with fail
          go_ret
          exact ⟨rfl, HB3.out⟩
        · have htst : (op == 11) = false ∨ ((op == 11) = true ∧ (dd == 0) = false) := by
            by_cases h1 : op = 11
            · exact .inr ⟨by simp [h1], by simp; exact fun h => hend ⟨h1, h⟩⟩
            · exact .inl (by simp [h1])
          have hr2 : r = readB f xs (acc ++ [⟨op, p, q, l⟩]) (at' + k) (dd + turnI op) := by
            have hr2 := HR2.out
            by_cases h300 : an = 300
            · rw [readB_full HG.out hend (by rw [← HAN.out]; exact h300)] at hr2
              have hf0 : f = 0 := by omega
              rw [hr2, hf0]
              rfl
            · rw [readB_go HG.out hend (by rw [← HAN.out]; exact h300)] at hr2
              exact hr2
          have HR3 := hid hr2
          have hcase : ((op == 2) = true ∧ (op == 11) = false ∧ turnI op = 1) ∨ ((op == 2) = false ∧ (op == 3) = true ∧ (op == 11) = false ∧ turnI op = 1) ∨ ((op == 2) = false ∧ (op == 3) = false ∧ (op == 4) = true ∧ (op == 11) = false ∧ turnI op = 1) ∨
              ((op == 2) = false ∧ (op == 3) = false ∧ (op == 4) = false ∧ (op == 11) = true ∧ (dd == 0) = false ∧ turnI op = -1) ∨ ((op == 2) = false ∧ (op == 3) = false ∧ (op == 4) = false ∧ (op == 11) = false ∧ turnI op = 0) := by
            have htI : ∀ x y : Int, op = x → turnI x = y → turnI op = y := fun x y e h => by rw [e]; exact h
            by_cases h2 : op = 2
            · exact .inl ⟨by simp [h2], by simp [h2], htI 2 1 h2 rfl⟩
            by_cases h3 : op = 3
            · exact .inr (.inl ⟨by simp [h2], by simp [h3], by simp [h3], htI 3 1 h3 rfl⟩)
            by_cases h4 : op = 4
            · exact .inr (.inr (.inl ⟨by simp [h2], by simp [h3], by simp [h4], by simp [h4], htI 4 1 h4 rfl⟩))
            by_cases h11 : op = 11
            · refine .inr (.inr (.inr (.inl ⟨by simp [h2], by simp [h3], by simp [h4], by simp [h11], ?_, htI 11 (-1) h11 rfl⟩)))
              rcases htst with h1 | h1
              · simp [h11] at h1
              · exact h1.2
            · refine .inr (.inr (.inr (.inr ⟨by simp [h2], by simp [h3], by simp [h4], by simp [h11], ?_⟩)))
              unfold turnI
              rw [if_neg (by simp [begins, h2, h3, h4]), if_neg h11]
          have HE := hid hend
          clear hr2 hend htst HR2
          obtain ⟨tn, htn⟩ : ∃ tn, tn = turnI op := ⟨_, rfl⟩
          rw [← htn] at hcase
          have HTN := hid htn
          obtain ⟨ps, hps, hrow, hin⟩ := (HO1.out.below (Bl.alloc (Bl.refl w1) (.cells #[.int .i64 op, .int .i64 p, .int .i64 q, .slice lo ln lc] 39)) (Nat.le_refl _)).below (Bl.alloc (Bl.refl _) (.cells #[.int .i64 op, .int .i64 p, .int .i64 q, .slice lo ln lc] 39)) (Nat.le_refl _)
          have hpl : ps.length = an := by have := congrArg List.length hps; simp at this; rw [HAN.out]; exact this
          rw [hpl] at hrow
          have HPS := hid hps
          have HROW := hid hrow
          have HIN := hid hin
          have HPL := hid hpl
          have HRL := hid ((HL.out.rdAt.below (Bl.alloc (Bl.refl w1) (.cells #[.int .i64 op, .int .i64 p, .int .i64 q, .slice lo ln lc] 39))).below (Bl.alloc (Bl.refl _) (.cells #[.int .i64 op, .int .i64 p, .int .i64 q, .slice lo ln lc] 39)))
          clear hps hrow hin hpl htn HL HO1
          obtain ⟨i0', hi0, hz0, hz1, hz2⟩ := info_parts infoIns
          rcases hcase with ⟨e2, e11, rfl⟩ | ⟨e2, e3, e11, rfl⟩ | ⟨e2, e3, e4, e11, rfl⟩ | ⟨e2, e3, e4, e11, h2, rfl⟩ | ⟨e2, e3, e4, e11, rfl⟩
          all_goals
            go_wp2_with (at_builtin; apply stopHere)
            refine hid ?_
            refine wpList_append_lies _ rfl (.tmp 51) (.tmp 53) 22 rfl w.heap.size 39 i0' _ 4 48 Try.underlying22 hi0 hz0 hz1 hz2 rfl (by decide) (.slice uo an uc) an _ rfl HROW.out ⟨w1.heap.size + 1, 0, none⟩ 1 1 [.int .i64 op, .int .i64 p, .int .i64 q, .slice lo ln lc] (by simp [Act.eval]) rfl (fun j u hu => by have := World.news_of_block (heap_alloc_new (w1.alloc (.cells #[.int .i64 op, .int .i64 p, .int .i64 q, .slice lo ln lc] 39)) (.cells #[.int .i64 op, .int .i64 p, .int .i64 q, .slice lo ln lc] 39)) j u hu; simpa using this) (by simp [Value.oneCell']) (by decide) (by unfold maxLen; omega) (by omega) (by simp; omega) (w1.heap.size + 1 + 1) (by simp) ?_
            intro g cap2 w2 o2 g2 hg2 _
            have HO2 := hid (OwnP.step HPS.out HIN.out ⟨op, p, q, lo, ln, lc, l⟩ HRL.out (fun ad ha => ⟨by have := (HFAR.out ad ha).2; simp; omega, fun e => by have := (HOLD.out _ e).2; have := (HFAR.out ad ha).1; omega⟩) (by rw [HPL.out]; exact o2) g2 hg2 (by simp))
            have HB2 := hid (grow_below HB1.out (Bl.alloc (Bl.alloc (Bl.refl w1) (.cells #[.int .i64 op, .int .i64 p, .int .i64 q, .slice lo ln lc] 39)) (.cells #[.int .i64 op, .int .i64 p, .int .i64 q, .slice lo ln lc] 39)) g2 (fun b hb => (HOLD.out b hb).1) (by omega))
            clear o2 g2 hg2 HROW HIN HPS hi0 hz0 hz1 hz2
            go_wp2_with fail
            go_roundw
            case rel =>
              refine ⟨acc ++ [⟨op, p, q, l⟩], at' + k, _, f, co, cn, cc, rfl, by rw [List.length_append, ← HAN.out]; go_num, rfl, hatk, by simp; rw [← HAN.out]; omega, by simp; rw [← HAN.out]; omega, by simp; rw [← HAN.out]; omega, ?_, ?_, ?_, ?_, HB2.out⟩
              · have hq := HR3.out
                rw [← HTN.out] at hq
                first | exact hid hq | (simp at hq; exact hid hq)
              · exact HQ2
              · have := HO2.out
                rw [HPL.out] at this
                exact this
              · intro I hI
                rcases List.mem_append.1 hI with hI | hI
                · exact HOK.out I hI
                · simp at hI; rw [hI]; exact HKI.out
            case measure => simp [intOf]; omega
      · have he' : (er != 0) = true := by simp [he]
        go_wp2_with fail
        go_ret
        exact ⟨rfl, Below.alloc HB1.out (by omega) _⟩
    · have hlei : ¬ (an : Int) ≤ 300 := by omega
      go_wp2_with fail
      go_ret
      exact ⟨rfl, HB.out⟩
end Go.Proofs.Ytfambbpggodlkaa
