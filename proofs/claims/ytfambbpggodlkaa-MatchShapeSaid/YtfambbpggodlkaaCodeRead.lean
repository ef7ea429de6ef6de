/- code.read, code.Get: a body out of bytes. -/
import Derived.Test.YtfambbpggodlkaaInsConv
import Derived.Test.YtfambbpggodlkaaCodeMatch
namespace Go.Proofs.Ytfambbpggodlkaa
open Go.RowKit

def turnI (op : Int) : Int := if begins op = true then 1 else if op = 11 then -1 else 0
/-- What read answers: the instructions so far, where it stands, how deep. -/
noncomputable def readB : Nat → List Int → List Ins → Nat → Int → List Ins × Nat × Int
  | 0, _, _, _, _ => ([], 0, 4)
  | f + 1, xs, acc, at', d =>
    if (getI (xs.drop at')).2.2 = 0 then
      (if (getI (xs.drop at')).1.op = 11 ∧ d = 0 then (acc, at' + (getI (xs.drop at')).2.1, 0)
       else if acc.length = 300 then ([], 0, 4)
       else readB f xs (acc ++ [(getI (xs.drop at')).1]) (at' + (getI (xs.drop at')).2.1) (d + turnI (getI (xs.drop at')).1.op))
    else ([], 0, (getI (xs.drop at')).2.2)
theorem readB_err {f : Nat} {xs : List Int} {acc : List Ins} {at' : Nat} {d : Int} {I : Ins} {k : Nat} {er : Int} (h : getI (xs.drop at') = (I, k, er)) (he : er ≠ 0) : readB (f + 1) xs acc at' d = ([], 0, er) := by
  rw [readB, h]; simp only; rw [if_neg he]
theorem readB_end {f : Nat} {xs : List Int} {acc : List Ins} {at' : Nat} {d : Int} {I : Ins} {k : Nat} (h : getI (xs.drop at') = (I, k, 0)) (ho : I.op = 11) (hd : d = 0) : readB (f + 1) xs acc at' d = (acc, at' + k, 0) := by
  rw [readB, h]; simp only; rw [if_pos trivial, if_pos ⟨ho, hd⟩]
theorem readB_full {f : Nat} {xs : List Int} {acc : List Ins} {at' : Nat} {d : Int} {I : Ins} {k : Nat} (h : getI (xs.drop at') = (I, k, 0)) (ho : ¬ (I.op = 11 ∧ d = 0)) (hl : acc.length = 300) : readB (f + 1) xs acc at' d = ([], 0, 4) := by
  rw [readB, h]; simp only; rw [if_pos trivial, if_neg ho, if_pos hl]
theorem readB_go {f : Nat} {xs : List Int} {acc : List Ins} {at' : Nat} {d : Int} {I : Ins} {k : Nat} (h : getI (xs.drop at') = (I, k, 0)) (ho : ¬ (I.op = 11 ∧ d = 0)) (hl : acc.length ≠ 300) : readB (f + 1) xs acc at' d = readB f xs (acc ++ [I]) (at' + k) (d + turnI I.op) := by
  rw [readB, h]; simp only; rw [if_pos trivial, if_neg ho, if_neg hl]

theorem turn_to (op t : Int) (h : turnI op = t) (w : World) : Calls Try.prog 45 #[.int .i64 op] w fun e w' => e = .returned (.int .i64 t) ∧ w = w' := by
  subst h
  unfold turnI
  cases hb : begins op with
  | true =>
    have HB := hid hb
    clear hb
    go_enter Try.func45, Try.ntmps45
    go_wp2_with fail
    refine (begins_to op true HB.out w).mono ?_
    rintro e w' ⟨rfl, rfl⟩
    go_wp2_with fail
    go_ret
    exact ⟨rfl, rfl⟩
  | false =>
    have HB := hid hb
    clear hb
    cases h11 : (op == 11) with
    | true =>
      have : op = 11 := by simpa using h11
      subst this
      go_enter Try.func45, Try.ntmps45
      go_wp2_with fail
      refine (begins_to 11 false HB.out w).mono ?_
      rintro e w' ⟨rfl, rfl⟩
      go_wp2_with fail
      go_ret
      exact ⟨rfl, rfl⟩
    | false =>
      have h2 : ¬ op = 11 := by simpa using h11
      rw [if_neg h2]
      clear h2
      go_enter Try.func45, Try.ntmps45
      go_wp2_with fail
      refine (begins_to op false HB.out w).mono ?_
      rintro e w' ⟨rfl, rfl⟩
      go_wp2_with fail
      go_ret
      exact ⟨rfl, rfl⟩

/-- What read and Get answer. -/
def BRes (r : List Ins × Nat × Int) (w : World) (e : Ending) (w' : World) : Prop :=
  ∃ v, e = .returned (.tuple #[v, .int .i64 r.2.1, .int .i64 r.2.2]) ∧ OwnP w.heap.size w' v r.1 ∧ (∀ I ∈ r.1, okI I) ∧ r.1.length ≤ 300 ∧ Below w.heap.size w w'

theorem turnI_bd (op : Int) : -1 ≤ turnI op ∧ turnI op ≤ 1 := by
  unfold turnI
  split
  · omega
  · split <;> omega

set_option maxHeartbeats 2000000 in
theorem read_to (bo : Option Addr) (m bc : Nat) (xs : List Int) (w : World) (hr : Rd .u8 w bo m bc xs) :
    Calls Try.prog 31 #[.slice bo m bc] w (BRes (readB 301 xs [] 0 0) w) := by
  have hc63 := hr.cap63
  have hle := hr.le
  have Hr := hid hr
  have Hx := hid hr.len
  have HBS : Hid (Bs xs) := hid (fun x hx => bounds_u8 (hr.wf x hx))
  obtain ⟨r, hres⟩ : ∃ r, r = readB 301 xs [] 0 0 := ⟨_, rfl⟩
  rw [← hres]
  have HRES := hid hres
  clear hr hres
  go_enter Try.func31, Try.ntmps31
  go_wp2_with fail
  go_loopw [5, 6, 7] (fun v a d wr => ∃ (acc : List Ins) (at' : Nat) (dd : Int) (f : Nat), a = .int .i64 at' ∧ d = .int .i64 dd ∧ at' ≤ m ∧ f + acc.length = 301 ∧ -acc.length ≤ dd ∧ dd ≤ acc.length ∧ acc.length ≤ 300 ∧ Hid (r = readB f xs acc at' dd) ∧ OwnP w.heap.size wr v acc ∧ (∀ I ∈ acc, okI I) ∧ Below w.heap.size w wr) (fun _ a _ _ => m - (intOf a).toNat)
  case atStart => exact ⟨[], 0, 0, 301, rfl, rfl, Nat.zero_le _, rfl, by simp, by simp, by simp, HRES, OwnP.nil _ _, (fun _ h => by cases h), Below.refl _ _⟩
  case round =>
    obtain ⟨acc, at', dd, f, rfl, rfl, ham, hf, hd0, hd1, hal, HR2, hown, hok, hb⟩ := hrel
    have HO := hid hown
    have HB := hid hb
    have HOK := hid hok
    have hszr := hb.size
    obtain ⟨f, rfl⟩ : ∃ g, f = g + 1 := ⟨f - 1, by omega⟩
    obtain ⟨an, han⟩ : ∃ an, an = acc.length := ⟨_, rfl⟩
    rw [← han] at hf hd0 hd1 hal
    have HAN := hid han
    clear hown hb hok han
    have hcr := (Hr.out.below HB.out).cut at' m ham (Nat.le_refl _)
    rw [List.take_of_length_le (by rw [Hx.out]; exact Nat.le_refl _)] at hcr
    have hcut := run_cut_l 41 elem_b size_b bo m bc (at' : Int) at' rfl ham
    obtain ⟨co, hco⟩ : ∃ co, co = cutAt bo at' bc := ⟨_, rfl⟩
    obtain ⟨cn, hcn⟩ : ∃ cn, cn = m - at' := ⟨_, rfl⟩
    obtain ⟨cc, hcc⟩ : ∃ cc, cc = bc - at' := ⟨_, rfl⟩
    rw [← hco, ← hcn, ← hcc] at hcr hcut
    obtain ⟨⟨op, p, q, l⟩, k, er, hg⟩ : ∃ I k er, getI (xs.drop at') = (I, k, er) := ⟨_, _, _, rfl⟩
    have HG := hid hg
    have HCR := hid hcr
    have hk : er = 0 → okI ⟨op, p, q, l⟩ ∧ 1 ≤ k ∧ at' + k ≤ m := fun he => by
      subst he
      obtain ⟨_, g2, _, g4, g5⟩ := getI_conv (HBS.out.drop _) HG.out
      simp [Hx.out] at g5
      exact ⟨g2, g4, by omega⟩
    have HK := hid hk
    clear hco hcn hcc hg hcr hk
    go_wp2_with fail
    refine (get_to co cn cc (xs.drop at') wr HCR.out ⟨op, p, q, l⟩ k er HG.out).mono ?_
    rintro e w1 ⟨lo, ln, lc, rfl, hl, hb1⟩
    have HL := hid hl
    have HO1 := hid (HO.out.below hb1 (Nat.le_refl _))
    have HB1 := hid (HB.out.trans (hb1.mono hszr))
    have hsz1 := hb1.size
    have hfar : ∀ ad, lo = some ad → wr.heap.size ≤ ad.block ∧ ad.block < w1.heap.size := fun ad ha => hl.lt ad.block (by rw [ha]; rfl)
    have HFAR := hid hfar
    have hold := HO.out.lt
    have HOLD := hid hold
    clear hl hb1 hcut hfar hold HO HB HCR
    simp only
    by_cases he : er = 0
    · subst he
      obtain ⟨hokI, hk1, hkm⟩ := HK.out rfl
      have HKI := hid hokI
      clear hokI HK
      by_cases hend : op = 11 ∧ dd = 0
      · obtain ⟨rfl, rfl⟩ := hend
        have hr2 := HR2.out
        rw [readB_end HG.out rfl rfl] at hr2
        have HR3 := hid hr2
        clear hr2
        go_wp2_with fail
        refine bodyPost_ret (v := .tuple #[u5, .int .i64 ((at' + k : Nat) : Int), .int .i64 0]) (by simp [results, Try.results31, go_sem]) rfl ?_
        rw [HR3.out]
        exact ⟨_, rfl, HO1.out.below (Bl.alloc (Bl.refl _) _) (Nat.le_refl _), HOK.out, by rw [← HAN.out]; exact hal, Below.alloc HB1.out (by omega) _⟩
      · have htst : (op == 11) = false ∨ ((op == 11) = true ∧ (dd == 0) = false) := by
          by_cases h1 : op = 11
          · exact .inr ⟨by simp [h1], by simp; exact fun h => hend ⟨h1, h⟩⟩
          · exact .inl (by simp [h1])
        by_cases h300 : an = 300
        · have hr2 := HR2.out
          rw [readB_full HG.out hend (by rw [← HAN.out]; exact h300)] at hr2
          have HR3 := hid hr2
          clear hr2 hend
          obtain ⟨uo, uc, rfl, _⟩ := HO1.out.rd HOK.out
          rw [← HAN.out]
          subst h300
          rcases htst with h1 | ⟨h1, h2⟩
          all_goals
            go_wp2_with fail
            refine bodyPost_ret (v := .tuple #[.slice none 0 0, .int .i64 ((0 : Nat) : Int), .int .i64 4]) (by simp [results, Try.results31, go_sem]) rfl ?_
            rw [HR3.out]
            exact ⟨_, rfl, OwnP.nil _ _, (fun _ h => by cases h), by simp, Below.alloc HB1.out (by omega) _⟩
        · have hr2 := HR2.out
          rw [readB_go HG.out hend (by rw [← HAN.out]; exact h300)] at hr2
          have HR3 := hid hr2
          have han3 : an < 300 := by omega
          have h300' : ((an : Int) == 300) = false := by simp; omega
          have HE := hid hend
          clear hr2 hend h300 HR2
          obtain ⟨tn, htn⟩ : ∃ tn, turnI op = tn := ⟨_, rfl⟩
          have htb := turnI_bd op
          rw [htn] at htb
          have HTN := hid htn
          obtain ⟨uo, uc, rfl, _⟩ := HO1.out.rd HOK.out
          rw [← HAN.out] at HO1 HOLD ⊢
          obtain ⟨ps, hps, hrow, hin⟩ := (HO1.out.below (Bl.alloc (Bl.refl w1) (.cells #[.int .i64 op, .int .i64 p, .int .i64 q, .slice lo ln lc] 39)) (Nat.le_refl _)).below (Bl.alloc (Bl.refl _) (.cells #[.int .i64 op, .int .i64 p, .int .i64 q, .slice lo ln lc] 39)) (Nat.le_refl _)
          have hpl : ps.length = an := by have := congrArg List.length hps; simp at this; rw [HAN.out]; exact this
          rw [hpl] at hrow
          have HPS := hid hps
          have HROW := hid hrow
          have HIN := hid hin
          have HPL := hid hpl
          have HRL := hid ((HL.out.rdAt.below (Bl.alloc (Bl.refl w1) (.cells #[.int .i64 op, .int .i64 p, .int .i64 q, .slice lo ln lc] 39))).below (Bl.alloc (Bl.refl _) (.cells #[.int .i64 op, .int .i64 p, .int .i64 q, .slice lo ln lc] 39)))
          clear hps hrow hin hpl htn HL HO1
          have hBX := Box4.new w1 op p q lo ln lc 39
          obtain ⟨i0', hi0, hz0, hz1, hz2⟩ := info_parts infoIns
          rcases htst with h1 | ⟨h1, h2⟩
          all_goals
            go_wp2_with (at_builtin; apply stopHere)
            refine hid ?_
            refine wpList_append_lies _ rfl (.tmp 37) (.tmp 39) 22 rfl w.heap.size 39 i0' _ 4 48 Try.underlying22 hi0 hz0 hz1 hz2 rfl (by decide) (.slice uo an uc) an _ rfl HROW.out ⟨w1.heap.size + 1, 0, none⟩ 1 1 [.int .i64 op, .int .i64 p, .int .i64 q, .slice lo ln lc] (by simp [Act.eval]) rfl (fun j u hu => by have := World.news_of_block (heap_alloc_new (w1.alloc (.cells #[.int .i64 op, .int .i64 p, .int .i64 q, .slice lo ln lc] 39)) (.cells #[.int .i64 op, .int .i64 p, .int .i64 q, .slice lo ln lc] 39)) j u hu; simpa using this) (by simp [Value.oneCell']) (by decide) (by unfold maxLen; omega) (by omega) (by simp; omega) (w1.heap.size + 1 + 1) (by simp) ?_
            intro g cap2 w2 o2 g2 hg2 _
            have hbx := (hBX.below (Bl.alloc (Bl.refl _) (.cells #[.int .i64 op, .int .i64 p, .int .i64 q, .slice lo ln lc] 39))).c0
            have e0 : w2.cell? ⟨w1.heap.size, 0, none⟩ = some (.int .i64 op) := g2.cell hbx (fun e => by have := (HOLD.out _ e.symm).2; simp only at this; omega)
            have HO2 := hid (OwnP.step HPS.out HIN.out ⟨op, p, q, lo, ln, lc, l⟩ HRL.out (fun ad ha => ⟨by have := (HFAR.out ad ha).2; simp; omega, fun e => by have := (HOLD.out _ e).2; have := (HFAR.out ad ha).1; omega⟩) (by rw [HPL.out]; exact o2) g2 hg2 (by simp))
            have HB2 := hid (grow_below HB1.out (Bl.alloc (Bl.alloc (Bl.refl w1) (.cells #[.int .i64 op, .int .i64 p, .int .i64 q, .slice lo ln lc] 39)) (.cells #[.int .i64 op, .int .i64 p, .int .i64 q, .slice lo ln lc] 39)) g2 (fun b hb => (HOLD.out b hb).1) (by omega))
            clear o2 g2 hg2 hbx HROW HIN HPS hBX hi0 hz0 hz1 hz2
            go_wp2_with fail
            refine (turn_to op tn HTN.out w2).mono ?_
            rintro e w' ⟨rfl, rfl⟩
            go_wp2_with fail
            go_roundw
            case rel =>
              refine ⟨acc ++ [⟨op, p, q, l⟩], at' + k, dd + tn, f, by go_num, by go_num, hkm, by simp; rw [← HAN.out]; omega, by simp; rw [← HAN.out]; omega, by simp; rw [← HAN.out]; omega, by simp; rw [← HAN.out]; omega, ?_, ?_, ?_, HB2.out⟩
              · have hq := HR3.out
                simp only [HTN.out] at hq
                exact hid hq
              · have := HO2.out
                rw [HPL.out] at this
                exact this
              · intro I hI
                rcases List.mem_append.1 hI with hI | hI
                · exact HOK.out I hI
                · simp at hI; rw [hI]; exact HKI.out
            case measure => simp [intOf]; omega
    · have he' : (er != 0) = true := by simp [he]
      have hr2 := HR2.out
      rw [readB_err HG.out he] at hr2
      have HR3 := hid hr2
      clear hr2 he
      go_wp2_with fail
      refine bodyPost_ret (v := .tuple #[.slice none 0 0, .int .i64 ((0 : Nat) : Int), .int .i64 er]) (by simp [results, Try.results31, go_sem]) rfl ?_
      rw [HR3.out]
      exact ⟨_, rfl, OwnP.nil _ _, (fun _ h => by cases h), by simp, Below.alloc HB1.out (by omega) _⟩

/-- What Get answers. -/
noncomputable def getB (xs : List Int) : List Ins × Nat × Int :=
  if (readB 301 xs [] 0 0).2.2 = 0 then (if (fits (opsI (readB 301 xs [] 0 0).1)).isSome = true then readB 301 xs [] 0 0 else ([], 0, 1)) else ([], 0, (readB 301 xs [] 0 0).2.2)

theorem getB_to (bo : Option Addr) (m bc : Nat) (xs : List Int) (w : World) (hr : Rd .u8 w bo m bc xs) :
    Calls Try.prog 22 #[.slice bo m bc] w (BRes (getB xs) w) := by
  obtain ⟨⟨l, n, er⟩, hres⟩ : ∃ r, readB 301 xs [] 0 0 = r := ⟨_, rfl⟩
  obtain ⟨⟨l', n', er'⟩, hg⟩ : ∃ r, getB xs = r := ⟨_, rfl⟩
  rw [hg]
  unfold getB at hg
  have hrd := read_to bo m bc xs w hr
  rw [hres] at hrd hg
  simp only at hg
  have HRD := hid hrd
  clear hrd hres hr
  by_cases he : er = 0
  · subst he
    simp only [if_pos] at hg
    obtain ⟨o, ho⟩ : ∃ o, o = fits (opsI l) := ⟨_, rfl⟩
    rw [← ho] at hg
    have HO := hid ho
    have HG := hid hg
    clear ho hg
    go_enter Try.func22, Try.ntmps22
    go_wp2_with fail
    refine HRD.out.mono ?_
    rintro e w1 ⟨v, rfl, hown, hok, hlen, hb⟩
    simp only at hown hok hlen ⊢
    have HOWN := hid hown
    have HB := hid hb
    have HOK := hid hok
    obtain ⟨ao, cap, rfl, hrp⟩ := hown.rd hok
    have HLEN := hid hlen
    have hm := match_to _ ao l.length cap l w1 hrp
    rw [← HO.out] at hm
    have HM := hid hm
    obtain ⟨ll, hll⟩ : ∃ ll, ll = l.length := ⟨_, rfl⟩
    rw [← hll] at HM HOWN hlen ⊢
    clear hown hok hb hrp hm hll HRD HO
    go_wp2_with fail
    refine HM.out.mono ?_
    rintro e w2 ⟨v2, rfl, _, hb2⟩
    have HB2 := hid (Bl.step HB.out hb2)
    have HO2 := hid (HOWN.out.below hb2 (Nat.le_refl _))
    clear hb2
    cases o with
    | none =>
      simp only [Option.isSome_none]
      go_wp2_with fail
      refine bodyPost_ret (v := .tuple #[.slice none 0 0, .int .i64 ((0 : Nat) : Int), .int .i64 1]) (by simp [results, Try.results22, go_sem]) rfl ?_
      have := HG.out
      simp at this
      obtain ⟨rfl, rfl, rfl⟩ := this
      exact ⟨_, rfl, OwnP.nil _ _, (fun _ h => by cases h), by simp, HB2.out⟩
    | some bl =>
      simp only [Option.isSome_some]
      go_wp2_with fail
      refine bodyPost_ret (v := .tuple #[.slice ao ll cap, .int .i64 (n : Int), .int .i64 0]) (by simp [results, Try.results22, go_sem]) rfl ?_
      have := HG.out
      simp at this
      obtain ⟨rfl, rfl, rfl⟩ := this
      exact ⟨_, rfl, HO2.out, HOK.out, HLEN.out, HB2.out⟩
  · have he' : (er != 0) = true := by simp [he]
    rw [if_neg he] at hg
    have HG := hid hg
    clear hg he
    go_enter Try.func22, Try.ntmps22
    go_wp2_with fail
    refine HRD.out.mono ?_
    rintro e w1 ⟨v, rfl, hown, hok, hlen, hb⟩
    have HB := hid hb
    clear hown hok hlen hb HRD
    simp only
    go_wp2_with fail
    refine bodyPost_ret (v := .tuple #[.slice none 0 0, .int .i64 ((0 : Nat) : Int), .int .i64 er]) (by simp [results, Try.results22, go_sem]) rfl ?_
    have := HG.out
    simp only [Prod.mk.injEq] at this
    obtain ⟨rfl, rfl, rfl⟩ := this
    exact ⟨_, rfl, OwnP.nil _ _, (fun _ h => by cases h), by simp, HB.out⟩
end Go.Proofs.Ytfambbpggodlkaa
