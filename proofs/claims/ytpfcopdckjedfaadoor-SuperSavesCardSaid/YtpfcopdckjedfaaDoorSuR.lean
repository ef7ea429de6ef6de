/- super: a record as a sector's bytes: encoded. Written by gensur.py. -/
import Derived.Test.YtpfcopdckjedfaaDoorSuM
import Derived.Test.YtpfcopdckjedfaaDoorCatB
import Derived.Test.YtpfcopdckjedfaaDoorAppZ
import Derived.Test.YtpfcopdckjedfaaDoorKCR
import Derived.Test.YtpfcopdckjedfaaDoorBytesEq
namespace Go.Proofs.YtpfcopdckjedfaaDoor
open Go.RowKit
set_option linter.unusedVariables false
set_option maxHeartbeats 1000000 in
theorem pkBytes_to (ao : Option Addr) (n cap : Nat) (b : List Int) (w : World) (h : Rd .u8 w ao n cap b) (hn : n ≤ 1000000) : Calls Tryd.prog 43 #[.slice ao n cap] w fun e w' => ∃ v, e = .returned v ∧ Own 5 .u8 w.heap.size w' v (bytE b) ∧ Below w.heap.size w w' := by
  have hbl := h.len
  have hc := h.cap63
  have HR := hid h
  have hl : (numE (n : Int)).length ≤ 10 := encU_len 9 _
  obtain ⟨z, hz⟩ : ∃ z, numE (n : Int) = z := ⟨_, rfl⟩
  have HZ := hid hz
  have HN := hid hbl
  have hpk := fun w => pkNumber_to (n : Int) w (by omega) (by omega)
  rw [hz] at hl hpk
  clear h hbl hz
  go_enter Tryd.func43, Tryd.ntmps43
  go_wp2_with fail
  refine (hpk _).mono ?_
  rintro e w1 ⟨v, rfl, hv, hb⟩
  have HV := hid hv
  have HB := hid hb
  clear hv hb hpk
  go_wp2_with (at_builtin; refine wpList_append_rd rfl (.tmp 5) (.tmp 6) 30 rfl 5 .u8 w.heap.size 1 Tryd.underlying30 infoU8 _ z rfl HV.out ao n cap b rfl (HR.out.below HB.out) (by omega) (by omega) HB.out.size ?_; intro v2 w2 h3 h4 _)
  go_ret
  exact ⟨_, rfl, by unfold bytE; rw [HN.out, show encU 9 (n : Int) = z from HZ.out]; exact h3, HB.out.trans h4⟩
theorem wf_u8' {x : Int} (h : 0 ≤ x ∧ x ≤ 255) : (Lit.int .u8 x).wf = true := by simp only [Lit.wf, show IntKind.u8.min = 0 from rfl, show IntKind.u8.max = 255 from rfl, Bool.and_eq_true, decide_eq_true_eq]; exact h
theorem stopAt' {p : Prop} (h : Hid p) : p := h.out
theorem le_b (s k : Nat) (hs : s < 4294967296) : IntKind.u8.wrap ((s : Int) / 2 ^ k) = ((s / 2 ^ k % 256 : Nat) : Int) := by
  have e : ((s : Int) / 2 ^ k) = ((s / 2 ^ k : Nat) : Int) := by simp
  rw [e, IntKind.wrap_u8]
  omega
set_option maxRecDepth 100000 in
set_option maxHeartbeats 1000000 in
theorem encoded_to (t : Int) (ao : Option Addr) (n cap : Nat) (b : List Int) (w : World) (h : Rd .u8 w ao n cap b) (hb : b.length ≤ 40) (q0 : -9223372036854775808 ≤ t) (q1 : t ≤ 9223372036854775807) (hL : Laid w) : Calls Tryd.prog 32 #[.agg #[.int .i64 t, .slice ao n cap]] w fun e w' => ∃ v, e = .returned v ∧ Own 5 .u8 w.heap.size w' v (recE t b) ∧ Below w.heap.size w w' := by
  obtain ⟨b1, hb1⟩ : ∃ b1, encS 9 t = b1 := ⟨_, rfl⟩
  have lb1 : b1.length ≤ 100000000 := by rw [← hb1]; exact (by have := encS_len 9 t; omega)
  have EB1 := hid hb1
  obtain ⟨b2, hb2⟩ : ∃ b2, bytE b = b2 := ⟨_, rfl⟩
  have lb2 : b2.length ≤ 100000000 := by rw [← hb2]; exact (by have := bytE_len hb; omega)
  have EB2 := hid hb2
  have l1 : b1.length ≤ 10 := by rw [← hb1]; exact encS_len 9 t
  have l2 : b2.length ≤ 41 := by rw [← hb2]; exact bytE_len hb
  have HR := hid h
  have HL := hid hL
  have hn : n ≤ 40 := by rw [← h.len]; exact hb
  have HZ : Hid (b1 ++ b2 ++ List.replicate (60 - (b1 ++ b2).length) 0 = recZ t b) := hid (by rw [← hb1, ← hb2]; rfl)
  have HE : Hid (recE t b = recZ t b ++ le4 (crcOf 0 (recZ t b))) := hid rfl
  obtain ⟨i0, hi0, hz0, hz1, hz2⟩ := info_parts infoU8
  have HI := hid (And.intro hi0 (And.intro hz0 (And.intro hz1 hz2)))
  have HC0 := hid (Cel.new w [.int .i64 t, .slice ao n cap] 52)
  have HB0 : Hid (Below w.heap.size w (w.alloc (.cells #[.int .i64 t, .slice ao n cap] 52))) := hid (Bl.alloc (Bl.refl w) _)
  clear hb1 hb2 h hL hb
  go_enter Tryd.func32, Tryd.ntmps32
  go_wp2_with fail
  refine wp_region_below_tail 6 (by kernel_rfl) [Is ?vA0, Is (.int .i64 t), IsRd .u8 b1, Is ?vA3, Is (.slice ao n cap), IsRd .u8 b2] _ rfl (by kernel_rfl) rfl (by kernel_rfl) ?hopA ?hstA ?hendA
  case hopA =>
    refine ⟨rq _ _ _ [(1, .pointer (some ⟨w.heap.size, 0, none⟩))] ⟨⟨by kernel_rfl, rfl⟩, trivial⟩ ?_, ?_⟩
    · intro a w1 hC e1
      refine Or.inl ⟨_, ?_, rfl⟩
      go_simp
      rfl
    refine ⟨rq _ _ _ [] trivial ?_, ?_⟩
    · intro a w1 hC  (h0 : a.tmps.getD 5 undef = _)
      refine Or.inl ⟨.int .i64 t, ?_, rfl⟩
      have bc := HC0.out.below (Nat.succ_pos _) hC
      have hcw0 := bc.cell 0 _ rfl
      clear bc
      go_simp
    refine ⟨rq _ _ _ [] trivial ?_, ?_⟩
    · intro a w1 hC  (h1 : a.tmps.getD 6 undef = _)
      refine Or.inr (Or.inl ⟨42, #[.int .i64 t], ?_, ?_⟩)
      · go_simp
      · refine (pkSigned_to t w1 q0 q1).mono ?_
        rintro e w2 ⟨vv, rfl, hown, hbel⟩
        rw [EB1.out] at hown
        obtain ⟨ao1, cap1, rfl, hrd⟩ := hown.rd
        exact ⟨_, rfl, ⟨ao1, cap1, rfl, hrd⟩, hbel⟩
    refine ⟨rq _ _ _ [(1, .pointer (some ⟨w.heap.size, 0, none⟩))] ⟨⟨by kernel_rfl, rfl⟩, trivial⟩ ?_, ?_⟩
    · intro a w1 hC e1
      refine Or.inl ⟨_, ?_, rfl⟩
      go_simp
      rfl
    refine ⟨rq _ _ _ [] trivial ?_, ?_⟩
    · intro a w1 hC  (h3 : a.tmps.getD 8 undef = _)
      refine Or.inl ⟨.slice ao n cap, ?_, rfl⟩
      have bc := HC0.out.below (Nat.succ_pos _) hC
      have hcw0 := bc.cell 1 _ rfl
      clear bc
      go_simp
    refine ⟨rq _ _ _ [] trivial ?_, ?_⟩
    · intro a w1 hC  (h4 : a.tmps.getD 9 undef = _) h2
      refine Or.inr (Or.inl ⟨43, #[.slice ao n cap], ?_, ?_⟩)
      · go_simp
      · refine (pkBytes_to ao n cap b w1 (HR.out.below (Bl.step HB0.out hC)) (by omega)).mono ?_
        rintro e w2 ⟨vv, rfl, hown, hbel⟩
        rw [EB2.out] at hown
        obtain ⟨ao1, cap1, rfl, hrd⟩ := hown.rd
        exact ⟨_, rfl, ⟨ao1, cap1, rfl, hrd⟩, hbel⟩
    exact trivial
  case hstA => repeat (first | exact trivial | refine ⟨Stays.is _, ?_⟩ | refine ⟨Stays.rd _ _, ?_⟩)
  case hendA =>
    intro w1 hC
    rintro _ rfl _ rfl
    intro x2 h2
    rintro _ rfl _ rfl
    intro x5 h5
    obtain ⟨ao0, cap0, rfl, hr0⟩ := h2
    obtain ⟨ao1, cap1, rfl, hr1⟩ := h5
    simp only [Ends, Act.put, List.setIfInBounds_toArray, List.set_cons_succ, List.set_cons_zero, List.drop_succ_cons, List.drop_zero]
    have hp := pieces_of (w := w1) [⟨ao0, b1.length, cap0, b1⟩, ⟨ao1, b2.length, cap1, b2⟩] (by
      intro p hp
      simp at hp
      rcases hp with rfl | rfl
      · exact hr0
      · exact hr1
      ) 30
    have hcc := concat_to _ 0 _ 2 _ rfl (by decide) hp (by simp [lens]; omega)
    have HCC := hid hcc
    have HB1 := hid (Bl.step HB0.out hC)
    clear hp hcc hC hr0 hr1
    go_wp2_with fail
    refine HCC.out.mono ?_
    rintro e w3 ⟨v3, rfl, hv3, hb3⟩
    have HB3 := hid (Bl.step (Bl.alloc HB1.out _) hb3)
    have HV3 := hid (hv3.lift (Bl.alloc HB1.out _).size)
    simp only [cats, List.append_nil] at HV3
    clear hv3 hb3 HCC
    obtain ⟨ao3, cap3, rfl, _⟩ := HV3.out.rd
    have hc3 := HV3.out.rd
    obtain ⟨m, hm⟩ : ∃ m, (b1 ++ b2).length = m := ⟨_, rfl⟩
    have hm60 : m ≤ 51 := by rw [← hm, List.length_append]; omega
    obtain ⟨v4, w4, hrz, hv4, hg4⟩ := run_append_own_zeros (P := Tryd.prog) w3 w.heap.size 30 3 30 5 i0 .i64 Tryd.underlying30 Tryd.underlying3 HI.out.1 HI.out.2.1 HI.out.2.2.1 HI.out.2.2.2 _ _ HV3.out (60 - m) (by omega) (by rw [hm]; omega) HB3.out.size
    have HB4 : Hid (Below w.heap.size w w4) := hid (HB3.out.grown hg4 HB3.out.size fun k hk => (HV3.out.lt k hk).1)
    have HZ' := HZ.out
    rw [hm] at HZ'
    rw [HZ'] at hv4
    have HV4 := hid hv4
    rw [hm] at hrz
    have hk0 : IntKind.i64.wrap (60 - (m : Int)) = ((60 - m : Nat) : Int) := by rw [IntWalk.i64_in _ (by omega)]; omega
    rw [hm]
    clear hv4 hg4 hm hc3 HV3 HB3 HZ' hi0 hz0 hz1 hz2
    go_wp2_with (at_builtin; refine Lib.wpList_append_run _ rfl _ _ _ _ rfl _ _ rfl rfl _ _ hrz ?_)
    have hz60 : (recZ t b).length = 60 := recZ_len t (by rw [HR.out.len]; exact hn)
    obtain ⟨z, hz⟩ : ∃ z, recZ t b = z := ⟨_, rfl⟩
    rw [hz] at hz60 HV4 HE
    obtain ⟨ao4, cap4, rfl, hr4⟩ := HV4.out.rd
    have HR4 := hid hr4
    have HZ4 := hid hz60
    rw [hz60] at HR4 HV4 ⊢
    clear hr4 hz60 hz hrz hk0 HZ
    refine (sum_any ao4 60 cap4 z w4 HR4.out (HL.out.below HB4.out)).mono ?_
    rintro e w' ⟨rfl, rfl⟩
    obtain ⟨s, hs⟩ : ∃ s, crcOf 0 z = s := ⟨_, rfl⟩
    have hs1 : s < 4294967296 := by rw [← hs]; exact crc_lt 0 z
    rw [hs] at HE ⊢
    obtain ⟨c0, hc0⟩ : ∃ c : Int, ((s % 256 : Nat) : Int) = c := ⟨_, rfl⟩
    obtain ⟨c1, hc1⟩ : ∃ c : Int, ((s / 256 % 256 : Nat) : Int) = c := ⟨_, rfl⟩
    obtain ⟨c2, hc2⟩ : ∃ c : Int, ((s / 65536 % 256 : Nat) : Int) = c := ⟨_, rfl⟩
    obtain ⟨c3, hc3⟩ : ∃ c : Int, ((s / 16777216 % 256 : Nat) : Int) = c := ⟨_, rfl⟩
    have e0 : IntKind.u8.wrap (s : Int) = c0 := by rw [IntKind.wrap_u8, ← hc0]; omega
    have e1 : IntKind.u8.wrap ((s : Int) / 256) = c1 := by rw [IntKind.wrap_u8, ← hc1]; omega
    have e2 : IntKind.u8.wrap ((s : Int) / 65536) = c2 := by rw [IntKind.wrap_u8, ← hc2]; omega
    have e3 : IntKind.u8.wrap ((s : Int) / 16777216) = c3 := by rw [IntKind.wrap_u8, ← hc3]; omega
    have HW : Hid (∀ x ∈ [c0, c1, c2, c3], (Lit.int .u8 x).wf = true) := hid (by intro x hx; apply wf_u8'; simp only [List.mem_cons, List.not_mem_nil, or_false] at hx; rcases hx with rfl | rfl | rfl | rfl <;> omega)
    have HE4 : Hid (recE t b = z ++ [c0, c1, c2, c3]) := hid (by rw [HE.out, ← hc0, ← hc1, ← hc2, ← hc3]; rfl)
    clear hc0 hc1 hc2 hc3 HE hs
    go_wp2_with (at_builtin; apply stopAt')
    refine hid ?_
    refine wpList_append_rd rfl (.tmp 20) (.tmp 32) 30 rfl 5 .u8 w.heap.size 1 Tryd.underlying30 infoU8 _ z rfl (HV4.out.below (Bl.alloc (Bl.refl _) _) (Nat.le_refl _)) (some ⟨w4.heap.size, 0, none⟩) 4 4 [c0, c1, c2, c3] rfl (Rd.builtAll w4 .u8 5 (0, 0) [c0, c1, c2, c3] (by show 4 ≤ maxLen; unfold maxLen; omega) HW.out) (by rw [HZ4.out]; omega) (by rw [HZ4.out]; omega) (by have := HB4.out.size; simp; omega) ?_
    intro v5 w5 h5 h6 _
    have H5 := hid h5
    have H6 := hid (((Bl.alloc HB4.out (.cells #[.int .u8 c0, .int .u8 c1, .int .u8 c2, .int .u8 c3] 5))).trans h6)
    clear h5 h6
    go_wp2_with fail
    go_ret
    exact ⟨_, rfl, by rw [HE4.out]; exact H5.out, H6.out⟩

end Go.Proofs.YtpfcopdckjedfaaDoor
