/- The program's reader of instructions: its methods. -/
import Derived.Test.YtfambbpggodlkaaInsRd
namespace Go.Proofs.Ytfambbpggodlkaa
open Go.RowKit

theorem elem_b : Try.prog.underlying 41 = some (.slice (Try.prog.elem 41)) := by kernel_rfl
theorem size_b (w : World) : (sizeOf (Try.prog.elem 41)).run Try.prog w = .ok 1 w := by kernel_rfl

section
variable (wB w : World) (p : Nat) (ao : Option Addr) (n cap : Nat) (xs : List Int) (s : RS) (h : Rdr wB w p ao n cap xs s)
include h

/-- What a method that returns nothing leaves. -/
def RetN (wB : World) (p : Nat) (ao : Option Addr) (n cap : Nat) (xs : List Int) (w : World) (s' : RS) (w' : World) : Prop := Rdr wB w' p ao n cap xs s' ∧ Mv p w w'

set_option maxHeartbeats 1000000 in
theorem one_to (v : Int) (s' : RS) (ho : rOne xs s = (v, s')) :
    Calls Try.prog 65 #[.pointer (some ⟨p, 0, none⟩)] w fun e w' => e = .returned (.int .u8 v) ∧ RetN wB p ao n cap xs w s' w' := by
  have hn63 : n ≤ 9223372036854775807 := by have h1 := h.rd.le; have h2 := h.rd.max; unfold maxLen at h2; omega
  obtain ⟨i, er⟩ := s
  have hx := h.rd.len
  have hi : i ≤ n := h.le
  obtain ⟨c0, c1, c2, f1, f2⟩ : w.cell? ⟨p, 0, none⟩ = some (.slice ao n cap) ∧ w.cell? ⟨p, 1, none⟩ = some (.int .i64 i) ∧ w.cell? ⟨p, 2, none⟩ = some (.int .i64 er) ∧ w.frozen? ⟨p, 1, none⟩ = false ∧ w.frozen? ⟨p, 2, none⟩ = false := ⟨h.c0, h.c1, h.c2, h.f1, h.f2⟩
  have H := hid h
  have Hx := hid hx
  clear h hx
  unfold rOne at ho
  simp only at ho
  by_cases h0 : er = 0
  · subst h0
    rw [if_pos rfl] at ho
    by_cases hn : i = n
    · rw [if_pos (by rw [Hx.out, hn])] at ho
      cases ho
      subst hn
      go_enter Try.func65, Try.ntmps65
      go_wp2
      go_quiet (fail)
      go_wp2
      go_ret
      exact ⟨rfl, (H.out.drewN nq).setErr 2, (Mv.drewN p w nq).trans (Mv.set p 2 _ _)⟩
    · rw [if_neg (by rw [Hx.out]; exact hn)] at ho
      cases ho
      have hne : ((i : Int) == (n : Int)) = false := by simp; omega
      have hlt : i < n := by omega
      obtain ⟨b, off, rfl, hc⟩ := H.out.now.at (by omega)
      have hck := hc i hlt
      have Hck := hid hck
      clear hc hck
      go_enter Try.func65, Try.ntmps65
      go_wp2
      go_quiet (fail)
      go_wp2
      have R1 : Rdr wB ((w.drewN nq).setCell ⟨p, 1, none⟩ (.int .i64 ((i : Int) + 1))) p (some ⟨b, off, none⟩) n cap xs ⟨i + 1, 0⟩ := by
        have := (H.out.drewN nq).setAt (i + 1) (by omega)
        simpa using this
      have M1 : Mv p w ((w.drewN nq).setCell ⟨p, 1, none⟩ (.int .i64 ((i : Int) + 1))) := (Mv.drewN p w nq).trans (Mv.set p 1 _ _)
      generalize (w.drewN nq).setCell ⟨p, 1, none⟩ (.int .i64 ((i : Int) + 1)) = w1 at R1 M1 ⊢
      clear c0 c1 c2 f1 f2
      have c0 := R1.c0
      have c1 : w1.cell? ⟨p, 1, none⟩ = some (.int .i64 ((i : Int) + 1)) := by have := R1.c1; simpa using this
      have hck : w1.cell? ⟨b, off + i, none⟩ = some (.int .u8 (xs.getD i 0)) := by have := R1.now.cell _ rfl i hlt; rw [Addr.add_lit] at this; exact this
      have hsub : IntKind.i64.wrap ((i : Int) + 1 - 1) = i := by rw [IntWalk.i64_in _ (by omega)]; omega
      have HR := hid R1
      have HM := hid M1
      clear R1 M1
      go_quiet (fail)
      go_wp2
      go_ret
      exact ⟨rfl, HR.out.drewN nq, HM.out.trans (Mv.drewN p _ _)⟩
  · rw [if_neg h0] at ho
    cases ho
    have h0' : (er != 0) = true := by simp [h0]
    go_enter Try.func65, Try.ntmps65
    go_wp2
    go_ret
    exact ⟨rfl, H.out, Mv.refl _ _⟩

set_option maxHeartbeats 1000000 in
theorem need_to (t : Bool) (s' : RS) (ho : need t s = s') :
    Calls Try.prog 66 #[.pointer (some ⟨p, 0, none⟩), .bool t] w fun e w' => e = .returned (.tuple #[]) ∧ RetN wB p ao n cap xs w s' w' := by
  obtain ⟨i, er⟩ := s
  obtain ⟨c2, f2⟩ : w.cell? ⟨p, 2, none⟩ = some (.int .i64 er) ∧ w.frozen? ⟨p, 2, none⟩ = false := ⟨h.c2, h.f2⟩
  have H := hid h
  clear h
  unfold need at ho
  simp only at ho
  cases t
  · by_cases h0 : er = 0
    · subst h0
      rw [if_pos ⟨rfl, rfl⟩] at ho
      cases ho
      go_enter Try.func66, Try.ntmps66
      go_wp2
      go_end0
      exact ⟨rfl, H.out.setErr 1, Mv.set p 2 _ _⟩
    · rw [if_neg (fun hh => h0 hh.2)] at ho
      cases ho
      have h0' : (er == 0) = false := by simp [h0]
      go_enter Try.func66, Try.ntmps66
      go_wp2
      go_end0
      exact ⟨rfl, H.out, Mv.refl _ _⟩
  · rw [if_neg (fun hh => by cases hh.1)] at ho
    cases ho
    go_enter Try.func66, Try.ntmps66
    go_wp2
    go_end0
    exact ⟨rfl, H.out, Mv.refl _ _⟩

set_option maxHeartbeats 1000000 in
theorem result_to (v : Int) (s' : RS) (ho : rRes xs s = (v, s')) :
    Calls Try.prog 67 #[.pointer (some ⟨p, 0, none⟩)] w fun e w' => e = .returned (.int .i64 v) ∧ RetN wB p ao n cap xs w s' w' := by
  obtain ⟨x, s1, h1⟩ : ∃ x s1, rOne xs s = (x, s1) := ⟨_, _, rfl⟩
  unfold rRes at ho
  rw [h1] at ho
  simp only at ho
  have H := hid h
  have H1 := hid h1
  have HO := hid ho
  clear h h1 ho
  go_enter Try.func67, Try.ntmps67
  go_wp2_with fail
  refine (one_to wB w p ao n cap xs s H.out x s1 H1.out).mono ?_
  rintro e w1 ⟨rfl, R1, M1⟩
  have HR := hid R1
  have HM := hid M1
  clear R1 M1
  by_cases e64 : x = 64
  · subst e64
    have hs := HO.out
    cases hs
    go_wp2_with fail
    go_ret
    exact ⟨rfl, HR.out, HM.out⟩
  by_cases e127 : x = 127
  · subst e127
    have hs := HO.out
    cases hs
    go_wp2_with fail
    go_ret
    exact ⟨rfl, HR.out, HM.out⟩
  by_cases e126 : x = 126
  · subst e126
    have hs := HO.out
    cases hs
    go_wp2_with fail
    go_ret
    exact ⟨rfl, HR.out, HM.out⟩
  have h64 : (x == 64) = false := by simp [e64]
  have h127 : (x == 127) = false := by simp [e127]
  have h126 : (x == 126) = false := by simp [e126]
  have hv : v = 0 := by have := (congrArg Prod.fst HO.out).symm; simp only at this; rw [this]; unfold resA; rw [if_neg e127, if_neg e126]
  have hs : need false s1 = s' := by have := congrArg Prod.snd HO.out; simp only at this; rw [← this, h64, h127, h126]; rfl
  have HS := hid hs
  clear hs e64 e127 e126
  subst hv
  go_wp2_with fail
  refine (need_to wB w1 p ao n cap xs s1 HR.out false s' HS.out).mono ?_
  rintro e w2 ⟨rfl, R2, M2⟩
  have HR2 := hid R2
  have HM2 := hid M2
  clear R2 M2
  go_wp2_with fail
  go_ret
  exact ⟨rfl, HR2.out, HM.out.trans HM2.out⟩

set_option maxHeartbeats 1000000 in
theorem runsigned_to (v : Int) (s' : RS) (ho : rU xs s = (v, s')) :
    Calls Try.prog 70 #[.pointer (some ⟨p, 0, none⟩)] w fun e w' => e = .returned (.int .i64 v) ∧ RetN wB p ao n cap xs w s' w' := by
  have hn63 : n ≤ 9223372036854775807 := by have h1 := h.rd.le; have h2 := h.rd.max; unfold maxLen at h2; omega
  obtain ⟨i, er⟩ := s
  have hi : i ≤ n := h.le
  obtain ⟨c0, c1, c2⟩ : w.cell? ⟨p, 0, none⟩ = some (.slice ao n cap) ∧ w.cell? ⟨p, 1, none⟩ = some (.int .i64 i) ∧ w.cell? ⟨p, 2, none⟩ = some (.int .i64 er) := ⟨h.c0, h.c1, h.c2⟩
  have H := hid h
  have hx := h.rd.len
  clear h
  unfold rU at ho
  simp only at ho
  by_cases h0 : er = 0
  · subst h0
    rw [if_pos rfl] at ho
    obtain ⟨v0, k, e0, hd⟩ : ∃ v0 k e0, decU 32 (xs.drop i) = (v0, k, e0) := ⟨_, _, _, rfl⟩
    have hsp := decU_spec (bits := 32) (xs := xs.drop i)
    rw [hd] at ho hsp
    simp only at ho hsp
    cases ho
    have hk : k ≤ n - i := by have := hsp.2.2.1; simp at this; omega
    have hv0 : 0 ≤ v := hsp.1
    have hv1 : v < 4294967296 := hsp.2.1
    have hrd := H.out.now.cut i n hi (Nat.le_refl _)
    rw [List.take_of_length_le (by omega)] at hrd
    have hcut := run_cut_l 41 elem_b size_b ao n cap (i : Int) i rfl hi
    have hwr : IntKind.i64.wrap v = v := IntWalk.i64_in v (by omega)
    have HD := hid hd
    have HRD := hid hrd
    have HX := hid hx
    have Hwr := hid hwr
    clear hd hrd hx hsp hwr
    go_enter Try.func70, Try.ntmps70
    go_wp2
    go_quiet ((go_at_call 77; exact Calls.quiet_eq (U_to _ _ _ (xs.drop i) 32 _ (HRD.out.below (below_drewN _ _ _)) (by omega) (by omega) v k e0 HD.out)))
    have R1 := H.out.drewN nq
    have M1 := Mv.drewN p w nq
    generalize w.drewN nq = w1 at R1 M1 ⊢
    clear c0 c1 c2 hcut
    have c1 : w1.cell? ⟨p, 1, none⟩ = some (.int .i64 i) := R1.c1
    have f1 := R1.f1
    have c2 : w1.cell? ⟨p, 2, none⟩ = some (.int .i64 0) := R1.c2
    have f2 := R1.f2
    have HR := hid R1
    have HM := hid M1
    clear R1 M1
    go_wp2
    go_ret
    exact ⟨rfl, HR.out.both i k (by omega) e0, HM.out.trans (Mv.both _ _ _ _)⟩
  · rw [if_neg h0] at ho
    cases ho
    have h0' : (er != 0) = true := by simp [h0]
    go_enter Try.func70, Try.ntmps70
    go_wp2
    go_ret
    exact ⟨rfl, H.out, Mv.refl _ _⟩
set_option maxHeartbeats 1000000 in
theorem rsigned_to (bits : Int) (hb1 : 1 ≤ bits) (hb2 : bits ≤ 64) (v : Int) (s' : RS) (ho : rS bits xs s = (v, s')) :
    Calls Try.prog 71 #[.pointer (some ⟨p, 0, none⟩), .int .i64 bits] w fun e w' => e = .returned (.int .i64 v) ∧ RetN wB p ao n cap xs w s' w' := by
  have hn63 : n ≤ 9223372036854775807 := by have h1 := h.rd.le; have h2 := h.rd.max; unfold maxLen at h2; omega
  obtain ⟨i, er⟩ := s
  have hi : i ≤ n := h.le
  obtain ⟨c0, c1, c2⟩ : w.cell? ⟨p, 0, none⟩ = some (.slice ao n cap) ∧ w.cell? ⟨p, 1, none⟩ = some (.int .i64 i) ∧ w.cell? ⟨p, 2, none⟩ = some (.int .i64 er) := ⟨h.c0, h.c1, h.c2⟩
  have H := hid h
  have hx := h.rd.len
  clear h
  unfold rS at ho
  simp only at ho
  by_cases h0 : er = 0
  · subst h0
    rw [if_pos rfl] at ho
    obtain ⟨v0, k, e0, hd⟩ : ∃ v0 k e0, decS bits (xs.drop i) = (v0, k, e0) := ⟨_, _, _, rfl⟩
    have hsp := decS_spec (xs := xs.drop i) hb1 hb2
    rw [hd] at ho hsp
    simp only at ho hsp
    cases ho
    have hk : k ≤ n - i := by have := hsp.2.2.1; simp at this; omega
    have hrd := H.out.now.cut i n hi (Nat.le_refl _)
    rw [List.take_of_length_le (by omega)] at hrd
    have hcut := run_cut_l 41 elem_b size_b ao n cap (i : Int) i rfl hi
    have HD := hid hd
    have HRD := hid hrd
    have HX := hid hx
    clear hd hrd hx hsp
    go_enter Try.func71, Try.ntmps71
    go_wp2
    go_quiet ((go_at_call 78; exact Calls.quiet_eq (S_to _ _ _ (xs.drop i) bits _ (HRD.out.below (below_drewN _ _ _)) hb1 hb2 v k e0 HD.out)))
    have R1 := H.out.drewN nq
    have M1 := Mv.drewN p w nq
    generalize w.drewN nq = w1 at R1 M1 ⊢
    clear c0 c1 c2 hcut
    have c1 : w1.cell? ⟨p, 1, none⟩ = some (.int .i64 i) := R1.c1
    have f1 := R1.f1
    have c2 : w1.cell? ⟨p, 2, none⟩ = some (.int .i64 0) := R1.c2
    have f2 := R1.f2
    have HR := hid R1
    have HM := hid M1
    clear R1 M1
    go_wp2
    go_ret
    exact ⟨rfl, HR.out.both i k (by omega) e0, HM.out.trans (Mv.both _ _ _ _)⟩
  · rw [if_neg h0] at ho
    cases ho
    have h0' : (er != 0) = true := by simp [h0]
    go_enter Try.func71, Try.ntmps71
    go_wp2
    go_ret
    exact ⟨rfl, H.out, Mv.refl _ _⟩

set_option maxHeartbeats 1000000 in
theorem operand_to (f : Int) (hf : 0 ≤ f ∧ f ≤ 9) (v : Int) (s' : RS) (ho : rA f xs s = (v, s')) :
    Calls Try.prog 68 #[.pointer (some ⟨p, 0, none⟩), .int .i64 f] w fun e w' => e = .returned (.int .i64 v) ∧ RetN wB p ao n cap xs w s' w' := by
  obtain ⟨x, s1, h1⟩ : ∃ x s1, rU xs s = (x, s1) := ⟨_, _, rfl⟩
  obtain ⟨t, ht⟩ : ∃ t, mayAS f x = t := ⟨_, rfl⟩
  unfold rA at ho
  rw [h1] at ho
  simp only at ho
  rw [ht] at ho
  cases ho
  have H := hid h
  have H1 := hid h1
  have HT := hid ht
  clear h h1 ht
  go_enter Try.func68, Try.ntmps68
  go_wp2_with fail
  refine (runsigned_to wB w p ao n cap xs s H.out _ s1 H1.out).mono ?_
  rintro e w1 ⟨rfl, R1, M1⟩
  have HR := hid R1
  have HM := hid M1
  clear R1 M1
  go_wp2_with fail
  refine (mayA_to _ _ _ hf HT.out _).mono ?_
  rintro e w2 ⟨rfl, rfl⟩
  go_wp2_with fail
  refine (need_to wB w1 p ao n cap xs s1 HR.out t _ rfl).mono ?_
  rintro e w2 ⟨rfl, R2, M2⟩
  have HR2 := hid R2
  have HM2 := hid M2
  clear R2 M2
  go_wp2_with fail
  go_ret
  exact ⟨rfl, HR2.out, HM.out.trans HM2.out⟩

set_option maxHeartbeats 1000000 in
theorem rlist_to (l' : List Int) (s' : RS) (ho : rL xs s = (l', s')) :
    Calls Try.prog 69 #[.pointer (some ⟨p, 0, none⟩)] w fun e w' => (∃ v, e = .returned v ∧ Own 3 .i64 w.heap.size w' v l') ∧ RetN wB p ao n cap xs w s' w' := by
  obtain ⟨c, s1, h1⟩ : ∃ x s1, rU xs s = (x, s1) := ⟨_, _, rfl⟩
  have hbd := rU_bd xs s
  rw [h1] at hbd
  simp only at hbd
  unfold rL rCount at ho
  rw [h1] at ho
  simp only at ho
  have hpl := h.lt
  have H := hid h
  have H1 := hid h1
  have HO := hid ho
  clear h h1 ho
  go_enter Try.func69, Try.ntmps69
  go_wp2_with fail
  refine (runsigned_to wB w p ao n cap xs s H.out _ s1 H1.out).mono ?_
  rintro e w1 ⟨rfl, R1, M1⟩
  have HR := hid R1
  have HM := hid M1
  clear R1 M1
  go_wp2_with fail
  refine (need_to wB w1 p ao n cap xs s1 HR.out _ _ rfl).mono ?_
  rintro e w2 ⟨rfl, R2, M2⟩
  have HR2 := hid R2
  have HM2 := hid (HM.out.trans M2)
  clear R2 M2 HR HM
  generalize need (decide (c ≤ 50)) s1 = s2 at HO HR2
  obtain ⟨M, rfl⟩ : ∃ M : Nat, c = M := ⟨c.toNat, by omega⟩
  have HO' : Hid (rLs xs M s2 = (l', s')) := HO.out
  clear HO H1
  go_wp2_with fail
  go_loopw [4] (fun v wr => ∃ (m : Nat) (l : List Int) (sr : RS), l.length + m = M ∧ Own 3 .i64 w.heap.size wr v l ∧ Rdr wB wr p ao n cap xs sr ∧ Mv p w wr ∧ Hid ((l ++ (rLs xs m sr).1, (rLs xs m sr).2) = (l', s'))) (fun v _ => M - lenV v)
  case atStart => exact ⟨M, [], s2, by simp, Own.nil _ _ _ _, HR2.out, HM2.out, hid (by rw [HO'.out]; rfl)⟩
  case round =>
    obtain ⟨m, l, sr, hlm, hown, hR, hM, HE⟩ := hrel
    obtain ⟨lo, lc, rfl, hlr⟩ := hown.rd
    have hown' := hid hown
    have HR := hid hR
    have c2 := hR.c2
    have HM := hid hM
    have hszw := hM.size
    obtain ⟨ai, er⟩ := sr
    simp only at c2
    clear hown hR hM hlr
    obtain ⟨ln, hln⟩ : ∃ ln, ln = l.length := ⟨_, rfl⟩
    rw [← hln] at hlm ⊢
    have Hln := hid hln
    clear hln
    cases m with
    | zero =>
      have e0 : ln = M := by omega
      subst e0
      have HE' := HE.out
      simp only [rLs] at HE'
      cases HE'
      go_wp2_with fail
      go_ret
      rw [Hln.out]
      exact ⟨⟨_, rfl, by simpa using hown'.out⟩, HR.out, HM.out⟩
    | succ m =>
      have hlt : (ln : Int) < (M : Int) := by omega
      by_cases h0 : er = 0
      · subst h0
        obtain ⟨x, s3, hx⟩ : ∃ x s3, rA 3 xs ⟨ai, 0⟩ = (x, s3) := ⟨_, _, rfl⟩
        have HE' := HE.out
        rw [rLs_go rfl hx] at HE'
        have HEE := hid HE'
        have HX := hid hx
        clear HE' hx HE
        go_wp2_with fail
        refine (operand_to wB wr p ao n cap xs _ HR.out 3 (by omega) x s3 HX.out).mono ?_
        rintro e w3 ⟨rfl, R3, M3⟩
        have HR3 := hid R3
        have HM3 := hid M3
        have hsz3 := M3.size
        have HWX : Hid ((Lit.int .i64 x).wf = true) := hid (by
          have := rU_bd xs ⟨ai, 0⟩
          have hx1 : x = (rU xs ⟨ai, 0⟩).1 := by have := congrArg Prod.fst HX.out; exact this.symm
          rw [hx1]
          exact WalkArith.wf_i64 ⟨by omega, by omega⟩)
        have hown3 : Own 3 .i64 w.heap.size (w3.alloc (.cells #[.int .i64 x] 3)) (.slice lo ln lc) l := by rw [Hln.out]; exact (hown'.out.mv M3 hpl).alloc _
        clear R3 M3
        go_wp2_with (at_builtin; refine wpList_append_rd rfl (.tmp 22) (.tmp 25) 35 rfl 3 .i64 w.heap.size 8 Try.underlying35 infoInt _ _ rfl hown3 _ 1 1 _ rfl (Rd.built _ _ _ _ (HWX.out)) (by rw [← Hln.out]; omega) (by rw [← Hln.out]; omega) (by simp; omega) ?_; intro v' w4 h3 h4 _)
        obtain ⟨lo4, lc4, rfl, _⟩ := h3.rd
        go_roundw
        case rel =>
          refine ⟨m, l ++ [x], s3, by simp [← Hln.out]; omega, h3, (HR3.out.below (Bl.alloc (Bl.refl _) _)).keep h4 hpl, ((HM.out.trans HM3.out).then (Bl.alloc (Bl.refl _) _) ?_).then h4 (Nat.le_refl _), ?_⟩
          · omega
          · exact hid (by rw [← HEE.out]; simp)
        case measure => simp [lenV, ← Hln.out]; omega
      · have h0' : (er == 0) = false := by simp [h0]
        have HE' := HE.out
        rw [rLs_stop h0] at HE'
        cases HE'
        go_wp2_with fail
        go_ret
        rw [Hln.out]
        exact ⟨⟨_, rfl, by simpa using hown'.out⟩, HR.out, HM.out⟩
end
end Go.Proofs.Ytfambbpggodlkaa
