/- The reference's reader of instructions: its methods. -/
import Derived.Test.YtfambbpggodlkaaInsIns
namespace Go.Proofs.Ytfambbpggodlkaa
open Go.RowKit

theorem rOne_ok {xs : List Int} {s s1 : RS} {v : Int} (h : rOne xs s = (v, s1)) (hv : v ≠ 0) : s1.err = 0 := by
  unfold rOne at h
  split at h
  · split at h
    · cases h; exact absurd rfl hv
    · cases h; rfl
  · cases h; exact absurd rfl hv

section
variable (wB w : World) (p : Nat) (ao : Option Addr) (n cap : Nat) (xs : List Int) (s : RS) (h : Rdr wB w p ao n cap xs s)
include h
set_option maxHeartbeats 1000000 in
theorem octet_to (v : Int) (s' : RS) (ho : rOne xs s = (v, s')) :
    Calls Try.prog 58 #[.pointer (some ⟨p, 0, none⟩)] w fun e w' => e = .returned (.int .u8 v) ∧ RetN wB p ao n cap xs w s' w' := by
  have hn63 : n ≤ 9223372036854775807 := by have h1 := h.rd.le; have h2 := h.rd.max; unfold maxLen at h2; omega
  obtain ⟨i, er⟩ := s
  have hx := h.rd.len
  have hi : i ≤ n := h.le
  obtain ⟨c0, c1, c2, f1, f2⟩ : w.cell? ⟨p, 0, none⟩ = some (.slice ao n cap) ∧ w.cell? ⟨p, 1, none⟩ = some (.int .i64 i) ∧ w.cell? ⟨p, 2, none⟩ = some (.int .i64 er) ∧ w.frozen? ⟨p, 1, none⟩ = false ∧ w.frozen? ⟨p, 2, none⟩ = false := ⟨h.c0, h.c1, h.c2, h.f1, h.f2⟩
  have H := hid h
  have Hx := hid hx
  clear h hx
  unfold rOne at ho
  simp only at ho
  by_cases h0 : er = 0
  · subst h0
    rw [if_pos rfl] at ho
    by_cases hn : i = n
    · rw [if_pos (by rw [Hx.out, hn])] at ho
      cases ho
      subst hn
      go_enter Try.func58, Try.ntmps58
      have hge : decide ((i : Int) ≤ (i : Int)) = true := by simp
      go_wp2
      go_quiet (fail)
      have R1 : Rdr wB ((w.drewN nq)) p ao i cap xs ⟨i, 0⟩ := H.out.drewN nq
      have M1 : Mv p w (w.drewN nq) := Mv.drewN p w nq
      generalize w.drewN nq = w1 at R1 M1 ⊢
      clear c0 c1 c2 f1 f2
      have c2 := R1.c2
      have f2 := R1.f2
      simp only at c2
      have HR := hid R1
      have HM := hid M1
      clear R1 M1
      go_wp2
      go_ret
      exact ⟨rfl, HR.out.setErr 2, HM.out.trans (Mv.set p 2 _ _)⟩
    · rw [if_neg (by rw [Hx.out]; exact hn)] at ho
      cases ho
      have hne : ((i : Int) == (n : Int)) = false := by simp; omega
      have hlt : i < n := by omega
      obtain ⟨b, off, rfl, hc⟩ := H.out.now.at (by omega)
      have hck := hc i hlt
      have Hck := hid hck
      clear hc hck
      have hge : decide ((n : Int) ≤ (i : Int)) = false := by simp; omega
      go_enter Try.func58, Try.ntmps58
      go_wp2
      go_quiet (fail)
      go_wp2
      have R1 : Rdr wB ((w.drewN nq).setCell ⟨p, 1, none⟩ (.int .i64 ((i : Int) + 1))) p (some ⟨b, off, none⟩) n cap xs ⟨i + 1, 0⟩ := by
        have := (H.out.drewN nq).setAt (i + 1) (by omega)
        simpa using this
      have M1 : Mv p w ((w.drewN nq).setCell ⟨p, 1, none⟩ (.int .i64 ((i : Int) + 1))) := (Mv.drewN p w nq).trans (Mv.set p 1 _ _)
      generalize (w.drewN nq).setCell ⟨p, 1, none⟩ (.int .i64 ((i : Int) + 1)) = w1 at R1 M1 ⊢
      clear c0 c1 c2 f1 f2
      have c0 := R1.c0
      have c1 : w1.cell? ⟨p, 1, none⟩ = some (.int .i64 ((i : Int) + 1)) := by have := R1.c1; simpa using this
      have hck : w1.cell? ⟨b, off + i, none⟩ = some (.int .u8 (xs.getD i 0)) := by have := R1.now.cell _ rfl i hlt; rw [Addr.add_lit] at this; exact this
      have hsub : IntKind.i64.wrap ((i : Int) + 1 - 1) = i := by rw [IntWalk.i64_in _ (by omega)]; omega
      have HR := hid R1
      have HM := hid M1
      clear R1 M1
      go_quiet (fail)
      go_wp2
      go_ret
      exact ⟨rfl, HR.out.drewN nq, HM.out.trans (Mv.drewN p _ _)⟩
  · rw [if_neg h0] at ho
    cases ho
    have h0' : (er != 0) = true := by simp [h0]
    have h0'' : (er == 0) = false := by simp [h0]
    go_enter Try.func58, Try.ntmps58
    go_wp2
    go_quiet (fail)
    have R1 := H.out.drewN nq
    have M1 : Mv p w (w.drewN nq) := Mv.drewN p w nq
    generalize w.drewN nq = w1 at R1 M1 ⊢
    clear c0 c1 c2 f1 f2
    have c2 := R1.c2
    simp only at c2
    have HR := hid R1
    have HM := hid M1
    clear R1 M1
    go_wp2
    go_ret
    exact ⟨rfl, HR.out, HM.out⟩


set_option maxHeartbeats 1000000 in
theorem nought_to (v : Int) (s1 s' : RS) (h1 : rOne xs s = (v, s1)) (ho : need (v == 0) s1 = s') :
    Calls Try.prog 60 #[.pointer (some ⟨p, 0, none⟩)] w fun e w' => e = .returned (.tuple #[]) ∧ RetN wB p ao n cap xs w s' w' := by
  have H := hid h
  have H1 := hid h1
  clear h
  by_cases hv : v = 0
  · subst hv
    have hs : s1 = s' := by rw [← ho]; unfold need; rw [if_neg (fun hh => by cases hh.1)]
    subst hs
    clear ho h1
    go_enter Try.func60, Try.ntmps60
    go_wp2_with fail
    refine (octet_to wB w p ao n cap xs s H.out 0 s1 H1.out).mono ?_
    rintro e w1 ⟨rfl, R, M⟩
    have HR := hid R
    have HM := hid M
    clear R M
    go_wp2_with fail
    go_end0
    exact ⟨rfl, HR.out, HM.out⟩
  · have he := rOne_ok h1 hv
    have hv' : (v != 0) = true := by simp [hv]
    have hs : (⟨s1.at', 1⟩ : RS) = s' := by rw [← ho]; unfold need; rw [if_pos ⟨by simp [hv], he⟩]
    have HS := hid hs
    clear ho h1 hs
    go_enter Try.func60, Try.ntmps60
    go_wp2_with fail
    refine (octet_to wB w p ao n cap xs s H.out v s1 H1.out).mono ?_
    rintro e w1 ⟨rfl, R, M⟩
    have c2 := R.c2
    have f2 := R.f2
    have HR := hid R
    have HM := hid M
    clear R M
    go_wp2_with fail
    go_end0
    exact ⟨rfl, by rw [← HS.out]; exact HR.out.setErr 1, HM.out.trans (Mv.set p 2 _ _)⟩

set_option maxHeartbeats 1000000 in
theorem u_to (most : Int) (v : Int) (s1 s' : RS) (h1 : rU xs s = (v, s1)) (ho : need (decide (v ≤ most)) s1 = s') :
    Calls Try.prog 59 #[.pointer (some ⟨p, 0, none⟩), .int .u64 most] w fun e w' => e = .returned (.int .i64 v) ∧ RetN wB p ao n cap xs w s' w' := by
  have hn63 : n ≤ 9223372036854775807 := by have h1 := h.rd.le; have h2 := h.rd.max; unfold maxLen at h2; omega
  obtain ⟨i, er⟩ := s
  have hi : i ≤ n := h.le
  have hpl := h.lt
  obtain ⟨c0, c1, c2⟩ : w.cell? ⟨p, 0, none⟩ = some (.slice ao n cap) ∧ w.cell? ⟨p, 1, none⟩ = some (.int .i64 i) ∧ w.cell? ⟨p, 2, none⟩ = some (.int .i64 er) := ⟨h.c0, h.c1, h.c2⟩
  have H := hid h
  have hx := h.rd.len
  clear h
  unfold rU at h1
  simp only at h1
  by_cases h0 : er = 0
  · subst h0
    rw [if_pos rfl] at h1
    obtain ⟨v0, k, e0, hd⟩ : ∃ v0 k e0, decU 32 (xs.drop i) = (v0, k, e0) := ⟨_, _, _, rfl⟩
    have hsp := decU_spec (bits := 32) (xs := xs.drop i)
    rw [hd] at h1 hsp
    simp only at h1 hsp
    cases h1
    have hk : k ≤ n - i := by have := hsp.2.2.1; simp at this; omega
    have hv0 : 0 ≤ v := hsp.1
    have hv1 : v < 4294967296 := hsp.2.1
    have hrd := H.out.now.cut i n hi (Nat.le_refl _)
    rw [List.take_of_length_le (by omega)] at hrd
    have hcut := run_cut_l 41 elem_b size_b ao n cap (i : Int) i rfl hi
    have hwr : IntKind.i64.wrap v = v := IntWalk.i64_in v (by omega)
    have HD := hid hd
    have HRD := hid hrd
    have Hwr := hid hwr
    have HO := hid ho
    clear hd hrd hx hsp hwr ho
    go_enter Try.func59, Try.ntmps59
    go_wp2
    refine wp_region_quiet_below (by kernel_rfl) (by kernel_rfl) ?_
    have hbc := fun x => @Bw.cell w x
    repeat (go_big_quiet_step ((go_at_call 72; exact Calls.bw (GetU_to _ _ _ (xs.drop i) 32 _ (HRD.out.below (Bw.h _)) (by omega) (by omega) v k e0 HD.out))))
    refine wpQuiet_nil ?_
    rintro _ ⟨x, rfl⟩
    have R1 := H.out.below x.h
    have M1 : Mv p w x.w := Mv.of x.h
    clear hbc c0 c1 c2 hcut
    generalize x.w = w1 at R1 M1 ⊢
    have c1 : w1.cell? ⟨p, 1, none⟩ = some (.int .i64 i) := R1.c1
    have f1 := R1.f1
    have c2 : w1.cell? ⟨p, 2, none⟩ = some (.int .i64 0) := R1.c2
    have f2 := R1.f2
    have HR := hid R1
    have HM := hid M1
    clear R1 M1
    by_cases he : e0 = 0
    · subst he
      by_cases hvm : v ≤ most
      · have hd : decide (most < v) = false := by simp; omega
        have hs : (⟨i + k, 0⟩ : RS) = s' := by rw [← HO.out]; unfold need; rw [if_neg (fun hh => by have := hh.1; simp at this; omega)]
        have HS := hid hs
        clear hs
        go_wp2
        go_ret
        exact ⟨rfl, by rw [← HS.out]; exact HR.out.both i k (by omega) 0, HM.out.trans (Mv.both _ _ _ _)⟩
      · have hd : decide (most < v) = true := by simp; omega
        have hs : (⟨i + k, 1⟩ : RS) = s' := by rw [← HO.out]; unfold need; rw [if_pos ⟨by simp; omega, rfl⟩]
        have HS := hid hs
        clear hs
        go_wp2
        go_ret
        exact ⟨rfl, by rw [← HS.out]; exact HR.out.both i k (by omega) 1, HM.out.trans (Mv.both _ _ _ _)⟩
    · have he' : (e0 == 0) = false := by simp [he]
      have hs : (⟨i + k, e0⟩ : RS) = s' := by rw [← HO.out]; unfold need; rw [if_neg (fun hh => he hh.2)]
      have HS := hid hs
      clear hs
      go_wp2
      go_ret
      exact ⟨rfl, by rw [← HS.out]; exact HR.out.both i k (by omega) e0, HM.out.trans (Mv.both _ _ _ _)⟩
  · rw [if_neg h0] at h1
    cases h1
    have h0' : (er != 0) = true := by simp [h0]
    have hs : (⟨i, er⟩ : RS) = s' := by rw [← ho]; unfold need; rw [if_neg (fun hh => h0 hh.2)]
    have HS := hid hs
    clear hs ho
    go_enter Try.func59, Try.ntmps59
    go_wp2
    go_ret
    exact ⟨rfl, by rw [← HS.out]; exact H.out, Mv.refl _ _⟩

set_option maxHeartbeats 1000000 in
theorem s_to (bits : Int) (hb1 : 1 ≤ bits) (hb2 : bits ≤ 64) (v : Int) (s' : RS) (h1 : rS bits xs s = (v, s')) :
    Calls Try.prog 61 #[.pointer (some ⟨p, 0, none⟩), .int .i64 bits] w fun e w' => e = .returned (.int .i64 v) ∧ RetN wB p ao n cap xs w s' w' := by
  have hn63 : n ≤ 9223372036854775807 := by have h1 := h.rd.le; have h2 := h.rd.max; unfold maxLen at h2; omega
  obtain ⟨i, er⟩ := s
  have hi : i ≤ n := h.le
  have hpl := h.lt
  obtain ⟨c0, c1, c2⟩ : w.cell? ⟨p, 0, none⟩ = some (.slice ao n cap) ∧ w.cell? ⟨p, 1, none⟩ = some (.int .i64 i) ∧ w.cell? ⟨p, 2, none⟩ = some (.int .i64 er) := ⟨h.c0, h.c1, h.c2⟩
  have H := hid h
  have hx := h.rd.len
  clear h
  unfold rS at h1
  simp only at h1
  by_cases h0 : er = 0
  · subst h0
    rw [if_pos rfl] at h1
    obtain ⟨v0, k, e0, hd⟩ : ∃ v0 k e0, decS bits (xs.drop i) = (v0, k, e0) := ⟨_, _, _, rfl⟩
    have hsp := decS_spec (xs := xs.drop i) hb1 hb2
    rw [hd] at h1 hsp
    simp only at h1 hsp
    cases h1
    have hk : k ≤ n - i := by have := hsp.2.2.1; simp at this; omega
    have hrd := H.out.now.cut i n hi (Nat.le_refl _)
    rw [List.take_of_length_le (by omega)] at hrd
    have hcut := run_cut_l 41 elem_b size_b ao n cap (i : Int) i rfl hi
    have HD := hid hd
    have HRD := hid hrd
    clear hd hrd hx hsp
    go_enter Try.func61, Try.ntmps61
    go_wp2
    refine wp_region_quiet_below (by kernel_rfl) (by kernel_rfl) ?_
    have hbc := fun x => @Bw.cell w x
    repeat (go_big_quiet_step ((go_at_call 73; exact Calls.bw (GetS_to _ _ _ (xs.drop i) bits _ (HRD.out.below (Bw.h _)) hb1 hb2 v k e0 HD.out))))
    refine wpQuiet_nil ?_
    rintro _ ⟨x, rfl⟩
    have R1 := H.out.below x.h
    have M1 : Mv p w x.w := Mv.of x.h
    clear hbc c0 c1 c2 hcut
    generalize x.w = w1 at R1 M1 ⊢
    have c1 : w1.cell? ⟨p, 1, none⟩ = some (.int .i64 i) := R1.c1
    have f1 := R1.f1
    have c2 : w1.cell? ⟨p, 2, none⟩ = some (.int .i64 0) := R1.c2
    have f2 := R1.f2
    have HR := hid R1
    have HM := hid M1
    clear R1 M1
    go_wp2
    go_ret
    exact ⟨rfl, HR.out.both i k (by omega) e0, HM.out.trans (Mv.both _ _ _ _)⟩
  · rw [if_neg h0] at h1
    cases h1
    have h0' : (er != 0) = true := by simp [h0]
    go_enter Try.func61, Try.ntmps61
    go_wp2
    go_ret
    exact ⟨rfl, H.out, Mv.refl _ _⟩
end
end Go.Proofs.Ytfambbpggodlkaa
