/- The reference's GetInstr. -/
import Derived.Test.YtfambbpggodlkaaInsRefRd
namespace Go.Proofs.Ytfambbpggodlkaa
open Go.RowKit

/-- How it stands in the middle of GetInstr: the reader p, the result's block (the first new one), the instruction's block X. -/
structure Sg (w wx : World) (p : Nat) (ao : Option Addr) (n cap : Nat) (xs : List Int) (X : Nat) (s : RS) (op a b : Int) (lo : Option Addr) (ln lc : Nat) : Prop where
  r : Rdr w wx p ao n cap xs s
  qa : Quad wx w.heap.size (.int .i64 0) (.int .i64 0) (.int .i64 0) (.slice none 0 0)
  qx : Quad wx X (.int .i64 op) (.int .i64 a) (.int .i64 b) (.slice lo ln lc)
  hp : w.heap.size < p
  hX : w.heap.size < X
  hpX : X ≠ p
section
variable {w wx wy : World} {p : Nat} {ao : Option Addr} {n cap : Nat} {xs : List Int} {X : Nat} {s s' : RS} {op a b : Int} {lo : Option Addr} {ln lc : Nat}
theorem Sg.go (h : Sg w wx p ao n cap xs X s op a b lo ln lc) (g : RetN w p ao n cap xs wx s' wy) : Sg w wy p ao n cap xs X s' op a b lo ln lc :=
  ⟨g.1, h.qa.mv g.2 (by have := h.hp; omega), h.qx.mv g.2 h.hpX, h.hp, h.hX, h.hpX⟩
theorem Sg.below (h : Sg w wx p ao n cap xs X s op a b lo ln lc) (hb : Below wx.heap.size wx wy) : Sg w wy p ao n cap xs X s op a b lo ln lc := h.go ⟨h.r.below hb, Mv.of hb⟩
theorem Sg.set1 (h : Sg w wx p ao n cap xs X s op a b lo ln lc) (u : Int) : Sg w (wx.setCell ⟨X, 1, none⟩ (.int .i64 u)) p ao n cap xs X s op u b lo ln lc :=
  ⟨h.r.other (Ne.symm h.hpX) (by have := h.hX; omega) 1 _, h.qa.other (by have := h.hX; omega) 1 _, h.qx.set1 _, h.hp, h.hX, h.hpX⟩
theorem Sg.set2 (h : Sg w wx p ao n cap xs X s op a b lo ln lc) (u : Int) : Sg w (wx.setCell ⟨X, 2, none⟩ (.int .i64 u)) p ao n cap xs X s op a u lo ln lc :=
  ⟨h.r.other (Ne.symm h.hpX) (by have := h.hX; omega) 2 _, h.qa.other (by have := h.hX; omega) 2 _, h.qx.set2 _, h.hp, h.hX, h.hpX⟩
theorem Sg.set3 (h : Sg w wx p ao n cap xs X s op a b lo ln lc) (lo' : Option Addr) (ln' lc' : Nat) : Sg w (wx.setCell ⟨X, 3, none⟩ (.slice lo' ln' lc')) p ao n cap xs X s op a b lo' ln' lc' :=
  ⟨h.r.other (Ne.symm h.hpX) (by have := h.hX; omega) 3 _, h.qa.other (by have := h.hX; omega) 3 _, h.qx.set3 _ , h.hp, h.hX, h.hpX⟩
end

theorem get_fin2 {w w1 : World} {A : Nat} {z0 z1 z2 z3 : Value} (Q : Quad w1 A z0 z1 z2 z3) (hA : w.heap.size ≤ A) (HB : Below w.heap.size w w1) (u0 u1 u2 u3 : Value) :
    ∃ wf, ((((w1.setCell ⟨A, 0, none⟩ u0).setCell ⟨A, 1, none⟩ u1).setCell ⟨A, 2, none⟩ u2).setCell ⟨A, 3, none⟩ u3).drew = wf ∧ Quad wf A u0 u1 u2 u3 ∧ Below w.heap.size w wf ∧
      (∀ (E : TypeId) (k : IntKind) (base : Nat) (v : Value) (xs : List Int), A < base → Own E k base w1 v xs → Own E k base wf v xs) :=
  ⟨_, rfl, (Q.setAll u0 u1 u2 u3).below (Below.refl _ _).drew,
   (Bl.set (Bl.set (Bl.set (Bl.set HB hA _) hA _) hA _) hA _).drew,
   fun _ _ _ _ _ hb h => ((((h.mv (Mv.set A 0 _ u0) hb).mv (Mv.set A 1 _ u1) hb).mv (Mv.set A 2 _ u2) hb).mv (Mv.set A 3 _ u3) hb).drew⟩

theorem rA_u {f : Int} {xs : List Int} {s s' : RS} {v : Int} (h : rA f xs s = (v, s')) (most : Int) (hf : ∀ x : Int, 0 ≤ x → mayAS f x = decide (x ≤ most)) : ∃ s1, rU xs s = (v, s1) ∧ need (decide (v ≤ most)) s1 = s' := by
  obtain ⟨x, s1, h1⟩ : ∃ x s1, rU xs s = (x, s1) := ⟨_, _, rfl⟩
  have hb := rU_bd xs s
  unfold rA at h
  rw [h1] at h hb
  simp only at h hb
  cases h
  exact ⟨s1, h1, by rw [hf _ hb.1]⟩
theorem may3 (x : Int) (h : 0 ≤ x) : mayAS 3 x = decide (x ≤ 1000) := by simp [mayAS, h]
theorem may4 (x : Int) (h : 0 ≤ x) : mayAS 4 x = decide (x ≤ 1000) := by simp [mayAS, h]
theorem may5 (x : Int) (h : 0 ≤ x) : mayAS 5 x = decide (x ≤ 1000) := by simp [mayAS, h]
theorem may6 (x : Int) (h : 0 ≤ x) : mayAS 6 x = decide (x ≤ 3) := by simp [mayAS, h]
theorem need_rU {xs : List Int} {s s1 : RS} {v : Int} (h : rU xs s = (v, s1)) : need (decide (v ≤ 4294967295)) s1 = s1 := by
  have hb := rU_bd xs s
  rw [h] at hb
  unfold need
  rw [if_neg]
  intro hh
  have := hh.1
  simp at this
  omega

/-- What Get answers, of what was read. -/
def outI (I : Ins) (s : RS) : Ins × Nat × Int := if s.err = 0 then (I, s.at', 0) else (⟨0, 0, 0, []⟩, 0, s.err)

set_option maxHeartbeats 1000000 in
theorem getI_3 (ao : Option Addr) (n cap : Nat) (xs : List Int) (w : World) (hr : Rd .u8 w ao n cap xs) (op : Int) (i1 : Nat) (h1 : rOne xs ⟨0, 0⟩ = (op, ⟨i1, 0⟩)) (hs : sh op = 3) (a : Int) (s1 s2 : RS) (h2 : rU xs ⟨i1, 0⟩ = (a, s1)) (h3 : need (decide (a ≤ 1000)) s1 = s2) (I : Ins) (k : Nat) (er : Int) (hg : outI ⟨op, a, 0, []⟩ s2 = (I, k, er)) :
    Calls Try.prog 46 #[.slice ao n cap] w (RetG w I k er) := by
  obtain ⟨w0, hw0⟩ : ∃ w0, w0 = (w.alloc (.cells #[.int .i64 0, .int .i64 0, .int .i64 0, .slice none 0 0] 39)).alloc (.cells #[.slice ao n cap, .int .i64 0, .int .i64 0] 94) := ⟨_, rfl⟩
  have hop : 0 ≤ op ∧ op ≤ 255 := rOne_bd (fun x hx => bounds_u8 (hr.wf x hx)) h1
  have hR : Rdr w w0 (w.heap.size + 1) ao n cap xs ⟨0, 0⟩ := by
    rw [hw0]
    refine ⟨Bl.alloc (Bl.alloc (Bl.refl w) _) _, by omega, hr, ?_, ?_, ?_, ?_, ?_, Nat.zero_le _⟩ <;> go_simp
  have hQ : Quad w0 w.heap.size (.int .i64 0) (.int .i64 0) (.int .i64 0) (.slice none 0 0) := by
    rw [hw0]
    exact (Quad.new w _ _ _ _ _).below (Bl.alloc (Bl.refl _) _)
  have HR := hid hR
  have HQ := hid hQ
  have HW := hid hw0
  have H1 := hid h1
  have Hs := hid hs
  have HG := hid hg
  have hlt0 := hR.lt
  have H2 := hid h2
  have H3 := hid h3
  clear h2 h3
  clear hR hQ hw0 h1 hg hr hs
  go_enter Try.func46, Try.ntmps46
  go_wp2_with fail
  rw [← HW.out]
  refine (octet_to w w0 (w.heap.size + 1) ao n cap xs ⟨0, 0⟩ HR.out op ⟨i1, 0⟩ H1.out).mono ?_
  rintro e w1 ⟨rfl, R1, M1⟩
  obtain ⟨p, hp⟩ : ∃ p, p = w.heap.size + 1 := ⟨_, rfl⟩
  rw [← hp] at R1 M1 ⊢
  have hsz1 : w.heap.size < w1.heap.size := by have := R1.lt; omega
  have hpl := R1.lt
  have HS0 : Hid (Sg w (w1.alloc (.cells #[.int .i64 op, .int .i64 0, .int .i64 0, .slice none 0 0] 39)) p ao n cap xs w1.heap.size ⟨i1, 0⟩ op 0 0 none 0 0) :=
    ⟨R1.below (Bl.alloc (Bl.refl _) _), (HQ.out.mv M1 (by omega)).below (Bl.alloc (Bl.refl _) _), Quad.new w1 _ _ _ _ _, by omega, hsz1, by omega⟩
  have d2 := R1.c2
  have e2 := R1.f2
  simp only at d2
  clear R1 M1 HR HQ HW hp H1
  go_wp2_with (go_at_call 28; refine (form_to _ _ Hs.out _).mono ?_; rintro e w' ⟨rfl, rfl⟩)
  obtain ⟨X, hX⟩ : ∃ X, X = w1.heap.size := ⟨_, rfl⟩
  obtain ⟨w2, hw2⟩ : ∃ w2, w2 = w1.alloc (.cells #[.int .i64 op, .int .i64 0, .int .i64 0, .slice none 0 0] 39) := ⟨_, rfl⟩
  rw [← hX, ← hw2] at HS0
  clear d2 e2
  rw [← hX, ← hw2]
  clear hX hw2
  obtain ⟨c0, c1, c2, c3, f0, f1, f2, f3⟩ := HS0.out.qx
  obtain ⟨a0, a1, a2, a3, g0, g1, g2, g3⟩ := HS0.out.qa
  have d2 := HS0.out.r.c2
  have e2 := HS0.out.r.f2
  refine (u_to w _ p ao n cap xs _ HS0.out.r 1000 a s1 s2 H2.out H3.out).mono ?_
  rintro e w3 ⟨rfl, R, M⟩
  have HT1 := hid (HS0.out.go ⟨R, M⟩)
  have HS1 := hid (HT1.out.set1 a)
  clear R M c0 c1 c2 c3 f0 f1 f2 f3 a0 a1 a2 a3 g0 g1 g2 g3 d2 e2
  obtain ⟨c0, c1, c2, c3, f0, f1, f2, f3⟩ := HT1.out.qx
  obtain ⟨a0, a1, a2, a3, g0, g1, g2, g3⟩ := HT1.out.qa
  have d2 := HT1.out.r.c2
  have e2 := HT1.out.r.f2
  obtain ⟨⟨ke, ee⟩, hse⟩ : ∃ sz : RS, sz = s2 := ⟨_, rfl⟩
  rw [← hse] at HG HS1 HT1
  clear hse c0 c1 c2 c3 f0 f1 f2 f3 a0 a1 a2 a3 g0 g1 g2 g3 d2 e2
  obtain ⟨c0, c1, c2, c3, f0, f1, f2, f3⟩ := HT1.out.qx
  obtain ⟨a0, a1, a2, a3, g0, g1, g2, g3⟩ := HT1.out.qa
  have d1 := HT1.out.r.c1
  have d2 := HT1.out.r.c2
  have hXp := HT1.out.hpX
  have hAX := HS1.out.hX
  have hAp := HS1.out.hp
  simp only at d1 d2
  by_cases h0 : ee = 0
  · subst h0
    have hg := HG.out
    unfold outI at hg
    rw [if_pos rfl] at hg
    cases hg
    go_wp2_with fail
    go_region
    obtain ⟨wf, hwf, ⟨q0, q1, q2, q3, _, _, _, _⟩, hbf, hof⟩ := get_fin2 (w := w) HS1.out.qa (Nat.le_refl _) HS1.out.r.base (.int .i64 op) (.int .i64 a) (.int .i64 0) (.slice none 0 0)
    rw [hwf]
    clear hwf hof
    go_wp2_with fail
    refine bodyPost_ret (v := .tuple #[iv op a 0  none 0 0, .int .i64 ke, .int .i64 0]) (by simp [results, Try.results46, go_sem, q0, q1, q2, q3]) rfl ⟨_, _, _, rfl, Own.nil _ _ _ _, hbf⟩
  · have h0' : (ee != 0) = true := by simp [h0]
    have hg := HG.out
    unfold outI at hg
    rw [if_neg h0] at hg
    cases hg
    go_wp2_with fail
    go_region
    obtain ⟨wf, hwf, ⟨q0, q1, q2, q3, _, _, _, _⟩, hbf, hof⟩ := get_fin2 (w := w) HS1.out.qa (Nat.le_refl _) HS1.out.r.base (.int .i64 0) (.int .i64 0) (.int .i64 0) (.slice none 0 0)
    rw [hwf]
    clear hwf hof
    go_wp2_with fail
    refine bodyPost_ret (v := .tuple #[iv 0 0 0 none 0 0, .int .i64 (0 : Nat), .int .i64 ee]) (by simp [results, Try.results46, go_sem, q0, q1, q2, q3]) rfl ⟨_, _, _, rfl, Own.nil _ _ _ _, hbf⟩

set_option maxHeartbeats 1000000 in
theorem getI_5 (ao : Option Addr) (n cap : Nat) (xs : List Int) (w : World) (hr : Rd .u8 w ao n cap xs) (op : Int) (i1 : Nat) (h1 : rOne xs ⟨0, 0⟩ = (op, ⟨i1, 0⟩)) (hs : sh op = 5) (a : Int) (s1 s2 : RS) (h2 : rU xs ⟨i1, 0⟩ = (a, s1)) (h3 : need (decide (a ≤ 1000)) s1 = s2) (x : Int) (s3 s4 : RS) (h4 : rOne xs s2 = (x, s3)) (h5 : need (x == 0) s3 = s4) (I : Ins) (k : Nat) (er : Int) (hg : outI ⟨op, a, 0, []⟩ s4 = (I, k, er)) :
    Calls Try.prog 46 #[.slice ao n cap] w (RetG w I k er) := by
  obtain ⟨w0, hw0⟩ : ∃ w0, w0 = (w.alloc (.cells #[.int .i64 0, .int .i64 0, .int .i64 0, .slice none 0 0] 39)).alloc (.cells #[.slice ao n cap, .int .i64 0, .int .i64 0] 94) := ⟨_, rfl⟩
  have hop : 0 ≤ op ∧ op ≤ 255 := rOne_bd (fun x hx => bounds_u8 (hr.wf x hx)) h1
  have hR : Rdr w w0 (w.heap.size + 1) ao n cap xs ⟨0, 0⟩ := by
    rw [hw0]
    refine ⟨Bl.alloc (Bl.alloc (Bl.refl w) _) _, by omega, hr, ?_, ?_, ?_, ?_, ?_, Nat.zero_le _⟩ <;> go_simp
  have hQ : Quad w0 w.heap.size (.int .i64 0) (.int .i64 0) (.int .i64 0) (.slice none 0 0) := by
    rw [hw0]
    exact (Quad.new w _ _ _ _ _).below (Bl.alloc (Bl.refl _) _)
  have HR := hid hR
  have HQ := hid hQ
  have HW := hid hw0
  have H1 := hid h1
  have Hs := hid hs
  have HG := hid hg
  have hlt0 := hR.lt
  have H2 := hid h2
  have H3 := hid h3
  have H4 := hid h4
  have H5 := hid h5
  clear h2 h3 h4 h5
  clear hR hQ hw0 h1 hg hr hs
  go_enter Try.func46, Try.ntmps46
  go_wp2_with fail
  rw [← HW.out]
  refine (octet_to w w0 (w.heap.size + 1) ao n cap xs ⟨0, 0⟩ HR.out op ⟨i1, 0⟩ H1.out).mono ?_
  rintro e w1 ⟨rfl, R1, M1⟩
  obtain ⟨p, hp⟩ : ∃ p, p = w.heap.size + 1 := ⟨_, rfl⟩
  rw [← hp] at R1 M1 ⊢
  have hsz1 : w.heap.size < w1.heap.size := by have := R1.lt; omega
  have hpl := R1.lt
  have HS0 : Hid (Sg w (w1.alloc (.cells #[.int .i64 op, .int .i64 0, .int .i64 0, .slice none 0 0] 39)) p ao n cap xs w1.heap.size ⟨i1, 0⟩ op 0 0 none 0 0) :=
    ⟨R1.below (Bl.alloc (Bl.refl _) _), (HQ.out.mv M1 (by omega)).below (Bl.alloc (Bl.refl _) _), Quad.new w1 _ _ _ _ _, by omega, hsz1, by omega⟩
  have d2 := R1.c2
  have e2 := R1.f2
  simp only at d2
  clear R1 M1 HR HQ HW hp H1
  go_wp2_with (go_at_call 28; refine (form_to _ _ Hs.out _).mono ?_; rintro e w' ⟨rfl, rfl⟩)
  obtain ⟨X, hX⟩ : ∃ X, X = w1.heap.size := ⟨_, rfl⟩
  obtain ⟨w2, hw2⟩ : ∃ w2, w2 = w1.alloc (.cells #[.int .i64 op, .int .i64 0, .int .i64 0, .slice none 0 0] 39) := ⟨_, rfl⟩
  rw [← hX, ← hw2] at HS0
  clear d2 e2
  rw [← hX, ← hw2]
  clear hX hw2
  obtain ⟨c0, c1, c2, c3, f0, f1, f2, f3⟩ := HS0.out.qx
  obtain ⟨a0, a1, a2, a3, g0, g1, g2, g3⟩ := HS0.out.qa
  have d2 := HS0.out.r.c2
  have e2 := HS0.out.r.f2
  refine (u_to w _ p ao n cap xs _ HS0.out.r 1000 a s1 s2 H2.out H3.out).mono ?_
  rintro e w3 ⟨rfl, R, M⟩
  have HT1 := hid (HS0.out.go ⟨R, M⟩)
  have HS1 := hid (HT1.out.set1 a)
  clear R M c0 c1 c2 c3 f0 f1 f2 f3 a0 a1 a2 a3 g0 g1 g2 g3 d2 e2
  obtain ⟨c0, c1, c2, c3, f0, f1, f2, f3⟩ := HT1.out.qx
  obtain ⟨a0, a1, a2, a3, g0, g1, g2, g3⟩ := HT1.out.qa
  have d2 := HT1.out.r.c2
  have e2 := HT1.out.r.f2
  go_wp2_with fail
  refine (nought_to w _ p ao n cap xs _ HS1.out.r x s3 s4 H4.out H5.out).mono ?_
  rintro e w4 ⟨rfl, R, M⟩
  have HS2 := hid (HS1.out.go ⟨R, M⟩)
  clear R M c0 c1 c2 c3 f0 f1 f2 f3 a0 a1 a2 a3 g0 g1 g2 g3 d2 e2
  obtain ⟨c0, c1, c2, c3, f0, f1, f2, f3⟩ := HS2.out.qx
  obtain ⟨a0, a1, a2, a3, g0, g1, g2, g3⟩ := HS2.out.qa
  have d2 := HS2.out.r.c2
  have e2 := HS2.out.r.f2
  obtain ⟨⟨ke, ee⟩, hse⟩ : ∃ sz : RS, sz = s4 := ⟨_, rfl⟩
  rw [← hse] at HG HS2
  clear hse c0 c1 c2 c3 f0 f1 f2 f3 a0 a1 a2 a3 g0 g1 g2 g3 d2 e2
  obtain ⟨c0, c1, c2, c3, f0, f1, f2, f3⟩ := HS2.out.qx
  obtain ⟨a0, a1, a2, a3, g0, g1, g2, g3⟩ := HS2.out.qa
  have d1 := HS2.out.r.c1
  have d2 := HS2.out.r.c2
  have hXp := HS2.out.hpX
  have hAX := HS2.out.hX
  have hAp := HS2.out.hp
  simp only at d1 d2
  by_cases h0 : ee = 0
  · subst h0
    have hg := HG.out
    unfold outI at hg
    rw [if_pos rfl] at hg
    cases hg
    go_wp2_with fail
    go_region
    obtain ⟨wf, hwf, ⟨q0, q1, q2, q3, _, _, _, _⟩, hbf, hof⟩ := get_fin2 (w := w) HS2.out.qa (Nat.le_refl _) HS2.out.r.base (.int .i64 op) (.int .i64 a) (.int .i64 0) (.slice none 0 0)
    rw [hwf]
    clear hwf hof
    go_wp2_with fail
    refine bodyPost_ret (v := .tuple #[iv op a 0  none 0 0, .int .i64 ke, .int .i64 0]) (by simp [results, Try.results46, go_sem, q0, q1, q2, q3]) rfl ⟨_, _, _, rfl, Own.nil _ _ _ _, hbf⟩
  · have h0' : (ee != 0) = true := by simp [h0]
    have hg := HG.out
    unfold outI at hg
    rw [if_neg h0] at hg
    cases hg
    go_wp2_with fail
    go_region
    obtain ⟨wf, hwf, ⟨q0, q1, q2, q3, _, _, _, _⟩, hbf, hof⟩ := get_fin2 (w := w) HS2.out.qa (Nat.le_refl _) HS2.out.r.base (.int .i64 0) (.int .i64 0) (.int .i64 0) (.slice none 0 0)
    rw [hwf]
    clear hwf hof
    go_wp2_with fail
    refine bodyPost_ret (v := .tuple #[iv 0 0 0 none 0 0, .int .i64 (0 : Nat), .int .i64 ee]) (by simp [results, Try.results46, go_sem, q0, q1, q2, q3]) rfl ⟨_, _, _, rfl, Own.nil _ _ _ _, hbf⟩

set_option maxHeartbeats 1000000 in
theorem getI_7 (ao : Option Addr) (n cap : Nat) (xs : List Int) (w : World) (hr : Rd .u8 w ao n cap xs) (op : Int) (i1 : Nat) (h1 : rOne xs ⟨0, 0⟩ = (op, ⟨i1, 0⟩)) (hs : sh op = 7) (x : Int) (s3 s4 : RS) (h4 : rOne xs ⟨i1, 0⟩ = (x, s3)) (h5 : need (x == 0) s3 = s4) (I : Ins) (k : Nat) (er : Int) (hg : outI ⟨op, 0, 0, []⟩ s4 = (I, k, er)) :
    Calls Try.prog 46 #[.slice ao n cap] w (RetG w I k er) := by
  obtain ⟨w0, hw0⟩ : ∃ w0, w0 = (w.alloc (.cells #[.int .i64 0, .int .i64 0, .int .i64 0, .slice none 0 0] 39)).alloc (.cells #[.slice ao n cap, .int .i64 0, .int .i64 0] 94) := ⟨_, rfl⟩
  have hop : 0 ≤ op ∧ op ≤ 255 := rOne_bd (fun x hx => bounds_u8 (hr.wf x hx)) h1
  have hR : Rdr w w0 (w.heap.size + 1) ao n cap xs ⟨0, 0⟩ := by
    rw [hw0]
    refine ⟨Bl.alloc (Bl.alloc (Bl.refl w) _) _, by omega, hr, ?_, ?_, ?_, ?_, ?_, Nat.zero_le _⟩ <;> go_simp
  have hQ : Quad w0 w.heap.size (.int .i64 0) (.int .i64 0) (.int .i64 0) (.slice none 0 0) := by
    rw [hw0]
    exact (Quad.new w _ _ _ _ _).below (Bl.alloc (Bl.refl _) _)
  have HR := hid hR
  have HQ := hid hQ
  have HW := hid hw0
  have H1 := hid h1
  have Hs := hid hs
  have HG := hid hg
  have hlt0 := hR.lt
  have H4 := hid h4
  have H5 := hid h5
  clear h4 h5
  clear hR hQ hw0 h1 hg hr hs
  go_enter Try.func46, Try.ntmps46
  go_wp2_with fail
  rw [← HW.out]
  refine (octet_to w w0 (w.heap.size + 1) ao n cap xs ⟨0, 0⟩ HR.out op ⟨i1, 0⟩ H1.out).mono ?_
  rintro e w1 ⟨rfl, R1, M1⟩
  obtain ⟨p, hp⟩ : ∃ p, p = w.heap.size + 1 := ⟨_, rfl⟩
  rw [← hp] at R1 M1 ⊢
  have hsz1 : w.heap.size < w1.heap.size := by have := R1.lt; omega
  have hpl := R1.lt
  have HS0 : Hid (Sg w (w1.alloc (.cells #[.int .i64 op, .int .i64 0, .int .i64 0, .slice none 0 0] 39)) p ao n cap xs w1.heap.size ⟨i1, 0⟩ op 0 0 none 0 0) :=
    ⟨R1.below (Bl.alloc (Bl.refl _) _), (HQ.out.mv M1 (by omega)).below (Bl.alloc (Bl.refl _) _), Quad.new w1 _ _ _ _ _, by omega, hsz1, by omega⟩
  have d2 := R1.c2
  have e2 := R1.f2
  simp only at d2
  clear R1 M1 HR HQ HW hp H1
  go_wp2_with (go_at_call 28; refine (form_to _ _ Hs.out _).mono ?_; rintro e w' ⟨rfl, rfl⟩)
  obtain ⟨X, hX⟩ : ∃ X, X = w1.heap.size := ⟨_, rfl⟩
  obtain ⟨w2, hw2⟩ : ∃ w2, w2 = w1.alloc (.cells #[.int .i64 op, .int .i64 0, .int .i64 0, .slice none 0 0] 39) := ⟨_, rfl⟩
  rw [← hX, ← hw2] at HS0
  clear d2 e2
  rw [← hX, ← hw2]
  clear hX hw2
  obtain ⟨c0, c1, c2, c3, f0, f1, f2, f3⟩ := HS0.out.qx
  obtain ⟨a0, a1, a2, a3, g0, g1, g2, g3⟩ := HS0.out.qa
  have d2 := HS0.out.r.c2
  have e2 := HS0.out.r.f2
  refine (nought_to w _ p ao n cap xs _ HS0.out.r x s3 s4 H4.out H5.out).mono ?_
  rintro e w3 ⟨rfl, R, M⟩
  have HS1 := hid (HS0.out.go ⟨R, M⟩)
  clear R M c0 c1 c2 c3 f0 f1 f2 f3 a0 a1 a2 a3 g0 g1 g2 g3 d2 e2
  obtain ⟨c0, c1, c2, c3, f0, f1, f2, f3⟩ := HS1.out.qx
  obtain ⟨a0, a1, a2, a3, g0, g1, g2, g3⟩ := HS1.out.qa
  have d2 := HS1.out.r.c2
  have e2 := HS1.out.r.f2
  obtain ⟨⟨ke, ee⟩, hse⟩ : ∃ sz : RS, sz = s4 := ⟨_, rfl⟩
  rw [← hse] at HG HS1
  clear hse c0 c1 c2 c3 f0 f1 f2 f3 a0 a1 a2 a3 g0 g1 g2 g3 d2 e2
  obtain ⟨c0, c1, c2, c3, f0, f1, f2, f3⟩ := HS1.out.qx
  obtain ⟨a0, a1, a2, a3, g0, g1, g2, g3⟩ := HS1.out.qa
  have d1 := HS1.out.r.c1
  have d2 := HS1.out.r.c2
  have hXp := HS1.out.hpX
  have hAX := HS1.out.hX
  have hAp := HS1.out.hp
  simp only at d1 d2
  by_cases h0 : ee = 0
  · subst h0
    have hg := HG.out
    unfold outI at hg
    rw [if_pos rfl] at hg
    cases hg
    go_wp2_with fail
    go_region
    obtain ⟨wf, hwf, ⟨q0, q1, q2, q3, _, _, _, _⟩, hbf, hof⟩ := get_fin2 (w := w) HS1.out.qa (Nat.le_refl _) HS1.out.r.base (.int .i64 op) (.int .i64 0) (.int .i64 0) (.slice none 0 0)
    rw [hwf]
    clear hwf hof
    go_wp2_with fail
    refine bodyPost_ret (v := .tuple #[iv op 0 0  none 0 0, .int .i64 ke, .int .i64 0]) (by simp [results, Try.results46, go_sem, q0, q1, q2, q3]) rfl ⟨_, _, _, rfl, Own.nil _ _ _ _, hbf⟩
  · have h0' : (ee != 0) = true := by simp [h0]
    have hg := HG.out
    unfold outI at hg
    rw [if_neg h0] at hg
    cases hg
    go_wp2_with fail
    go_region
    obtain ⟨wf, hwf, ⟨q0, q1, q2, q3, _, _, _, _⟩, hbf, hof⟩ := get_fin2 (w := w) HS1.out.qa (Nat.le_refl _) HS1.out.r.base (.int .i64 0) (.int .i64 0) (.int .i64 0) (.slice none 0 0)
    rw [hwf]
    clear hwf hof
    go_wp2_with fail
    refine bodyPost_ret (v := .tuple #[iv 0 0 0 none 0 0, .int .i64 (0 : Nat), .int .i64 ee]) (by simp [results, Try.results46, go_sem, q0, q1, q2, q3]) rfl ⟨_, _, _, rfl, Own.nil _ _ _ _, hbf⟩

set_option maxHeartbeats 1000000 in
theorem getI_6 (ao : Option Addr) (n cap : Nat) (xs : List Int) (w : World) (hr : Rd .u8 w ao n cap xs) (op : Int) (i1 : Nat) (h1 : rOne xs ⟨0, 0⟩ = (op, ⟨i1, 0⟩)) (hs : sh op = 6) (a : Int) (s1 s2 : RS) (h2 : rU xs ⟨i1, 0⟩ = (a, s1)) (h3 : need (decide (a ≤ 3)) s1 = s2) (b : Int) (s3 : RS) (h4 : rU xs s2 = (b, s3)) (I : Ins) (k : Nat) (er : Int) (hg : outI ⟨op, a, b, []⟩ s3 = (I, k, er)) :
    Calls Try.prog 46 #[.slice ao n cap] w (RetG w I k er) := by
  obtain ⟨w0, hw0⟩ : ∃ w0, w0 = (w.alloc (.cells #[.int .i64 0, .int .i64 0, .int .i64 0, .slice none 0 0] 39)).alloc (.cells #[.slice ao n cap, .int .i64 0, .int .i64 0] 94) := ⟨_, rfl⟩
  have hop : 0 ≤ op ∧ op ≤ 255 := rOne_bd (fun x hx => bounds_u8 (hr.wf x hx)) h1
  have hR : Rdr w w0 (w.heap.size + 1) ao n cap xs ⟨0, 0⟩ := by
    rw [hw0]
    refine ⟨Bl.alloc (Bl.alloc (Bl.refl w) _) _, by omega, hr, ?_, ?_, ?_, ?_, ?_, Nat.zero_le _⟩ <;> go_simp
  have hQ : Quad w0 w.heap.size (.int .i64 0) (.int .i64 0) (.int .i64 0) (.slice none 0 0) := by
    rw [hw0]
    exact (Quad.new w _ _ _ _ _).below (Bl.alloc (Bl.refl _) _)
  have HR := hid hR
  have HQ := hid hQ
  have HW := hid hw0
  have H1 := hid h1
  have Hs := hid hs
  have HG := hid hg
  have hlt0 := hR.lt
  have H2 := hid h2
  have H3 := hid h3
  have H4 := hid h4
  clear h2 h3 h4
  clear hR hQ hw0 h1 hg hr hs
  go_enter Try.func46, Try.ntmps46
  go_wp2_with fail
  rw [← HW.out]
  refine (octet_to w w0 (w.heap.size + 1) ao n cap xs ⟨0, 0⟩ HR.out op ⟨i1, 0⟩ H1.out).mono ?_
  rintro e w1 ⟨rfl, R1, M1⟩
  obtain ⟨p, hp⟩ : ∃ p, p = w.heap.size + 1 := ⟨_, rfl⟩
  rw [← hp] at R1 M1 ⊢
  have hsz1 : w.heap.size < w1.heap.size := by have := R1.lt; omega
  have hpl := R1.lt
  have HS0 : Hid (Sg w (w1.alloc (.cells #[.int .i64 op, .int .i64 0, .int .i64 0, .slice none 0 0] 39)) p ao n cap xs w1.heap.size ⟨i1, 0⟩ op 0 0 none 0 0) :=
    ⟨R1.below (Bl.alloc (Bl.refl _) _), (HQ.out.mv M1 (by omega)).below (Bl.alloc (Bl.refl _) _), Quad.new w1 _ _ _ _ _, by omega, hsz1, by omega⟩
  have d2 := R1.c2
  have e2 := R1.f2
  simp only at d2
  clear R1 M1 HR HQ HW hp H1
  go_wp2_with (go_at_call 28; refine (form_to _ _ Hs.out _).mono ?_; rintro e w' ⟨rfl, rfl⟩)
  obtain ⟨X, hX⟩ : ∃ X, X = w1.heap.size := ⟨_, rfl⟩
  obtain ⟨w2, hw2⟩ : ∃ w2, w2 = w1.alloc (.cells #[.int .i64 op, .int .i64 0, .int .i64 0, .slice none 0 0] 39) := ⟨_, rfl⟩
  rw [← hX, ← hw2] at HS0
  clear d2 e2
  rw [← hX, ← hw2]
  clear hX hw2
  obtain ⟨c0, c1, c2, c3, f0, f1, f2, f3⟩ := HS0.out.qx
  obtain ⟨a0, a1, a2, a3, g0, g1, g2, g3⟩ := HS0.out.qa
  have d2 := HS0.out.r.c2
  have e2 := HS0.out.r.f2
  refine (u_to w _ p ao n cap xs _ HS0.out.r 3 a s1 s2 H2.out H3.out).mono ?_
  rintro e w3 ⟨rfl, R, M⟩
  have HT1 := hid (HS0.out.go ⟨R, M⟩)
  have HS1 := hid (HT1.out.set1 a)
  clear R M c0 c1 c2 c3 f0 f1 f2 f3 a0 a1 a2 a3 g0 g1 g2 g3 d2 e2
  obtain ⟨c0, c1, c2, c3, f0, f1, f2, f3⟩ := HT1.out.qx
  obtain ⟨a0, a1, a2, a3, g0, g1, g2, g3⟩ := HT1.out.qa
  have d2 := HT1.out.r.c2
  have e2 := HT1.out.r.f2
  go_wp2_with fail
  refine (u_to w _ p ao n cap xs _ HS1.out.r 4294967295 b s3 s3 H4.out (need_rU H4.out)).mono ?_
  rintro e w4 ⟨rfl, R, M⟩
  have HT2 := hid (HS1.out.go ⟨R, M⟩)
  have HS2 := hid (HT2.out.set2 b)
  clear R M c0 c1 c2 c3 f0 f1 f2 f3 a0 a1 a2 a3 g0 g1 g2 g3 d2 e2
  obtain ⟨c0, c1, c2, c3, f0, f1, f2, f3⟩ := HT2.out.qx
  obtain ⟨a0, a1, a2, a3, g0, g1, g2, g3⟩ := HT2.out.qa
  have d2 := HT2.out.r.c2
  have e2 := HT2.out.r.f2
  obtain ⟨⟨ke, ee⟩, hse⟩ : ∃ sz : RS, sz = s3 := ⟨_, rfl⟩
  rw [← hse] at HG HS2 HT2
  clear hse c0 c1 c2 c3 f0 f1 f2 f3 a0 a1 a2 a3 g0 g1 g2 g3 d2 e2
  obtain ⟨c0, c1, c2, c3, f0, f1, f2, f3⟩ := HT2.out.qx
  obtain ⟨a0, a1, a2, a3, g0, g1, g2, g3⟩ := HT2.out.qa
  have d1 := HT2.out.r.c1
  have d2 := HT2.out.r.c2
  have hXp := HT2.out.hpX
  have hAX := HS2.out.hX
  have hAp := HS2.out.hp
  simp only at d1 d2
  by_cases h0 : ee = 0
  · subst h0
    have hg := HG.out
    unfold outI at hg
    rw [if_pos rfl] at hg
    cases hg
    go_wp2_with fail
    go_region
    obtain ⟨wf, hwf, ⟨q0, q1, q2, q3, _, _, _, _⟩, hbf, hof⟩ := get_fin2 (w := w) HS2.out.qa (Nat.le_refl _) HS2.out.r.base (.int .i64 op) (.int .i64 a) (.int .i64 b) (.slice none 0 0)
    rw [hwf]
    clear hwf hof
    go_wp2_with fail
    refine bodyPost_ret (v := .tuple #[iv op a b  none 0 0, .int .i64 ke, .int .i64 0]) (by simp [results, Try.results46, go_sem, q0, q1, q2, q3]) rfl ⟨_, _, _, rfl, Own.nil _ _ _ _, hbf⟩
  · have h0' : (ee != 0) = true := by simp [h0]
    have hg := HG.out
    unfold outI at hg
    rw [if_neg h0] at hg
    cases hg
    go_wp2_with fail
    go_region
    obtain ⟨wf, hwf, ⟨q0, q1, q2, q3, _, _, _, _⟩, hbf, hof⟩ := get_fin2 (w := w) HS2.out.qa (Nat.le_refl _) HS2.out.r.base (.int .i64 0) (.int .i64 0) (.int .i64 0) (.slice none 0 0)
    rw [hwf]
    clear hwf hof
    go_wp2_with fail
    refine bodyPost_ret (v := .tuple #[iv 0 0 0 none 0 0, .int .i64 (0 : Nat), .int .i64 ee]) (by simp [results, Try.results46, go_sem, q0, q1, q2, q3]) rfl ⟨_, _, _, rfl, Own.nil _ _ _ _, hbf⟩

set_option maxHeartbeats 1000000 in
theorem getI_8 (ao : Option Addr) (n cap : Nat) (xs : List Int) (w : World) (hr : Rd .u8 w ao n cap xs) (op : Int) (i1 : Nat) (h1 : rOne xs ⟨0, 0⟩ = (op, ⟨i1, 0⟩)) (hs : sh op = 8) (a : Int) (s2 : RS) (h2 : rS 32 xs ⟨i1, 0⟩ = (a, s2)) (I : Ins) (k : Nat) (er : Int) (hg : outI ⟨op, a, 0, []⟩ s2 = (I, k, er)) :
    Calls Try.prog 46 #[.slice ao n cap] w (RetG w I k er) := by
  obtain ⟨w0, hw0⟩ : ∃ w0, w0 = (w.alloc (.cells #[.int .i64 0, .int .i64 0, .int .i64 0, .slice none 0 0] 39)).alloc (.cells #[.slice ao n cap, .int .i64 0, .int .i64 0] 94) := ⟨_, rfl⟩
  have hop : 0 ≤ op ∧ op ≤ 255 := rOne_bd (fun x hx => bounds_u8 (hr.wf x hx)) h1
  have hR : Rdr w w0 (w.heap.size + 1) ao n cap xs ⟨0, 0⟩ := by
    rw [hw0]
    refine ⟨Bl.alloc (Bl.alloc (Bl.refl w) _) _, by omega, hr, ?_, ?_, ?_, ?_, ?_, Nat.zero_le _⟩ <;> go_simp
  have hQ : Quad w0 w.heap.size (.int .i64 0) (.int .i64 0) (.int .i64 0) (.slice none 0 0) := by
    rw [hw0]
    exact (Quad.new w _ _ _ _ _).below (Bl.alloc (Bl.refl _) _)
  have HR := hid hR
  have HQ := hid hQ
  have HW := hid hw0
  have H1 := hid h1
  have Hs := hid hs
  have HG := hid hg
  have hlt0 := hR.lt
  have H2 := hid h2
  clear h2
  clear hR hQ hw0 h1 hg hr hs
  go_enter Try.func46, Try.ntmps46
  go_wp2_with fail
  rw [← HW.out]
  refine (octet_to w w0 (w.heap.size + 1) ao n cap xs ⟨0, 0⟩ HR.out op ⟨i1, 0⟩ H1.out).mono ?_
  rintro e w1 ⟨rfl, R1, M1⟩
  obtain ⟨p, hp⟩ : ∃ p, p = w.heap.size + 1 := ⟨_, rfl⟩
  rw [← hp] at R1 M1 ⊢
  have hsz1 : w.heap.size < w1.heap.size := by have := R1.lt; omega
  have hpl := R1.lt
  have HS0 : Hid (Sg w (w1.alloc (.cells #[.int .i64 op, .int .i64 0, .int .i64 0, .slice none 0 0] 39)) p ao n cap xs w1.heap.size ⟨i1, 0⟩ op 0 0 none 0 0) :=
    ⟨R1.below (Bl.alloc (Bl.refl _) _), (HQ.out.mv M1 (by omega)).below (Bl.alloc (Bl.refl _) _), Quad.new w1 _ _ _ _ _, by omega, hsz1, by omega⟩
  have d2 := R1.c2
  have e2 := R1.f2
  simp only at d2
  clear R1 M1 HR HQ HW hp H1
  go_wp2_with (go_at_call 28; refine (form_to _ _ Hs.out _).mono ?_; rintro e w' ⟨rfl, rfl⟩)
  obtain ⟨X, hX⟩ : ∃ X, X = w1.heap.size := ⟨_, rfl⟩
  obtain ⟨w2, hw2⟩ : ∃ w2, w2 = w1.alloc (.cells #[.int .i64 op, .int .i64 0, .int .i64 0, .slice none 0 0] 39) := ⟨_, rfl⟩
  rw [← hX, ← hw2] at HS0
  clear d2 e2
  rw [← hX, ← hw2]
  clear hX hw2
  obtain ⟨c0, c1, c2, c3, f0, f1, f2, f3⟩ := HS0.out.qx
  obtain ⟨a0, a1, a2, a3, g0, g1, g2, g3⟩ := HS0.out.qa
  have d2 := HS0.out.r.c2
  have e2 := HS0.out.r.f2
  refine (s_to w _ p ao n cap xs _ HS0.out.r 32 (by omega) (by omega) a s2 H2.out).mono ?_
  rintro e w3 ⟨rfl, R, M⟩
  have HT1 := hid (HS0.out.go ⟨R, M⟩)
  have HS1 := hid (HT1.out.set1 a)
  clear R M c0 c1 c2 c3 f0 f1 f2 f3 a0 a1 a2 a3 g0 g1 g2 g3 d2 e2
  obtain ⟨c0, c1, c2, c3, f0, f1, f2, f3⟩ := HT1.out.qx
  obtain ⟨a0, a1, a2, a3, g0, g1, g2, g3⟩ := HT1.out.qa
  have d2 := HT1.out.r.c2
  have e2 := HT1.out.r.f2
  obtain ⟨⟨ke, ee⟩, hse⟩ : ∃ sz : RS, sz = s2 := ⟨_, rfl⟩
  rw [← hse] at HG HS1 HT1
  clear hse c0 c1 c2 c3 f0 f1 f2 f3 a0 a1 a2 a3 g0 g1 g2 g3 d2 e2
  obtain ⟨c0, c1, c2, c3, f0, f1, f2, f3⟩ := HT1.out.qx
  obtain ⟨a0, a1, a2, a3, g0, g1, g2, g3⟩ := HT1.out.qa
  have d1 := HT1.out.r.c1
  have d2 := HT1.out.r.c2
  have hXp := HT1.out.hpX
  have hAX := HS1.out.hX
  have hAp := HS1.out.hp
  simp only at d1 d2
  by_cases h0 : ee = 0
  · subst h0
    have hg := HG.out
    unfold outI at hg
    rw [if_pos rfl] at hg
    cases hg
    go_wp2_with fail
    go_region
    obtain ⟨wf, hwf, ⟨q0, q1, q2, q3, _, _, _, _⟩, hbf, hof⟩ := get_fin2 (w := w) HS1.out.qa (Nat.le_refl _) HS1.out.r.base (.int .i64 op) (.int .i64 a) (.int .i64 0) (.slice none 0 0)
    rw [hwf]
    clear hwf hof
    go_wp2_with fail
    refine bodyPost_ret (v := .tuple #[iv op a 0  none 0 0, .int .i64 ke, .int .i64 0]) (by simp [results, Try.results46, go_sem, q0, q1, q2, q3]) rfl ⟨_, _, _, rfl, Own.nil _ _ _ _, hbf⟩
  · have h0' : (ee != 0) = true := by simp [h0]
    have hg := HG.out
    unfold outI at hg
    rw [if_neg h0] at hg
    cases hg
    go_wp2_with fail
    go_region
    obtain ⟨wf, hwf, ⟨q0, q1, q2, q3, _, _, _, _⟩, hbf, hof⟩ := get_fin2 (w := w) HS1.out.qa (Nat.le_refl _) HS1.out.r.base (.int .i64 0) (.int .i64 0) (.int .i64 0) (.slice none 0 0)
    rw [hwf]
    clear hwf hof
    go_wp2_with fail
    refine bodyPost_ret (v := .tuple #[iv 0 0 0 none 0 0, .int .i64 (0 : Nat), .int .i64 ee]) (by simp [results, Try.results46, go_sem, q0, q1, q2, q3]) rfl ⟨_, _, _, rfl, Own.nil _ _ _ _, hbf⟩

set_option maxHeartbeats 1000000 in
theorem getI_9 (ao : Option Addr) (n cap : Nat) (xs : List Int) (w : World) (hr : Rd .u8 w ao n cap xs) (op : Int) (i1 : Nat) (h1 : rOne xs ⟨0, 0⟩ = (op, ⟨i1, 0⟩)) (hs : sh op = 9) (a : Int) (s2 : RS) (h2 : rS 64 xs ⟨i1, 0⟩ = (a, s2)) (I : Ins) (k : Nat) (er : Int) (hg : outI ⟨op, a, 0, []⟩ s2 = (I, k, er)) :
    Calls Try.prog 46 #[.slice ao n cap] w (RetG w I k er) := by
  obtain ⟨w0, hw0⟩ : ∃ w0, w0 = (w.alloc (.cells #[.int .i64 0, .int .i64 0, .int .i64 0, .slice none 0 0] 39)).alloc (.cells #[.slice ao n cap, .int .i64 0, .int .i64 0] 94) := ⟨_, rfl⟩
  have hop : 0 ≤ op ∧ op ≤ 255 := rOne_bd (fun x hx => bounds_u8 (hr.wf x hx)) h1
  have hR : Rdr w w0 (w.heap.size + 1) ao n cap xs ⟨0, 0⟩ := by
    rw [hw0]
    refine ⟨Bl.alloc (Bl.alloc (Bl.refl w) _) _, by omega, hr, ?_, ?_, ?_, ?_, ?_, Nat.zero_le _⟩ <;> go_simp
  have hQ : Quad w0 w.heap.size (.int .i64 0) (.int .i64 0) (.int .i64 0) (.slice none 0 0) := by
    rw [hw0]
    exact (Quad.new w _ _ _ _ _).below (Bl.alloc (Bl.refl _) _)
  have HR := hid hR
  have HQ := hid hQ
  have HW := hid hw0
  have H1 := hid h1
  have Hs := hid hs
  have HG := hid hg
  have hlt0 := hR.lt
  have H2 := hid h2
  clear h2
  clear hR hQ hw0 h1 hg hr hs
  go_enter Try.func46, Try.ntmps46
  go_wp2_with fail
  rw [← HW.out]
  refine (octet_to w w0 (w.heap.size + 1) ao n cap xs ⟨0, 0⟩ HR.out op ⟨i1, 0⟩ H1.out).mono ?_
  rintro e w1 ⟨rfl, R1, M1⟩
  obtain ⟨p, hp⟩ : ∃ p, p = w.heap.size + 1 := ⟨_, rfl⟩
  rw [← hp] at R1 M1 ⊢
  have hsz1 : w.heap.size < w1.heap.size := by have := R1.lt; omega
  have hpl := R1.lt
  have HS0 : Hid (Sg w (w1.alloc (.cells #[.int .i64 op, .int .i64 0, .int .i64 0, .slice none 0 0] 39)) p ao n cap xs w1.heap.size ⟨i1, 0⟩ op 0 0 none 0 0) :=
    ⟨R1.below (Bl.alloc (Bl.refl _) _), (HQ.out.mv M1 (by omega)).below (Bl.alloc (Bl.refl _) _), Quad.new w1 _ _ _ _ _, by omega, hsz1, by omega⟩
  have d2 := R1.c2
  have e2 := R1.f2
  simp only at d2
  clear R1 M1 HR HQ HW hp H1
  go_wp2_with (go_at_call 28; refine (form_to _ _ Hs.out _).mono ?_; rintro e w' ⟨rfl, rfl⟩)
  obtain ⟨X, hX⟩ : ∃ X, X = w1.heap.size := ⟨_, rfl⟩
  obtain ⟨w2, hw2⟩ : ∃ w2, w2 = w1.alloc (.cells #[.int .i64 op, .int .i64 0, .int .i64 0, .slice none 0 0] 39) := ⟨_, rfl⟩
  rw [← hX, ← hw2] at HS0
  clear d2 e2
  rw [← hX, ← hw2]
  clear hX hw2
  obtain ⟨c0, c1, c2, c3, f0, f1, f2, f3⟩ := HS0.out.qx
  obtain ⟨a0, a1, a2, a3, g0, g1, g2, g3⟩ := HS0.out.qa
  have d2 := HS0.out.r.c2
  have e2 := HS0.out.r.f2
  refine (s_to w _ p ao n cap xs _ HS0.out.r 64 (by omega) (by omega) a s2 H2.out).mono ?_
  rintro e w3 ⟨rfl, R, M⟩
  have HT1 := hid (HS0.out.go ⟨R, M⟩)
  have HS1 := hid (HT1.out.set1 a)
  clear R M c0 c1 c2 c3 f0 f1 f2 f3 a0 a1 a2 a3 g0 g1 g2 g3 d2 e2
  obtain ⟨c0, c1, c2, c3, f0, f1, f2, f3⟩ := HT1.out.qx
  obtain ⟨a0, a1, a2, a3, g0, g1, g2, g3⟩ := HT1.out.qa
  have d2 := HT1.out.r.c2
  have e2 := HT1.out.r.f2
  obtain ⟨⟨ke, ee⟩, hse⟩ : ∃ sz : RS, sz = s2 := ⟨_, rfl⟩
  rw [← hse] at HG HS1 HT1
  clear hse c0 c1 c2 c3 f0 f1 f2 f3 a0 a1 a2 a3 g0 g1 g2 g3 d2 e2
  obtain ⟨c0, c1, c2, c3, f0, f1, f2, f3⟩ := HT1.out.qx
  obtain ⟨a0, a1, a2, a3, g0, g1, g2, g3⟩ := HT1.out.qa
  have d1 := HT1.out.r.c1
  have d2 := HT1.out.r.c2
  have hXp := HT1.out.hpX
  have hAX := HS1.out.hX
  have hAp := HS1.out.hp
  simp only at d1 d2
  by_cases h0 : ee = 0
  · subst h0
    have hg := HG.out
    unfold outI at hg
    rw [if_pos rfl] at hg
    cases hg
    go_wp2_with fail
    go_region
    obtain ⟨wf, hwf, ⟨q0, q1, q2, q3, _, _, _, _⟩, hbf, hof⟩ := get_fin2 (w := w) HS1.out.qa (Nat.le_refl _) HS1.out.r.base (.int .i64 op) (.int .i64 a) (.int .i64 0) (.slice none 0 0)
    rw [hwf]
    clear hwf hof
    go_wp2_with fail
    refine bodyPost_ret (v := .tuple #[iv op a 0  none 0 0, .int .i64 ke, .int .i64 0]) (by simp [results, Try.results46, go_sem, q0, q1, q2, q3]) rfl ⟨_, _, _, rfl, Own.nil _ _ _ _, hbf⟩
  · have h0' : (ee != 0) = true := by simp [h0]
    have hg := HG.out
    unfold outI at hg
    rw [if_neg h0] at hg
    cases hg
    go_wp2_with fail
    go_region
    obtain ⟨wf, hwf, ⟨q0, q1, q2, q3, _, _, _, _⟩, hbf, hof⟩ := get_fin2 (w := w) HS1.out.qa (Nat.le_refl _) HS1.out.r.base (.int .i64 0) (.int .i64 0) (.int .i64 0) (.slice none 0 0)
    rw [hwf]
    clear hwf hof
    go_wp2_with fail
    refine bodyPost_ret (v := .tuple #[iv 0 0 0 none 0 0, .int .i64 (0 : Nat), .int .i64 ee]) (by simp [results, Try.results46, go_sem, q0, q1, q2, q3]) rfl ⟨_, _, _, rfl, Own.nil _ _ _ _, hbf⟩

set_option maxHeartbeats 1000000 in
theorem getI_1 (ao : Option Addr) (n cap : Nat) (xs : List Int) (w : World) (hr : Rd .u8 w ao n cap xs) (op : Int) (i1 : Nat) (er1 : Int) (h1 : rOne xs ⟨0, 0⟩ = (op, ⟨i1, er1⟩)) (hs : sh op = 1)  (I : Ins) (k : Nat) (er : Int) (hg : outI ⟨op, 0, 0, []⟩ ⟨i1, er1⟩ = (I, k, er)) :
    Calls Try.prog 46 #[.slice ao n cap] w (RetG w I k er) := by
  obtain ⟨w0, hw0⟩ : ∃ w0, w0 = (w.alloc (.cells #[.int .i64 0, .int .i64 0, .int .i64 0, .slice none 0 0] 39)).alloc (.cells #[.slice ao n cap, .int .i64 0, .int .i64 0] 94) := ⟨_, rfl⟩
  have hop : 0 ≤ op ∧ op ≤ 255 := rOne_bd (fun x hx => bounds_u8 (hr.wf x hx)) h1
  have hR : Rdr w w0 (w.heap.size + 1) ao n cap xs ⟨0, 0⟩ := by
    rw [hw0]
    refine ⟨Bl.alloc (Bl.alloc (Bl.refl w) _) _, by omega, hr, ?_, ?_, ?_, ?_, ?_, Nat.zero_le _⟩ <;> go_simp
  have hQ : Quad w0 w.heap.size (.int .i64 0) (.int .i64 0) (.int .i64 0) (.slice none 0 0) := by
    rw [hw0]
    exact (Quad.new w _ _ _ _ _).below (Bl.alloc (Bl.refl _) _)
  have HR := hid hR
  have HQ := hid hQ
  have HW := hid hw0
  have H1 := hid h1
  have Hs := hid hs
  have HG := hid hg
  have hlt0 := hR.lt
  clear hR hQ hw0 h1 hg hr hs
  go_enter Try.func46, Try.ntmps46
  go_wp2_with fail
  rw [← HW.out]
  refine (octet_to w w0 (w.heap.size + 1) ao n cap xs ⟨0, 0⟩ HR.out op ⟨i1, er1⟩ H1.out).mono ?_
  rintro e w1 ⟨rfl, R1, M1⟩
  obtain ⟨p, hp⟩ : ∃ p, p = w.heap.size + 1 := ⟨_, rfl⟩
  rw [← hp] at R1 M1 ⊢
  have hsz1 : w.heap.size < w1.heap.size := by have := R1.lt; omega
  have hpl := R1.lt
  have HS0 : Hid (Sg w (w1.alloc (.cells #[.int .i64 op, .int .i64 0, .int .i64 0, .slice none 0 0] 39)) p ao n cap xs w1.heap.size ⟨i1, er1⟩ op 0 0 none 0 0) :=
    ⟨R1.below (Bl.alloc (Bl.refl _) _), (HQ.out.mv M1 (by omega)).below (Bl.alloc (Bl.refl _) _), Quad.new w1 _ _ _ _ _, by omega, hsz1, by omega⟩
  have d2 := R1.c2
  have e2 := R1.f2
  simp only at d2
  clear R1 M1 HR HQ HW hp H1
  obtain ⟨X, hX⟩ : ∃ X, X = w1.heap.size := ⟨_, rfl⟩
  obtain ⟨w2, hw2⟩ : ∃ w2, w2 = w1.alloc (.cells #[.int .i64 op, .int .i64 0, .int .i64 0, .slice none 0 0] 39) := ⟨_, rfl⟩
  have HX := hid hX
  have HV := hid hw2
  rw [← hX, ← hw2] at HS0
  clear hX hw2
  have d1 := HS0.out.r.c1
  have hXp := HS0.out.hpX
  have hAX := HS0.out.hX
  have hAp := HS0.out.hp
  by_cases h0 : er1 = 0
  · subst h0
    have hg := HG.out
    unfold outI at hg
    rw [if_pos rfl] at hg
    cases hg
    go_wp2_with fail
    rw [← HX.out, ← HV.out]
    clear d2 e2
    obtain ⟨c0, c1, c2, c3, f0, f1, f2, f3⟩ := HS0.out.qx
    obtain ⟨a0, a1, a2, a3, g0, g1, g2, g3⟩ := HS0.out.qa
    have d2 := HS0.out.r.c2
    simp only at d1 d2
    go_wp2_with (go_at_call 28; refine (form_to _ _ Hs.out _).mono ?_; rintro e w' ⟨rfl, rfl⟩)
    go_region
    obtain ⟨wf, hwf, ⟨q0, q1, q2, q3, _, _, _, _⟩, hbf, hof⟩ := get_fin2 (w := w) HS0.out.qa (Nat.le_refl _) HS0.out.r.base (.int .i64 op) (.int .i64 0) (.int .i64 0) (.slice none 0 0)
    rw [hwf]
    clear hwf hof
    go_wp2_with fail
    refine bodyPost_ret (v := .tuple #[iv op 0 0 none 0 0, .int .i64 i1, .int .i64 0]) (by simp [results, Try.results46, go_sem, q0, q1, q2, q3]) rfl ⟨_, _, _, rfl, Own.nil _ _ _ _, hbf⟩
  · have h0' : (er1 != 0) = true := by simp [h0]
    have h0'' : (er1 == 0) = false := by simp [h0]
    have hg := HG.out
    unfold outI at hg
    rw [if_neg h0] at hg
    cases hg
    go_wp2_with fail
    rw [← HX.out, ← HV.out]
    clear d2 e2
    obtain ⟨c0, c1, c2, c3, f0, f1, f2, f3⟩ := HS0.out.qx
    obtain ⟨a0, a1, a2, a3, g0, g1, g2, g3⟩ := HS0.out.qa
    have d2 := HS0.out.r.c2
    simp only at d1 d2
    go_wp2_with (go_at_call 28; refine (form_to _ _ Hs.out _).mono ?_; rintro e w' ⟨rfl, rfl⟩)
    go_region
    obtain ⟨wf, hwf, ⟨q0, q1, q2, q3, _, _, _, _⟩, hbf, hof⟩ := get_fin2 (w := w) HS0.out.qa (Nat.le_refl _) HS0.out.r.base (.int .i64 0) (.int .i64 0) (.int .i64 0) (.slice none 0 0)
    rw [hwf]
    clear hwf hof
    go_wp2_with fail
    refine bodyPost_ret (v := .tuple #[iv 0 0 0 none 0 0, .int .i64 (0 : Nat), .int .i64 er1]) (by simp [results, Try.results46, go_sem, q0, q1, q2, q3]) rfl ⟨_, _, _, rfl, Own.nil _ _ _ _, hbf⟩

set_option maxHeartbeats 1000000 in
theorem getI_0 (ao : Option Addr) (n cap : Nat) (xs : List Int) (w : World) (hr : Rd .u8 w ao n cap xs) (op : Int) (i1 : Nat) (h1 : rOne xs ⟨0, 0⟩ = (op, ⟨i1, 0⟩)) (hs : sh op = 0)  (I : Ins) (k : Nat) (er : Int) (hg : outI ⟨op, 0, 0, []⟩ ⟨i1, 1⟩ = (I, k, er)) :
    Calls Try.prog 46 #[.slice ao n cap] w (RetG w I k er) := by
  obtain ⟨w0, hw0⟩ : ∃ w0, w0 = (w.alloc (.cells #[.int .i64 0, .int .i64 0, .int .i64 0, .slice none 0 0] 39)).alloc (.cells #[.slice ao n cap, .int .i64 0, .int .i64 0] 94) := ⟨_, rfl⟩
  have hop : 0 ≤ op ∧ op ≤ 255 := rOne_bd (fun x hx => bounds_u8 (hr.wf x hx)) h1
  have hR : Rdr w w0 (w.heap.size + 1) ao n cap xs ⟨0, 0⟩ := by
    rw [hw0]
    refine ⟨Bl.alloc (Bl.alloc (Bl.refl w) _) _, by omega, hr, ?_, ?_, ?_, ?_, ?_, Nat.zero_le _⟩ <;> go_simp
  have hQ : Quad w0 w.heap.size (.int .i64 0) (.int .i64 0) (.int .i64 0) (.slice none 0 0) := by
    rw [hw0]
    exact (Quad.new w _ _ _ _ _).below (Bl.alloc (Bl.refl _) _)
  have HR := hid hR
  have HQ := hid hQ
  have HW := hid hw0
  have H1 := hid h1
  have Hs := hid hs
  have HG := hid hg
  have hlt0 := hR.lt
  clear hR hQ hw0 h1 hg hr hs
  go_enter Try.func46, Try.ntmps46
  go_wp2_with fail
  rw [← HW.out]
  refine (octet_to w w0 (w.heap.size + 1) ao n cap xs ⟨0, 0⟩ HR.out op ⟨i1, 0⟩ H1.out).mono ?_
  rintro e w1 ⟨rfl, R1, M1⟩
  obtain ⟨p, hp⟩ : ∃ p, p = w.heap.size + 1 := ⟨_, rfl⟩
  rw [← hp] at R1 M1 ⊢
  have hsz1 : w.heap.size < w1.heap.size := by have := R1.lt; omega
  have hpl := R1.lt
  have HS0 : Hid (Sg w (w1.alloc (.cells #[.int .i64 op, .int .i64 0, .int .i64 0, .slice none 0 0] 39)) p ao n cap xs w1.heap.size ⟨i1, 0⟩ op 0 0 none 0 0) :=
    ⟨R1.below (Bl.alloc (Bl.refl _) _), (HQ.out.mv M1 (by omega)).below (Bl.alloc (Bl.refl _) _), Quad.new w1 _ _ _ _ _, by omega, hsz1, by omega⟩
  have d2 := R1.c2
  have e2 := R1.f2
  simp only at d2
  clear R1 M1 HR HQ HW hp H1
  have hg := HG.out
  unfold outI at hg
  rw [if_neg (show ¬ (1 : Int) = 0 by decide)] at hg
  cases hg
  obtain ⟨X, hX⟩ : ∃ X, X = w1.heap.size := ⟨_, rfl⟩
  obtain ⟨w2, hw2⟩ : ∃ w2, w2 = w1.alloc (.cells #[.int .i64 op, .int .i64 0, .int .i64 0, .slice none 0 0] 39) := ⟨_, rfl⟩
  have HX := hid hX
  have HV := hid hw2
  rw [← hX, ← hw2] at HS0
  clear hX hw2
  have hXp := HS0.out.hpX
  have hAX := HS0.out.hX
  have hAp := HS0.out.hp
  go_wp2_with fail
  rw [← HX.out, ← HV.out]
  clear d2 e2
  obtain ⟨c0, c1, c2, c3, f0, f1, f2, f3⟩ := HS0.out.qx
  obtain ⟨a0, a1, a2, a3, g0, g1, g2, g3⟩ := HS0.out.qa
  have d2 := HS0.out.r.c2
  have e2 := HS0.out.r.f2
  simp only at d2
  have HS1 := hid (HS0.out.go (s' := ⟨i1, 1⟩) ⟨HS0.out.r.setErr 1, Mv.set p 2 _ _⟩)
  refine (form_to _ _ Hs.out _).mono ?_
  rintro e w' ⟨rfl, rfl⟩
  go_wp2_with fail
  refine (form_to _ _ Hs.out _).mono ?_
  rintro e w' ⟨rfl, rfl⟩
  go_wp2_with fail
  go_region
  obtain ⟨wf, hwf, ⟨q0, q1, q2, q3, _, _, _, _⟩, hbf, hof⟩ := get_fin2 (w := w) HS1.out.qa (Nat.le_refl _) HS1.out.r.base (.int .i64 0) (.int .i64 0) (.int .i64 0) (.slice none 0 0)
  rw [hwf]
  clear hwf hof
  go_wp2_with fail
  refine bodyPost_ret (v := .tuple #[iv 0 0 0 none 0 0, .int .i64 (0 : Nat), .int .i64 1]) (by simp [results, Try.results46, go_sem, q0, q1, q2, q3]) rfl ⟨_, _, _, rfl, Own.nil _ _ _ _, hbf⟩

set_option maxHeartbeats 1000000 in
theorem getI_2 (ao : Option Addr) (n cap : Nat) (xs : List Int) (w : World) (hr : Rd .u8 w ao n cap xs) (op : Int) (i1 : Nat) (h1 : rOne xs ⟨0, 0⟩ = (op, ⟨i1, 0⟩)) (hs : sh op = 2) (x : Int) (i2 : Nat) (er2 : Int) (h2 : rOne xs ⟨i1, 0⟩ = (x, ⟨i2, er2⟩)) (I : Ins) (k : Nat) (er : Int) (hg : outI ⟨op, resA x, 0, []⟩ (need (x == 64 || (x == 127 || x == 126)) ⟨i2, er2⟩) = (I, k, er)) :
    Calls Try.prog 46 #[.slice ao n cap] w (RetG w I k er) := by
  obtain ⟨w0, hw0⟩ : ∃ w0, w0 = (w.alloc (.cells #[.int .i64 0, .int .i64 0, .int .i64 0, .slice none 0 0] 39)).alloc (.cells #[.slice ao n cap, .int .i64 0, .int .i64 0] 94) := ⟨_, rfl⟩
  have hop : 0 ≤ op ∧ op ≤ 255 := rOne_bd (fun x hx => bounds_u8 (hr.wf x hx)) h1
  have hR : Rdr w w0 (w.heap.size + 1) ao n cap xs ⟨0, 0⟩ := by
    rw [hw0]
    refine ⟨Bl.alloc (Bl.alloc (Bl.refl w) _) _, by omega, hr, ?_, ?_, ?_, ?_, ?_, Nat.zero_le _⟩ <;> go_simp
  have hQ : Quad w0 w.heap.size (.int .i64 0) (.int .i64 0) (.int .i64 0) (.slice none 0 0) := by
    rw [hw0]
    exact (Quad.new w _ _ _ _ _).below (Bl.alloc (Bl.refl _) _)
  have HR := hid hR
  have HQ := hid hQ
  have HW := hid hw0
  have H1 := hid h1
  have Hs := hid hs
  have HG := hid hg
  have hlt0 := hR.lt
  have H2 := hid h2
  clear h2
  clear hR hQ hw0 h1 hg hr hs
  go_enter Try.func46, Try.ntmps46
  go_wp2_with fail
  rw [← HW.out]
  refine (octet_to w w0 (w.heap.size + 1) ao n cap xs ⟨0, 0⟩ HR.out op ⟨i1, 0⟩ H1.out).mono ?_
  rintro e w1 ⟨rfl, R1, M1⟩
  obtain ⟨p, hp⟩ : ∃ p, p = w.heap.size + 1 := ⟨_, rfl⟩
  rw [← hp] at R1 M1 ⊢
  have hsz1 : w.heap.size < w1.heap.size := by have := R1.lt; omega
  have hpl := R1.lt
  have HS0 : Hid (Sg w (w1.alloc (.cells #[.int .i64 op, .int .i64 0, .int .i64 0, .slice none 0 0] 39)) p ao n cap xs w1.heap.size ⟨i1, 0⟩ op 0 0 none 0 0) :=
    ⟨R1.below (Bl.alloc (Bl.refl _) _), (HQ.out.mv M1 (by omega)).below (Bl.alloc (Bl.refl _) _), Quad.new w1 _ _ _ _ _, by omega, hsz1, by omega⟩
  have d2 := R1.c2
  have e2 := R1.f2
  simp only at d2
  clear R1 M1 HR HQ HW hp H1
  go_wp2_with (go_at_call 28; refine (form_to _ _ Hs.out _).mono ?_; rintro e w' ⟨rfl, rfl⟩)
  obtain ⟨X, hX⟩ : ∃ X, X = w1.heap.size := ⟨_, rfl⟩
  obtain ⟨w2, hw2⟩ : ∃ w2, w2 = w1.alloc (.cells #[.int .i64 op, .int .i64 0, .int .i64 0, .slice none 0 0] 39) := ⟨_, rfl⟩
  rw [← hX, ← hw2] at HS0
  clear d2 e2
  rw [← hX, ← hw2]
  clear hX hw2
  refine (octet_to w _ p ao n cap xs _ HS0.out.r x ⟨i2, er2⟩ H2.out).mono ?_
  rintro e w3 ⟨rfl, R, M⟩
  have HT1 := hid (HS0.out.go ⟨R, M⟩)
  clear R M
  by_cases e127 : x = 127
  · subst e127
    have HG' : Hid (outI ⟨op, 1, 0, []⟩ (⟨i2, er2⟩ : RS) = (I, k, er)) := hid (by have := HG.out; simpa [need, resA] using this)
    have HS1 := hid (HT1.out.set1 1)
    obtain ⟨⟨ke, ee⟩, hse⟩ : ∃ sz : RS, sz = (⟨i2, er2⟩ : RS) := ⟨_, rfl⟩
    rw [← hse] at HG' HS1 HT1
    clear hse
    obtain ⟨c0, c1, c2, c3, f0, f1, f2, f3⟩ := HT1.out.qx
    obtain ⟨a0, a1, a2, a3, g0, g1, g2, g3⟩ := HT1.out.qa
    have d1 := HT1.out.r.c1
    have d2 := HT1.out.r.c2
    have hXp := HT1.out.hpX
    have hAX := HS1.out.hX
    have hAp := HS1.out.hp
    simp only at d1 d2
    by_cases h0 : ee = 0
    · subst h0
      have hg := HG'.out
      unfold outI at hg
      rw [if_pos rfl] at hg
      cases hg
      go_wp2_with fail
      go_region
      obtain ⟨wf, hwf, ⟨q0, q1, q2, q3, _, _, _, _⟩, hbf, hof⟩ := get_fin2 (w := w) HS1.out.qa (Nat.le_refl _) HS1.out.r.base (.int .i64 op) (.int .i64 1) (.int .i64 0) (.slice none 0 0)
      rw [hwf]
      clear hwf hof
      go_wp2_with fail
      refine bodyPost_ret (v := .tuple #[iv op 1 0  none 0 0, .int .i64 ke, .int .i64 0]) (by simp [results, Try.results46, go_sem, q0, q1, q2, q3]) rfl ⟨_, _, _, rfl, Own.nil _ _ _ _, hbf⟩
    · have h0' : (ee != 0) = true := by simp [h0]
      have hg := HG'.out
      unfold outI at hg
      rw [if_neg h0] at hg
      cases hg
      go_wp2_with fail
      go_region
      obtain ⟨wf, hwf, ⟨q0, q1, q2, q3, _, _, _, _⟩, hbf, hof⟩ := get_fin2 (w := w) HS1.out.qa (Nat.le_refl _) HS1.out.r.base (.int .i64 0) (.int .i64 0) (.int .i64 0) (.slice none 0 0)
      rw [hwf]
      clear hwf hof
      go_wp2_with fail
      refine bodyPost_ret (v := .tuple #[iv 0 0 0 none 0 0, .int .i64 (0 : Nat), .int .i64 ee]) (by simp [results, Try.results46, go_sem, q0, q1, q2, q3]) rfl ⟨_, _, _, rfl, Own.nil _ _ _ _, hbf⟩
  by_cases e126 : x = 126
  · subst e126
    have HG' : Hid (outI ⟨op, 2, 0, []⟩ (⟨i2, er2⟩ : RS) = (I, k, er)) := hid (by have := HG.out; simpa [need, resA] using this)
    have HS1 := hid (HT1.out.set1 2)
    obtain ⟨⟨ke, ee⟩, hse⟩ : ∃ sz : RS, sz = (⟨i2, er2⟩ : RS) := ⟨_, rfl⟩
    rw [← hse] at HG' HS1 HT1
    clear hse
    obtain ⟨c0, c1, c2, c3, f0, f1, f2, f3⟩ := HT1.out.qx
    obtain ⟨a0, a1, a2, a3, g0, g1, g2, g3⟩ := HT1.out.qa
    have d1 := HT1.out.r.c1
    have d2 := HT1.out.r.c2
    have hXp := HT1.out.hpX
    have hAX := HS1.out.hX
    have hAp := HS1.out.hp
    simp only at d1 d2
    by_cases h0 : ee = 0
    · subst h0
      have hg := HG'.out
      unfold outI at hg
      rw [if_pos rfl] at hg
      cases hg
      go_wp2_with fail
      go_region
      obtain ⟨wf, hwf, ⟨q0, q1, q2, q3, _, _, _, _⟩, hbf, hof⟩ := get_fin2 (w := w) HS1.out.qa (Nat.le_refl _) HS1.out.r.base (.int .i64 op) (.int .i64 2) (.int .i64 0) (.slice none 0 0)
      rw [hwf]
      clear hwf hof
      go_wp2_with fail
      refine bodyPost_ret (v := .tuple #[iv op 2 0  none 0 0, .int .i64 ke, .int .i64 0]) (by simp [results, Try.results46, go_sem, q0, q1, q2, q3]) rfl ⟨_, _, _, rfl, Own.nil _ _ _ _, hbf⟩
    · have h0' : (ee != 0) = true := by simp [h0]
      have hg := HG'.out
      unfold outI at hg
      rw [if_neg h0] at hg
      cases hg
      go_wp2_with fail
      go_region
      obtain ⟨wf, hwf, ⟨q0, q1, q2, q3, _, _, _, _⟩, hbf, hof⟩ := get_fin2 (w := w) HS1.out.qa (Nat.le_refl _) HS1.out.r.base (.int .i64 0) (.int .i64 0) (.int .i64 0) (.slice none 0 0)
      rw [hwf]
      clear hwf hof
      go_wp2_with fail
      refine bodyPost_ret (v := .tuple #[iv 0 0 0 none 0 0, .int .i64 (0 : Nat), .int .i64 ee]) (by simp [results, Try.results46, go_sem, q0, q1, q2, q3]) rfl ⟨_, _, _, rfl, Own.nil _ _ _ _, hbf⟩
  by_cases e64 : x = 64
  · subst e64
    have HG' : Hid (outI ⟨op, 0, 0, []⟩ (⟨i2, er2⟩ : RS) = (I, k, er)) := hid (by have := HG.out; simpa [need, resA] using this)
    have HS1 := hid HT1.out
    obtain ⟨⟨ke, ee⟩, hse⟩ : ∃ sz : RS, sz = (⟨i2, er2⟩ : RS) := ⟨_, rfl⟩
    rw [← hse] at HG' HS1 HT1
    clear hse
    obtain ⟨c0, c1, c2, c3, f0, f1, f2, f3⟩ := HT1.out.qx
    obtain ⟨a0, a1, a2, a3, g0, g1, g2, g3⟩ := HT1.out.qa
    have d1 := HT1.out.r.c1
    have d2 := HT1.out.r.c2
    have hXp := HT1.out.hpX
    have hAX := HS1.out.hX
    have hAp := HS1.out.hp
    simp only at d1 d2
    by_cases h0 : ee = 0
    · subst h0
      have hg := HG'.out
      unfold outI at hg
      rw [if_pos rfl] at hg
      cases hg
      go_wp2_with fail
      go_region
      obtain ⟨wf, hwf, ⟨q0, q1, q2, q3, _, _, _, _⟩, hbf, hof⟩ := get_fin2 (w := w) HS1.out.qa (Nat.le_refl _) HS1.out.r.base (.int .i64 op) (.int .i64 0) (.int .i64 0) (.slice none 0 0)
      rw [hwf]
      clear hwf hof
      go_wp2_with fail
      refine bodyPost_ret (v := .tuple #[iv op 0 0  none 0 0, .int .i64 ke, .int .i64 0]) (by simp [results, Try.results46, go_sem, q0, q1, q2, q3]) rfl ⟨_, _, _, rfl, Own.nil _ _ _ _, hbf⟩
    · have h0' : (ee != 0) = true := by simp [h0]
      have hg := HG'.out
      unfold outI at hg
      rw [if_neg h0] at hg
      cases hg
      go_wp2_with fail
      go_region
      obtain ⟨wf, hwf, ⟨q0, q1, q2, q3, _, _, _, _⟩, hbf, hof⟩ := get_fin2 (w := w) HS1.out.qa (Nat.le_refl _) HS1.out.r.base (.int .i64 0) (.int .i64 0) (.int .i64 0) (.slice none 0 0)
      rw [hwf]
      clear hwf hof
      go_wp2_with fail
      refine bodyPost_ret (v := .tuple #[iv 0 0 0 none 0 0, .int .i64 (0 : Nat), .int .i64 ee]) (by simp [results, Try.results46, go_sem, q0, q1, q2, q3]) rfl ⟨_, _, _, rfl, Own.nil _ _ _ _, hbf⟩
  have h127 : (x == 127) = false := by simp [e127]
  have h126 : (x == 126) = false := by simp [e126]
  have h64 : (x == 64) = false := by simp [e64]
  have hrA : resA x = 0 := by unfold resA; rw [if_neg e127, if_neg e126]
  rw [hrA, h127, h126, h64] at HG
  clear hrA e127 e126 e64
  by_cases z0 : er2 = 0
  · subst z0
    have HG' : Hid (outI ⟨op, 0, 0, []⟩ ⟨i2, 1⟩ = (I, k, er)) := HG.out
    have hg := HG'.out
    unfold outI at hg
    rw [if_neg (show ¬ (1 : Int) = 0 by decide)] at hg
    cases hg
    obtain ⟨c0, c1, c2, c3, f0, f1, f2, f3⟩ := HT1.out.qx
    obtain ⟨a0, a1, a2, a3, g0, g1, g2, g3⟩ := HT1.out.qa
    have d2 := HT1.out.r.c2
    have e2 := HT1.out.r.f2
    have hAp := HT1.out.hp
    simp only at d2
    have HS1 := hid (HT1.out.go (s' := ⟨i2, 1⟩) ⟨HT1.out.r.setErr 1, Mv.set p 2 _ _⟩)
    go_wp2_with fail
    go_region
    obtain ⟨wf, hwf, ⟨q0, q1, q2, q3, _, _, _, _⟩, hbf, hof⟩ := get_fin2 (w := w) HS1.out.qa (Nat.le_refl _) HS1.out.r.base (.int .i64 0) (.int .i64 0) (.int .i64 0) (.slice none 0 0)
    rw [hwf]
    clear hwf hof
    go_wp2_with fail
    refine bodyPost_ret (v := .tuple #[iv 0 0 0 none 0 0, .int .i64 (0 : Nat), .int .i64 1]) (by simp [results, Try.results46, go_sem, q0, q1, q2, q3]) rfl ⟨_, _, _, rfl, Own.nil _ _ _ _, hbf⟩
  · have HG' : Hid (outI ⟨op, 0, 0, []⟩ ⟨i2, er2⟩ = (I, k, er)) := hid (by have := HG.out; unfold need at this; rw [if_neg (fun hh => z0 hh.2)] at this; exact this)
    have z0' : (er2 == 0) = false := by simp [z0]
    have HS1 := hid HT1.out
    obtain ⟨⟨ke, ee⟩, hse⟩ : ∃ sz : RS, sz = (⟨i2, er2⟩ : RS) := ⟨_, rfl⟩
    rw [← hse] at HG' HS1 HT1
    have z1 : ee ≠ 0 := by have := congrArg RS.err hse; simp only at this; rw [this]; exact z0
    have z2 : (ee == 0) = false := by simp [z1]
    clear hse
    obtain ⟨c0, c1, c2, c3, f0, f1, f2, f3⟩ := HT1.out.qx
    obtain ⟨a0, a1, a2, a3, g0, g1, g2, g3⟩ := HT1.out.qa
    have d1 := HT1.out.r.c1
    have d2 := HT1.out.r.c2
    have hXp := HT1.out.hpX
    have hAX := HS1.out.hX
    have hAp := HS1.out.hp
    simp only at d1 d2
    by_cases h0 : ee = 0
    · exact absurd h0 z1
    · have h0' : (ee != 0) = true := by simp [h0]
      have hg := HG'.out
      unfold outI at hg
      rw [if_neg h0] at hg
      cases hg
      go_wp2_with fail
      go_region
      obtain ⟨wf, hwf, ⟨q0, q1, q2, q3, _, _, _, _⟩, hbf, hof⟩ := get_fin2 (w := w) HS1.out.qa (Nat.le_refl _) HS1.out.r.base (.int .i64 0) (.int .i64 0) (.int .i64 0) (.slice none 0 0)
      rw [hwf]
      clear hwf hof
      go_wp2_with fail
      refine bodyPost_ret (v := .tuple #[iv 0 0 0 none 0 0, .int .i64 (0 : Nat), .int .i64 ee]) (by simp [results, Try.results46, go_sem, q0, q1, q2, q3]) rfl ⟨_, _, _, rfl, Own.nil _ _ _ _, hbf⟩
end Go.Proofs.Ytfambbpggodlkaa
