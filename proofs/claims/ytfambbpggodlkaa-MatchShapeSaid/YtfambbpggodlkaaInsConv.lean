/- What is read was written: the bytes that begin with an instruction are just its bytes. Plain mathematics over the specification. -/
import Derived.Test.YtfambbpggodlkaaInsMs
namespace Go.Proofs.Ytfambbpggodlkaa
open Go.RowKit

theorem decU_conv {xs : List Int} (hb : Bs xs) {u : Int} {k : Nat} (h : decU 32 xs = (u, k, 0)) : xs.take k = encU 9 u ∧ k ≤ xs.length ∧ 0 ≤ u ∧ u < 4294967296 := by
  have e5 : (((32 : Int) + 6) / 7).toNat = 5 := by decide
  rcases three xs (((32 : Int) + 6) / 7).toNat with ⟨j, hs⟩ | hs | hs
  · by_cases g : goodU xs 32 j
    · rw [decU_ok hs g] at h
      simp only [Prod.mk.injEq, and_true] at h
      obtain ⟨h1, h2⟩ := h
      have hlt := hs.lt
      have hm := hs.most
      rw [e5] at hm
      have hl : (xs.take (j + 1)).length ≤ 9 + 1 := by rw [List.length_take]; omega
      have he := encU_of _ 9 (hs.shape hb) g.1 hl
      refine ⟨by rw [← h2, ← h1, he], by omega, by rw [← h1]; exact val_nonneg _, ?_⟩
      have := g.2
      rw [show (2 : Int) ^ (32 : Int).toNat = 4294967296 from by decide] at this
      rw [← h1]; exact this
    · rw [decU_bad hs g] at h; simp at h
  · rw [decU_form hs] at h; simp at h
  · rw [decU_more hs] at h; simp at h
theorem decS_conv {xs : List Int} (hb : Bs xs) {bits u : Int} {k : Nat} (hbits : bits = 32 ∨ bits = 64) (h : decS bits xs = (u, k, 0)) : xs.take k = encS 9 u ∧ k ≤ xs.length ∧ -2 ^ (bits - 1).toNat ≤ u ∧ u < 2 ^ (bits - 1).toNat := by
  have e5 : ((bits + 6) / 7).toNat ≤ 10 := by rcases hbits with rfl | rfl <;> decide
  rcases three xs ((bits + 6) / 7).toNat with ⟨j, hs⟩ | hs | hs
  · by_cases g : goodS xs bits j
    · rw [decS_ok hs g] at h
      simp only [Prod.mk.injEq, and_true] at h
      obtain ⟨h1, h2⟩ := h
      have hlt := hs.lt
      have hm := hs.most
      have hl : (xs.take (j + 1)).length ≤ 9 + 1 := by rw [List.length_take]; omega
      have he := encS_of _ 9 (hs.shape hb) g.1 hl
      exact ⟨by rw [← h2, ← h1, he], by omega, by rw [← h1]; exact g.2.1, by rw [← h1]; exact g.2.2⟩
    · rw [decS_bad hs g] at h; simp at h
  · rw [decS_form hs] at h; simp at h
  · rw [decS_more hs] at h; simp at h

theorem Bs.drop {xs : List Int} (h : Bs xs) (i : Nat) : Bs (xs.drop i) := fun x hx => h x (List.mem_of_mem_drop hx)
theorem drop_parts {xs ys : List Int} {i k : Nat} (h : (xs.drop i).take k = ys) : xs.drop i = ys ++ xs.drop (i + k) := by
  rw [← h, ← List.drop_drop, List.take_append_drop]

theorem rU_conv {xs : List Int} (hb : Bs xs) {s : RS} {u : Int} {j : Nat} (hi : s.at' ≤ xs.length) (h : rU xs s = (u, ⟨j, 0⟩)) : s.err = 0 ∧ xs.drop s.at' = encU 9 u ++ xs.drop j ∧ j ≤ xs.length ∧ 0 ≤ u ∧ u < 4294967296 := by
  unfold rU at h
  by_cases h0 : s.err = 0
  · rw [if_pos h0] at h
    obtain ⟨v, k, e, hd⟩ : ∃ v k e, decU 32 (xs.drop s.at') = (v, k, e) := ⟨_, _, _, rfl⟩
    rw [hd] at h
    simp only [Prod.mk.injEq, RS.mk.injEq] at h
    obtain ⟨rfl, rfl, rfl⟩ := h
    obtain ⟨h1, h2, h3, h4⟩ := decU_conv (hb.drop _) hd
    exact ⟨h0, drop_parts h1, by simp at h2; omega, h3, h4⟩
  · rw [if_neg h0] at h
    simp only [Prod.mk.injEq] at h
    obtain ⟨rfl, rfl⟩ := h
    exact absurd rfl h0
theorem rS_conv {xs : List Int} (hb : Bs xs) {s : RS} {bits u : Int} {j : Nat} (hbits : bits = 32 ∨ bits = 64) (hi : s.at' ≤ xs.length) (h : rS bits xs s = (u, ⟨j, 0⟩)) : s.err = 0 ∧ xs.drop s.at' = encS 9 u ++ xs.drop j ∧ j ≤ xs.length ∧ -2 ^ (bits - 1).toNat ≤ u ∧ u < 2 ^ (bits - 1).toNat := by
  unfold rS at h
  by_cases h0 : s.err = 0
  · rw [if_pos h0] at h
    obtain ⟨v, k, e, hd⟩ : ∃ v k e, decS bits (xs.drop s.at') = (v, k, e) := ⟨_, _, _, rfl⟩
    rw [hd] at h
    simp only [Prod.mk.injEq, RS.mk.injEq] at h
    obtain ⟨rfl, rfl, rfl⟩ := h
    obtain ⟨h1, h2, h3, h4⟩ := decS_conv (hb.drop _) hbits hd
    exact ⟨h0, drop_parts h1, by simp at h2; omega, h3, h4⟩
  · rw [if_neg h0] at h
    simp only [Prod.mk.injEq] at h
    obtain ⟨rfl, rfl⟩ := h
    exact absurd rfl h0
theorem rOne_conv {xs : List Int} {s : RS} {v : Int} {j : Nat} (hi : s.at' ≤ xs.length) (h : rOne xs s = (v, ⟨j, 0⟩)) : s.err = 0 ∧ xs.drop s.at' = v :: xs.drop j ∧ j ≤ xs.length ∧ s.at' < j := by
  unfold rOne at h
  by_cases h0 : s.err = 0
  · rw [if_pos h0] at h
    by_cases h1 : s.at' = xs.length
    · rw [if_pos h1] at h; simp at h
    · rw [if_neg h1] at h
      simp only [Prod.mk.injEq, RS.mk.injEq, and_true] at h
      obtain ⟨rfl, rfl⟩ := h
      have hlt : s.at' < xs.length := by omega
      refine ⟨h0, ?_, by omega, by omega⟩
      rw [List.drop_eq_getElem_cons hlt]
      simp [List.getD, hlt]
  · rw [if_neg h0] at h
    simp only [Prod.mk.injEq] at h
    obtain ⟨rfl, rfl⟩ := h
    exact absurd rfl h0
theorem need_conv {t : Bool} {s : RS} {j : Nat} (h : need t s = ⟨j, 0⟩) : t = true ∧ s = ⟨j, 0⟩ := by
  unfold need at h
  by_cases h0 : t = false ∧ s.err = 0
  · rw [if_pos h0] at h; simp at h
  · rw [if_neg h0] at h
    subst h
    cases t
    · exact absurd ⟨rfl, rfl⟩ h0
    · exact ⟨rfl, rfl⟩
theorem rA_conv {f : Int} {xs : List Int} (hb : Bs xs) {s : RS} {u : Int} {j : Nat} (hi : s.at' ≤ xs.length) (h : rA f xs s = (u, ⟨j, 0⟩)) : s.err = 0 ∧ xs.drop s.at' = encU 9 u ++ xs.drop j ∧ j ≤ xs.length ∧ mayAS f u = true ∧ 0 ≤ u ∧ u < 4294967296 := by
  unfold rA at h
  simp only [Prod.mk.injEq] at h
  obtain ⟨rfl, h2⟩ := h
  obtain ⟨h3, h4⟩ := need_conv h2
  obtain ⟨g1, g2, g3, g4, g5⟩ := rU_conv hb (u := (rU xs s).1) (j := j) hi (by rw [← h4])
  exact ⟨g1, g2, g3, h3, g4, g5⟩
theorem rLs_conv {xs : List Int} (hb : Bs xs) : ∀ (m : Nat) (s : RS) (l : List Int) (j : Nat), s.at' ≤ xs.length → rLs xs m s = (l, ⟨j, 0⟩) → s.err = 0 ∧ xs.drop s.at' = encL l ++ xs.drop j ∧ j ≤ xs.length ∧ l.length = m ∧ ∀ x ∈ l, idx x = true
  | 0, s, l, j, hi, h => by
    simp only [rLs, Prod.mk.injEq] at h
    obtain ⟨rfl, rfl⟩ := h
    exact ⟨rfl, rfl, hi, rfl, fun _ h => by cases h⟩
  | m + 1, s, l, j, hi, h => by
    by_cases h0 : s.err = 0
    · obtain ⟨x, s3, hx⟩ : ∃ x s3, rA 3 xs s = (x, s3) := ⟨_, _, rfl⟩
      rw [rLs_go h0 hx] at h
      simp only [Prod.mk.injEq] at h
      obtain ⟨rfl, h2⟩ := h
      obtain ⟨i3, e3⟩ := s3
      by_cases h3 : e3 = 0
      · subst h3
        obtain ⟨g1, g2, g3, g4, _, _⟩ := rA_conv hb hi hx
        obtain ⟨k1, k2, k3, k4, k5⟩ := rLs_conv hb m ⟨i3, 0⟩ (rLs xs m ⟨i3, 0⟩).1 j g3 (by rw [← h2])
        refine ⟨h0, ?_, k3, by simp [k4], fun y hy => ?_⟩
        · rw [g2, encL, List.append_assoc]
          simp only at k2
          rw [← k2]
        · rcases List.mem_cons.1 hy with rfl | hy
          · simpa [mayAS, idx] using g4
          · exact k5 y hy
      · rw [rLs_stop (by exact h3)] at h2
        simp only at h2
        cases h2
        exact absurd rfl h3
    · rw [rLs_stop h0] at h
      simp only [Prod.mk.injEq] at h
      obtain ⟨rfl, rfl⟩ := h
      exact absurd rfl h0
theorem rL_conv {xs : List Int} (hb : Bs xs) {s : RS} {l : List Int} {j : Nat} (hi : s.at' ≤ xs.length) (h : rL xs s = (l, ⟨j, 0⟩)) : s.err = 0 ∧ xs.drop s.at' = encU 9 l.length ++ (encL l ++ xs.drop j) ∧ j ≤ xs.length ∧ l.length ≤ 50 ∧ l.all idx = true := by
  unfold rL at h
  obtain ⟨c, ⟨i1, e1⟩, hc⟩ : ∃ c s1, rCount xs s = (c, s1) := ⟨_, _, rfl⟩
  rw [hc] at h
  simp only at h
  have he1 : e1 = 0 := by
    by_cases h3 : e1 = 0
    · exact h3
    · rw [rLs_stop (by exact h3)] at h
      simp only [Prod.mk.injEq, RS.mk.injEq] at h
      exact absurd h.2.2 h3
  subst he1
  unfold rCount at hc
  simp only [Prod.mk.injEq] at hc
  obtain ⟨rfl, h2⟩ := hc
  obtain ⟨h3, h4⟩ := need_conv h2
  obtain ⟨g1, g2, g3, g4, g5⟩ := rU_conv hb (u := (rU xs s).1) (j := i1) hi (by rw [← h4])
  obtain ⟨k1, k2, k3, k4, k5⟩ := rLs_conv hb _ _ _ _ g3 h
  have hcl : ((l.length : Nat) : Int) = (rU xs s).1 := by rw [k4]; omega
  refine ⟨g1, ?_, k3, ?_, List.all_eq_true.2 k5⟩
  · rw [hcl, g2]
    simp only at k2
    rw [k2]
  · have := of_decide_eq_true h3
    omega

theorem resB_A {x : Int} (h : (x == 64 || (x == 127 || x == 126)) = true) : resB (resA x) = x ∧ mayAS 2 (resA x) = true := by
  have : x = 64 ∨ x = 127 ∨ x = 126 := by simpa using h
  rcases this with rfl | rfl | rfl <;> decide

theorem okI_of {I : Ins} (h1 : -9223372036854775808 ≤ I.a) (h2 : I.a ≤ 9223372036854775807) : okI I := ⟨h1, h2⟩

/-- What is read was written. -/
theorem getI_conv {xs : List Int} (hb : Bs xs) {I : Ins} {k : Nat} (h : getI xs = (I, k, 0)) : mayII I = true ∧ okI I ∧ xs = encII I ++ xs.drop k ∧ 1 ≤ k ∧ k ≤ xs.length := by
  unfold getI at h
  obtain ⟨J, ⟨j, er⟩, hJ⟩ : ∃ J s, rIns xs = (J, s) := ⟨_, _, rfl⟩
  rw [hJ] at h
  simp only at h
  by_cases her : er = 0
  · subst her
    simp only [if_pos, Prod.mk.injEq, and_true] at h
    obtain ⟨rfl, rfl⟩ := h
    unfold rIns at hJ
    obtain ⟨op, ⟨i1, e1⟩, h1⟩ : ∃ op s1, rOne xs ⟨0, 0⟩ = (op, s1) := ⟨_, _, rfl⟩
    rw [h1] at hJ
    simp only at hJ
    have hi1 : i1 ≤ xs.length := by
      unfold rOne at h1
      simp only [if_pos] at h1
      split at h1 <;> simp only [Prod.mk.injEq, RS.mk.injEq] at h1 <;> omega
    have key : e1 = 0 → mayII J = true → okI J → J.op = op → xs.drop i1 = tailI (sh op) J.a J.b J.l ++ xs.drop j → j ≤ xs.length → mayII J = true ∧ okI J ∧ xs = encII J ++ xs.drop j ∧ 1 ≤ j ∧ j ≤ xs.length := by
      intro he k1 k2 k3 k4 k5
      subst he
      obtain ⟨_, g2, g3, g4⟩ := rOne_conv (s := ⟨0, 0⟩) (Nat.zero_le _) h1
      simp only [List.drop_zero] at g2
      have hl := congrArg List.length k4
      simp at hl
      refine ⟨k1, k2, ?_, by simp only at g4; omega, k5⟩
      rw [encII, encI, k3, List.cons_append, ← k4, ← g2]
    unfold rTail at hJ
    have hbd := sh_bounds op
    by_cases s0 : sh op = 0
    · rw [if_pos s0] at hJ
      simp only [Prod.mk.injEq] at hJ
      obtain ⟨h3, _⟩ := need_conv hJ.2
      cases h3
    rw [if_neg s0] at hJ
    by_cases s2 : sh op = 2
    · rw [if_pos s2] at hJ
      simp only [Prod.mk.injEq] at hJ
      obtain ⟨hJ0, hJ⟩ := hJ
      unfold rRes at hJ hJ0
      simp only at hJ hJ0
      obtain ⟨v, s1, hv⟩ : ∃ v s1, rOne xs ⟨i1, e1⟩ = (v, s1) := ⟨_, _, rfl⟩
      rw [hv] at hJ hJ0
      simp only at hJ hJ0
      subst hJ0
      obtain ⟨h3, rfl⟩ := need_conv hJ
      obtain ⟨rb, rm⟩ := resB_A h3
      obtain ⟨g1, g2, g3, g4⟩ := rOne_conv (s := ⟨i1, e1⟩) hi1 hv
      refine key g1 (by simp [mayII, mayI, s2, rm, mayBS, mayLS]) ?_ rfl ?_ g3
      · simp only [mayAS] at rm
        simp at rm
        exact okI_of (by simp only; omega) (by simp only; omega)
      · simp only [s2, tailI, if_true, rb]
        exact g2
    rw [if_neg s2] at hJ
    by_cases s3 : sh op = 3
    · rw [if_pos s3] at hJ
      simp only [Prod.mk.injEq] at hJ
      obtain ⟨hJ0, hJ⟩ := hJ
      obtain ⟨v, s1, hv⟩ : ∃ v s1, rA 3 xs ⟨i1, e1⟩ = (v, s1) := ⟨_, _, rfl⟩
      rw [hv] at hJ hJ0
      simp only at hJ hJ0
      subst hJ hJ0
      obtain ⟨g1, g2, g3, g4, g5, g6⟩ := rA_conv hb (s := ⟨i1, e1⟩) hi1 hv
      refine key g1 (by simp [mayII, mayI, s3, g4, mayBS, mayLS]) (okI_of (by simp only; omega) (by simp only; omega)) rfl ?_ g3
      simp only [s3, tailI]
      exact g2
    rw [if_neg s3] at hJ
    by_cases s4 : sh op = 4
    · rw [if_pos s4] at hJ
      simp only [Prod.mk.injEq] at hJ
      obtain ⟨hJ0, hJ⟩ := hJ
      obtain ⟨l, ⟨i2, e2⟩, hl⟩ : ∃ l s1, rL xs ⟨i1, e1⟩ = (l, s1) := ⟨_, _, rfl⟩
      rw [hl] at hJ hJ0
      simp only at hJ hJ0
      obtain ⟨v, s1, hv⟩ : ∃ v s1, rA 4 xs ⟨i2, e2⟩ = (v, s1) := ⟨_, _, rfl⟩
      rw [hv] at hJ hJ0
      simp only at hJ hJ0
      subst hJ hJ0
      have he2 : e2 = 0 := by
        by_cases hz : e2 = 0
        · exact hz
        · unfold rA rU need at hv
          simp only [if_neg hz] at hv
          simp [hz] at hv
      subst he2
      obtain ⟨k1, k2, k3, k4, k5⟩ := rL_conv hb (s := ⟨i1, e1⟩) hi1 hl
      obtain ⟨g1, g2, g3, g4, g5, g6⟩ := rA_conv hb (s := ⟨i2, 0⟩) k3 hv
      refine key k1 (by simp only [mayII, mayI, s4, g4, mayBS, mayLS]; simp [k4] ; simpa using k5) (okI_of (by simp only; omega) (by simp only; omega)) rfl ?_ g3
      simp only at k2 g2
      rw [k2, g2]
      simp [s4, tailI]
    rw [if_neg s4] at hJ
    by_cases s5 : sh op = 5
    · rw [if_pos s5] at hJ
      simp only [Prod.mk.injEq] at hJ
      obtain ⟨hJ0, hJ⟩ := hJ
      obtain ⟨v, s1, hv⟩ : ∃ v s1, rA 5 xs ⟨i1, e1⟩ = (v, s1) := ⟨_, _, rfl⟩
      rw [hv] at hJ hJ0
      simp only at hJ hJ0
      subst hJ0
      obtain ⟨i2, e2⟩ := s1
      obtain ⟨z, s2', hz⟩ : ∃ z s2, rOne xs ⟨i2, e2⟩ = (z, s2) := ⟨_, _, rfl⟩
      unfold rZero at hJ
      rw [hz] at hJ
      simp only at hJ
      obtain ⟨h3, rfl⟩ := need_conv hJ
      have he2 : e2 = 0 := by
        by_cases hq : e2 = 0
        · exact hq
        · unfold rOne at hz; rw [if_neg (by exact hq)] at hz; simp only [Prod.mk.injEq, RS.mk.injEq] at hz; exact absurd hz.2.2 hq
      subst he2
      obtain ⟨g1, g2, g3, g4, g5, g6⟩ := rA_conv hb (s := ⟨i1, e1⟩) hi1 hv
      obtain ⟨_, k2, k3, _⟩ := rOne_conv (s := ⟨i2, 0⟩) g3 hz
      have hz0 : z = 0 := by simpa using h3
      subst hz0
      refine key g1 (by simp [mayII, mayI, s5, g4, mayBS, mayLS]) (okI_of (by simp only; omega) (by simp only; omega)) rfl ?_ k3
      simp only at k2 g2
      rw [g2, k2]
      simp [s5, tailI]
    rw [if_neg s5] at hJ
    by_cases s6 : sh op = 6
    · rw [if_pos s6] at hJ
      simp only [Prod.mk.injEq] at hJ
      obtain ⟨hJ0, hJ⟩ := hJ
      obtain ⟨v, ⟨i2, e2⟩, hv⟩ : ∃ v s1, rA 6 xs ⟨i1, e1⟩ = (v, s1) := ⟨_, _, rfl⟩
      rw [hv] at hJ hJ0
      simp only at hJ hJ0
      obtain ⟨z, s2', hz⟩ : ∃ z s2, rU xs ⟨i2, e2⟩ = (z, s2) := ⟨_, _, rfl⟩
      rw [hz] at hJ hJ0
      simp only at hJ hJ0
      subst hJ hJ0
      have he2 : e2 = 0 := by
        by_cases hq : e2 = 0
        · exact hq
        · unfold rU at hz; rw [if_neg (by exact hq)] at hz; simp only [Prod.mk.injEq, RS.mk.injEq] at hz; exact absurd hz.2.2 hq
      subst he2
      obtain ⟨g1, g2, g3, g4, g5, g6⟩ := rA_conv hb (s := ⟨i1, e1⟩) hi1 hv
      obtain ⟨_, k2, k3, k4, k5⟩ := rU_conv hb (s := ⟨i2, 0⟩) g3 hz
      refine key g1 (by simp [mayII, mayI, s6, g4, mayBS, mayLS]; omega) (okI_of (by simp only; omega) (by simp only; omega)) rfl ?_ k3
      simp only at k2 g2
      rw [g2, k2]
      simp [s6, tailI]
    rw [if_neg s6] at hJ
    by_cases s7 : sh op = 7
    · rw [if_pos s7] at hJ
      simp only [Prod.mk.injEq] at hJ
      obtain ⟨rfl, hJ⟩ := hJ
      obtain ⟨z, s2', hz⟩ : ∃ z s2, rOne xs ⟨i1, e1⟩ = (z, s2) := ⟨_, _, rfl⟩
      unfold rZero at hJ
      rw [hz] at hJ
      simp only at hJ
      obtain ⟨h3, rfl⟩ := need_conv hJ
      obtain ⟨g1, k2, k3, _⟩ := rOne_conv (s := ⟨i1, e1⟩) hi1 hz
      have hz0 : z = 0 := by simpa using h3
      subst hz0
      refine key g1 (by simp [mayII, mayI, s7, mayAS, mayBS, mayLS]) (okI_of (by simp only; omega) (by simp only; omega)) rfl ?_ k3
      simp only at k2
      rw [k2]
      simp [s7, tailI]
    rw [if_neg s7] at hJ
    by_cases s8 : sh op = 8
    · rw [if_pos s8] at hJ
      simp only [Prod.mk.injEq] at hJ
      obtain ⟨hJ0, hJ⟩ := hJ
      obtain ⟨v, s1, hv⟩ : ∃ v s1, rS 32 xs ⟨i1, e1⟩ = (v, s1) := ⟨_, _, rfl⟩
      rw [hv] at hJ hJ0
      simp only at hJ hJ0
      subst hJ hJ0
      obtain ⟨g1, g2, g3, g4, g5⟩ := rS_conv hb (s := ⟨i1, e1⟩) (.inl rfl) hi1 hv
      rw [show (2 : Int) ^ ((32 : Int) - 1).toNat = 2147483648 from by decide] at g4 g5
      refine key g1 (by simp [mayII, mayI, s8, mayAS, mayBS, mayLS]; omega) (okI_of (by simp only; omega) (by simp only; omega)) rfl ?_ g3
      simp only [s8, tailI]
      exact g2
    rw [if_neg s8] at hJ
    by_cases s9 : sh op = 9
    · rw [if_pos s9] at hJ
      simp only [Prod.mk.injEq] at hJ
      obtain ⟨hJ0, hJ⟩ := hJ
      obtain ⟨v, s1, hv⟩ : ∃ v s1, rS 64 xs ⟨i1, e1⟩ = (v, s1) := ⟨_, _, rfl⟩
      rw [hv] at hJ hJ0
      simp only at hJ hJ0
      subst hJ hJ0
      obtain ⟨g1, g2, g3, g4, g5⟩ := rS_conv hb (s := ⟨i1, e1⟩) (.inr rfl) hi1 hv
      rw [show (2 : Int) ^ ((64 : Int) - 1).toNat = 9223372036854775808 from by decide] at g4 g5
      refine key g1 (by simp [mayII, mayI, s9, mayAS, mayBS, mayLS]) (okI_of (by simp only; omega) (by simp only; omega)) rfl ?_ g3
      simp only [s9, tailI]
      exact g2
    rw [if_neg s9] at hJ
    have s1 : sh op = 1 := by omega
    simp only [Prod.mk.injEq, RS.mk.injEq] at hJ
    obtain ⟨rfl, rfl, rfl⟩ := hJ
    refine key rfl (by simp [mayII, mayI, s1, mayAS, mayBS, mayLS]) (okI_of (by simp only; omega) (by simp only; omega)) rfl ?_ hi1
    simp [s1, tailI]
  · rw [if_neg her] at h
    simp only [Prod.mk.injEq] at h
    exact absurd h.2.2 her
end Go.Proofs.Ytfambbpggodlkaa
