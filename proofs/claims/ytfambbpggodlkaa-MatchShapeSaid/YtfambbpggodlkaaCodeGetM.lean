/- Bodies as bytes: there and back. Plain mathematics over the specification. -/
import Derived.Test.YtfambbpggodlkaaCodeRead
namespace Go.Proofs.Ytfambbpggodlkaa
open Go.RowKit

theorem step_depth {k : Nat} {x : Int} {s s' : Ns} (h : nsStep k x s = some s') : (s'.op.length : Int) = s.op.length + turnI x ∧ (x = 11 → 0 < s.op.length) := by
  unfold nsStep at h
  unfold turnI
  by_cases hb : begins x = true
  · rw [if_pos hb] at h ⊢
    by_cases h40 : s.op.length = 40
    · rw [if_pos h40] at h; cases h
    · rw [if_neg h40] at h
      cases h
      refine ⟨by simp, fun h => ?_⟩
      subst h
      simp [begins] at hb
  · rw [if_neg hb] at h ⊢
    by_cases h5 : x = 5
    · rw [if_pos h5] at h
      subst h5
      match hop : s.op with
      | [] => rw [hop] at h; cases h
      | (k0, false) :: r => rw [hop] at h; cases h
      | (k0, true) :: r => rw [hop] at h; cases h; simp
    · rw [if_neg h5] at h
      by_cases h11 : x = 11
      · rw [if_pos h11] at h ⊢
        match hop : s.op with
        | [] => rw [hop] at h; cases h
        | (k0, f0) :: r => rw [hop] at h; cases h; simp; omega
      · rw [if_neg h11] at h ⊢
        cases h
        exact ⟨by simp, fun h => absurd h h11⟩

theorem enc_end {I : Ins} (ho : I.op = 11) : encII I = [11] := by
  unfold encII encI
  rw [ho]
  rfl

/-- What was read is a body's text. -/
theorem readB_ok {xs : List Int} (hb : Bs xs) : ∀ (f : Nat) (acc : List Ins) (at' : Nat) (d : Int) (l : List Ins) (n : Nat), at' ≤ xs.length → xs.take at' = encMs acc → (∀ I ∈ acc, mayII I = true) → readB f xs acc at' d = (l, n, 0) →
    xs.take n = encMs l ++ [11] ∧ (∀ I ∈ l, mayII I = true) ∧ n ≤ xs.length
  | 0, acc, at', d, l, n, _, _, _, h => by simp [readB] at h
  | f + 1, acc, at', d, l, n, ha, ht, hm, h => by
    obtain ⟨I, k, er, hg⟩ : ∃ I k er, getI (xs.drop at') = (I, k, er) := ⟨_, _, _, rfl⟩
    by_cases he : er = 0
    · subst he
      obtain ⟨g1, g2, g3, g4, g5⟩ := getI_conv (hb.drop _) hg
      have hk : at' + k ≤ xs.length := by simp at g5; omega
      have hnext : xs.take (at' + k) = encMs acc ++ encII I := by
        rw [List.take_add, ht]
        congr 1
        have hl : (encII I).length = k := by
          have := congrArg List.length g3
          simp at this
          omega
        rw [g3, List.take_left' hl]
      by_cases hend : I.op = 11 ∧ d = 0
      · rw [readB_end hg hend.1 hend.2] at h
        simp only [Prod.mk.injEq, and_true] at h
        obtain ⟨rfl, rfl⟩ := h
        exact ⟨by rw [hnext, enc_end hend.1], hm, hk⟩
      · by_cases h3 : acc.length = 300
        · rw [readB_full hg hend h3] at h; simp at h
        · rw [readB_go hg hend h3] at h
          refine readB_ok hb f _ _ _ l n hk (by rw [hnext, encMs_snoc]) (fun J hJ => ?_) h
          rcases List.mem_append.1 hJ with hJ | hJ
          · exact hm J hJ
          · simp at hJ; rw [hJ]; exact g1
    · rw [readB_err hg he] at h
      simp only [Prod.mk.injEq] at h
      exact absurd h.2.2 he
theorem getB_ok {xs : List Int} (hb : Bs xs) {l : List Ins} {n : Nat} (h : getB xs = (l, n, 0)) : xs.take n = encMs l ++ [11] ∧ (∀ I ∈ l, mayII I = true) ∧ n ≤ xs.length ∧ (fits (opsI l)).isSome = true := by
  unfold getB at h
  by_cases h0 : (readB 301 xs [] 0 0).2.2 = 0
  · rw [if_pos h0] at h
    by_cases h1 : (fits (opsI (readB 301 xs [] 0 0).1)).isSome = true
    · rw [if_pos h1] at h
      obtain ⟨g1, g2, g3⟩ := readB_ok hb 301 [] 0 0 l n (Nat.zero_le _) (by simp [encMs]) (fun _ h => by cases h) h
      rw [h] at h1
      exact ⟨g1, g2, g3, h1⟩
    · rw [if_neg h1] at h; simp at h
  · rw [if_neg h0] at h
    simp only [Prod.mk.injEq] at h
    exact absurd h.2.2 h0

theorem encMs_app (a b : List Ins) : encMs (a ++ b) = encMs a ++ encMs b := by simp [encMs]

/-- A body's text is read. -/
theorem read_enc (l : List Ins) (rest : List Int) (bl : List Bk) (hF : Fit (opsI l) bl) (hm : ∀ I ∈ l, mayII I = true) (ho : ∀ I ∈ l, okI I) : ∀ (rem acc : List Ins) (s : Ns) (f : Nat), l = acc ++ rem → runN 0 (opsI acc) nsStart = some s → f + acc.length = 301 →
    readB f (encMs l ++ [11] ++ rest) acc (encMs acc).length s.op.length = (l, (encMs l).length + 1, 0)
  | [], acc, s, f, hl, hs, hf => by
    have hl300 : l.length ≤ 300 := by have := hF.len; rwa [opsI_len] at this
    have hal : acc = l := by rw [hl, List.append_nil]
    subst hal
    have hs0 : s.op.length = 0 := by
      have := hF.run
      rw [hs] at this
      cases this
      rfl
    obtain ⟨g, rfl⟩ : ∃ g, f = g + 1 := ⟨f - 1, by omega⟩
    have hd : (encMs acc ++ [11] ++ rest).drop (encMs acc).length = encI 11 0 0 [] ++ rest := by
      rw [List.append_assoc, List.drop_left]
      rfl
    have hg : getI ((encMs acc ++ [11] ++ rest).drop (encMs acc).length) = (⟨11, 0, 0, []⟩, 1, 0) := by
      rw [hd, getI_enc 11 0 0 [] rest (by decide) (by decide)]
      rfl
    rw [readB_end hg rfl (by rw [hs0]; rfl)]
  | I :: rem, acc, s, f, hl, hs, hf => by
    have hl300 : l.length ≤ 300 := by have := hF.len; rwa [opsI_len] at this
    have hlen : acc.length < l.length := by rw [hl]; simp
    have hI : I ∈ l := by rw [hl]; simp
    obtain ⟨g, rfl⟩ : ∃ g, f = g + 1 := ⟨f - 1, by omega⟩
    have hd : (encMs l ++ [11] ++ rest).drop (encMs acc).length = encII I ++ (encMs rem ++ [11] ++ rest) := by
      rw [hl, encMs_app, List.append_assoc, List.append_assoc, List.drop_left]
      simp [encMs]
    have hg : getI ((encMs l ++ [11] ++ rest).drop (encMs acc).length) = (I, (encII I).length, 0) := by
      rw [hd]
      exact getI_enc I.op I.a I.b I.l _ (hm I hI) (ho I hI)
    have htk : (opsI l).take acc.length = opsI acc := by rw [opsI_take, hl, List.take_left]
    have hrn := run_next (xs := opsI l) (k := acc.length) (by rw [opsI_len]; exact hlen) (by rw [htk]; exact hs)
    have hop : (opsI l).getD acc.length 0 = I.op := by
      rw [opsI_getD _ _ hlen, hl]
      simp [List.getD]
    have htk2 : (opsI l).take (acc.length + 1) = opsI (acc ++ [I]) := by
      rw [opsI_take, hl, show acc ++ I :: rem = (acc ++ [I]) ++ rem by simp, List.take_left' (by simp)]
    rw [hop, htk2] at hrn
    cases hst : nsStep acc.length I.op s with
    | none =>
      rw [hst, ← htk2] at hrn
      have := runN_none hrn
      rw [hF.run] at this
      cases this
    | some s' =>
      rw [hst] at hrn
      obtain ⟨d1, d2⟩ := step_depth hst
      have hne : ¬ (I.op = 11 ∧ (s.op.length : Int) = 0) := fun ⟨h1, h2⟩ => by have := d2 h1; omega
      rw [readB_go hg hne (by omega), ← d1]
      have ha : (encMs acc).length + (encII I).length = (encMs (acc ++ [I])).length := by rw [encMs_snoc, List.length_append]
      rw [ha]
      exact read_enc l rest bl hF hm ho rem (acc ++ [I]) s' g (by rw [hl]; simp) hrn (by simp; omega)
theorem getB_enc {l : List Ins} (rest : List Int) {bl : List Bk} (hF : fits (opsI l) = some bl) (hm : ∀ I ∈ l, mayII I = true) (ho : ∀ I ∈ l, okI I) : getB (encMs l ++ [11] ++ rest) = (l, (encMs l).length + 1, 0) := by
  have h := read_enc l rest bl (fits_iff.1 hF) hm ho l [] nsStart 301 rfl rfl rfl
  have h' : readB 301 (encMs l ++ [11] ++ rest) [] 0 0 = (l, (encMs l).length + 1, 0) := h
  unfold getB
  rw [h']
  simp [hF]
end Go.Proofs.Ytfambbpggodlkaa
