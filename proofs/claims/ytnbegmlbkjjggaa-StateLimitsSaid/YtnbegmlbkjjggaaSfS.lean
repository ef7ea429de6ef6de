/- package state: what was written is read again; the package's functions are what the laws ask of them (theSpec). -/
import Derived.Test.YtnbegmlbkjjggaaSfC
namespace Go.Proofs.Ytnbegmlbkjjggaa
open Go.RowKit
set_option linter.unusedVariables false

theorem rNum_enc (u : Int) (t : List Int) (h0 : 0 ≤ u) (h1 : u < 4294967296) : rNum (numE u ++ t) = (u, t) := by
  unfold rNum numE
  rw [decU_enc u t h0 h1]
  simp
theorem rSig_enc (u : Int) (t : List Int) (h : -9223372036854775808 ≤ u ∧ u ≤ 9223372036854775807) : rSig (encS 9 u ++ t) = (u, t) := by
  unfold rSig
  rw [decS_enc 64 u t (.inr ⟨rfl, h⟩)]
  simp
theorem rVal_enc (v : Int × Int) (t : List Int) (h : okV v = true) (hw : wfP v) : rVal (vaE v ++ t) = (v, t) := by
  have h1 : 0 ≤ v.1 ∧ v.1 < 4294967296 := by simp [okV, okv] at h; omega
  have h2 := bounds_i64 hw.2
  unfold rVal vaE
  rw [List.append_assoc, rNum_enc _ _ h1.1 h1.2]
  simp only
  rw [rSig_enc _ _ h2]
theorem rLab_enc (v : Int × Int) (t : List Int) (h : okL v = true) : rLab (laE v ++ t) = (v, t) := by
  have h1 : (0 ≤ v.1 ∧ v.1 < 4294967296) ∧ (0 ≤ v.2 ∧ v.2 < 4294967296) := by simp [okL, okN] at h; omega
  unfold rLab laE
  rw [List.append_assoc, rNum_enc _ _ h1.1.1 h1.1.2]
  simp only
  rw [rNum_enc _ _ h1.2.1 h1.2.2]
theorem rN_cons {α : Type} (get : List Int → α × List Int) : ∀ (n : Nat) (xs : List Int), rN get (n + 1) xs = ((get xs).1 :: (rN get n (get xs).2).1, (rN get n (get xs).2).2)
  | 0, xs => rfl
  | n + 1, xs => by
    have ih := rN_cons get n xs
    have e : rN get (n + 1 + 1) xs = ((rN get (n + 1) xs).1 ++ [(get (rN get (n + 1) xs).2).1], (get (rN get (n + 1) xs).2).2) := rfl
    rw [e, ih]
    rfl
theorem rN_enc {α : Type} (get : List Int → α × List Int) (f : α → List Int) : ∀ (xs : List α) (t : List Int), (∀ x ∈ xs, ∀ t, get (f x ++ t) = (x, t)) → rN get xs.length (xs.flatMap f ++ t) = (xs, t)
  | [], t, _ => rfl
  | x :: r, t, h => by
    have hx := h x (by simp) (r.flatMap f ++ t)
    have ih := rN_enc get f r t (fun y hy => h y (by simp [hy]))
    rw [List.length_cons, rN_cons, List.flatMap_cons, List.append_assoc, hx]
    simp only
    rw [ih]
theorem rList_enc {α : Type} (most : Int) (get : List Int → α × List Int) (f : α → List Int) (xs : List α) (t : List Int) (hm : (xs.length : Int) ≤ most) (hm2 : most < 4294967296) (h : ∀ x ∈ xs, ∀ t, get (f x ++ t) = (x, t)) : rList most get (vecE f xs ++ t) = (xs, t) := by
  unfold rList vecE
  rw [List.append_assoc]
  have e := rNum_enc (xs.length : Int) (xs.flatMap f ++ t) (by omega) (by omega)
  unfold numE at e
  rw [e]
  simp only
  rw [if_neg (by omega), Int.toNat_natCast]
  exact rN_enc get f xs t h
theorem mayF_parts {f : Fm} (h : mayF f = true) : f.ls.length ≤ 32 ∧ f.lb.length ≤ 40 ∧ f.ls.all okV = true ∧ okN f.fn = true ∧ okN f.pc = true ∧ okN f.base = true ∧ f.lb.all okL = true := by
  simp only [mayF, Bool.and_eq_true, decide_eq_true_eq] at h
  obtain ⟨⟨⟨⟨⟨⟨q1, q2⟩, q3⟩, q4⟩, q5⟩, q6⟩, q7⟩ := h
  exact ⟨q1, q2, q3, q4, q5, q6, q7⟩
theorem okN_32 {n : Int} (h : okN n = true) : 0 ≤ n ∧ n < 4294967296 := by simp [okN] at h; omega
theorem rFr_enc (f : Fm) (t : List Int) (h : mayF f = true) (hw : wfF f) : rFr (frE f ++ t) = (f, t) := by
  obtain ⟨q1, q2, q3, q4, q5, q6, q7⟩ := mayF_parts h
  obtain ⟨h1, h1'⟩ := okN_32 q4
  obtain ⟨h2, h2'⟩ := okN_32 q5
  obtain ⟨h3, h3'⟩ := okN_32 q6
  have e : frE f ++ t = numE f.fn ++ (numE f.pc ++ (numE f.base ++ (vecE vaE f.ls ++ (vecE laE f.lb ++ t)))) := by simp [frE]
  have l1 := rList_enc 32 rVal vaE f.ls (vecE laE f.lb ++ t) (by omega) (by decide) (fun x hx t => rVal_enc x t (List.all_eq_true.1 q3 x hx) (hw.1 x hx))
  have l2 := rList_enc 40 rLab laE f.lb t (by omega) (by decide) (fun x hx t => rLab_enc x t (List.all_eq_true.1 q7 x hx))
  rw [e]
  simp only [rFr, rFr3, rNum_enc _ _ h1 h1', rNum_enc _ _ h2 h2', rNum_enc _ _ h3 h3', l1, l2]
theorem rSt_enc (S : St) (h : mayS S = true) (hw : wfS S) : rSt (stE S) = S := by
  obtain ⟨q1, q2, q3, q4, q5, q6⟩ := mayS_parts h
  have l0 := rNum_enc (S.asks + 1) (vecE vaE S.vs ++ (vecE frE S.fs ++ [])) (by omega) (by omega)
  have l1 := rList_enc 1000 rVal vaE S.vs (vecE frE S.fs ++ []) (by omega) (by decide) (fun x hx t => rVal_enc x t (List.all_eq_true.1 q3 x hx) (hw.1 x hx))
  have l2 := rList_enc 32 rFr frE S.fs [] (by omega) (by decide) (fun x hx t => rFr_enc x t (List.all_eq_true.1 q6 x hx) (hw.2.1 x hx))
  have e : stE S = numE (S.asks + 1) ++ (vecE vaE S.vs ++ (vecE frE S.fs ++ [])) := by simp [stE]
  rw [e]
  simp only [rSt, l0, l1, l2]
  have : S.asks + 1 + -1 = S.asks := by omega
  rw [this]

theorem rN_all {α : Type} {P : α → Prop} (get : List Int → α × List Int) (h : ∀ ys, P (get ys).1) : ∀ (n : Nat) (xs : List Int), ∀ x ∈ (rN get n xs).1, P x
  | 0, _, x, hx => by cases hx
  | n + 1, xs, x, hx => by
    have ih := rN_all get h n xs
    simp only [rN, List.mem_append, List.mem_singleton] at hx
    rcases hx with hx | rfl
    · exact ih x hx
    · exact h _
theorem rList_all {α : Type} {P : α → Prop} (most : Int) (get : List Int → α × List Int) (h : ∀ ys, P (get ys).1) (xs : List Int) : ∀ x ∈ (rList most get xs).1, P x := by
  unfold rList
  split
  · intro x hx; cases hx
  · exact rN_all get h _ _
theorem rVal_wf (ys : List Int) : wfP (rVal ys).1 := ⟨wf64 (by have := rNum_bd ys; simp only [rVal]; omega), wf64 (rSig_bd _)⟩
theorem rLab_wf (ys : List Int) : wfP (rLab ys).1 := ⟨wf64 (by have := rNum_bd ys; simp only [rLab]; omega), wf64 (by have := rNum_bd (rNum ys).2; simp only [rLab]; omega)⟩
theorem rFr_wf (ys : List Int) : wfF (rFr ys).1 :=
  ⟨rList_all 32 rVal rVal_wf _, rList_all 40 rLab rLab_wf _, wf64 (by have := rNum_bd ys; simp only [rFr]; omega), wf64 (by have := rNum_bd (rNum ys).2; simp only [rFr]; omega), wf64 (by have := rNum_bd (rNum (rNum ys).2).2; simp only [rFr]; omega)⟩
theorem rSt_wf (b : List Int) : wfS (rSt b) := ⟨rList_all 1000 rVal rVal_wf _, rList_all 32 rFr rFr_wf _, wf64 (by have := rNum_bd b; simp only [rSt]; omega)⟩

theorem encS_bts : ∀ (f : Nat) (u : Int), ∀ x ∈ encS f u, 0 ≤ x ∧ x ≤ 255
  | f, u, x, hx => by
    by_cases hc : u < -64 ∨ 64 ≤ u
    · cases f with
      | zero =>
        simp [encS] at hx
        omega
      | succ f =>
        rw [encS_big hc] at hx
        rcases List.mem_cons.1 hx with rfl | hx
        · omega
        · exact encS_bts f (u / 128) x hx
    · rw [encS_small hc] at hx
      simp at hx
      omega
theorem numE_bts {n : Int} (h0 : 0 ≤ n) (h1 : n ≤ 9223372036854775807) : ∀ x ∈ numE n, 0 ≤ x ∧ x ≤ 255 := encU_bs 9 n h0 (fits9 n h0 (by omega))
theorem vecE_bts {α : Type} (f : α → List Int) (xs : List α) (hl : xs.length ≤ 1000) (h : ∀ x ∈ xs, ∀ y ∈ f x, 0 ≤ y ∧ y ≤ 255) : ∀ y ∈ vecE f xs, 0 ≤ y ∧ y ≤ 255 := by
  intro y hy
  unfold vecE at hy
  rcases List.mem_append.1 hy with hy | hy
  · exact numE_bts (n := (xs.length : Int)) (by omega) (by omega) y hy
  · obtain ⟨x, hx, hy⟩ := List.mem_flatMap.1 hy
    exact h x hx y hy
theorem vaE_bts {v : Int × Int} (h : okV v = true) : ∀ y ∈ vaE v, 0 ≤ y ∧ y ≤ 255 := by
  intro y hy
  have h1 := okV_bd h
  rcases List.mem_append.1 hy with hy | hy
  · exact numE_bts h1.1 h1.2 y hy
  · exact encS_bts 9 _ y hy
theorem laE_bts {v : Int × Int} (h : okL v = true) : ∀ y ∈ laE v, 0 ≤ y ∧ y ≤ 255 := by
  intro y hy
  have h1 : okN v.1 = true ∧ okN v.2 = true := by simpa [okL] using h
  rcases List.mem_append.1 hy with hy | hy
  · exact numE_bts (okN_bd h1.1).1 (okN_bd h1.1).2 y hy
  · exact numE_bts (okN_bd h1.2).1 (okN_bd h1.2).2 y hy
theorem frE_bts {f : Fm} (h : mayF f = true) : ∀ y ∈ frE f, 0 ≤ y ∧ y ≤ 255 := by
  obtain ⟨q1, q2, q3, q4, q5, q6, q7⟩ := mayF_parts h
  intro y hy
  unfold frE at hy
  rcases List.mem_append.1 hy with hy | hy
  · exact numE_bts (okN_bd q4).1 (okN_bd q4).2 y hy
  rcases List.mem_append.1 hy with hy | hy
  · exact numE_bts (okN_bd q5).1 (okN_bd q5).2 y hy
  rcases List.mem_append.1 hy with hy | hy
  · exact numE_bts (okN_bd q6).1 (okN_bd q6).2 y hy
  rcases List.mem_append.1 hy with hy | hy
  · exact vecE_bts vaE f.ls (by omega) (fun x hx => vaE_bts (List.all_eq_true.1 q3 x hx)) y hy
  · exact vecE_bts laE f.lb (by omega) (fun x hx => laE_bts (List.all_eq_true.1 q7 x hx)) y hy
theorem stE_bts {S : St} (h : mayS S = true) : ∀ y ∈ stE S, 0 ≤ y ∧ y ≤ 255 := by
  obtain ⟨q1, q2, q3, q4, q5, q6⟩ := mayS_parts h
  intro y hy
  unfold stE at hy
  rcases List.mem_append.1 hy with hy | hy
  · exact numE_bts (by omega) (by omega) y hy
  rcases List.mem_append.1 hy with hy | hy
  · exact vecE_bts vaE S.vs (by omega) (fun x hx => vaE_bts (List.all_eq_true.1 q3 x hx)) y hy
  · exact vecE_bts frE S.fs (by omega) (fun x hx => frE_bts (List.all_eq_true.1 q6 x hx)) y hy
theorem stE_len {S : St} (h : mayS S = true) : (stE S).length ≤ 1000000 := by
  obtain ⟨q1, q2, q3, q4, q5, q6⟩ := mayS_parts h
  have a0 := encU_len 9 (S.asks + 1)
  have a1 := vec_len vaE S.vs 1000 20 q1 (fun _ _ => vaE_len _)
  have a2 := vec_len frE S.fs 32 1500 q2 (fun x hx => frE_len x (mayF_ls q6 x hx).1 (mayF_ls q6 x hx).2)
  unfold stE numE
  simp only [List.length_append]
  omega
theorem stE_ne (S : St) : stE S ≠ [] := by
  intro h
  have := encU_ne 9 (S.asks + 1)
  unfold stE numE at h
  exact this (List.append_eq_nil_iff.1 h).1

/-- The package's functions, as the laws ask of them. -/
noncomputable def theSpec : StSpec where
  enc := encSt
  dec := decSt
  bad := fun S h => by unfold encSt; rw [if_neg (by rw [h]; decide)]
  len := fun S _ => by
    unfold encSt
    split
    · next h => exact stE_len h
    · exact Nat.zero_le _
  byt := fun S x hx => by
    unfold encSt at hx
    split at hx
    · next h => exact stE_bts h x hx
    · cases hx
  good := fun S hw h => by
    have e : encSt S = stE S := if_pos h
    rw [e]
    refine ⟨stE_ne S, ?_⟩
    unfold decSt
    rw [rSt_enc S h hw]
    exact if_pos ⟨h, rfl⟩
  back := fun b S _ h => by
    unfold decSt at h
    split at h
    · next hc =>
      cases h
      exact ⟨hc.1, by unfold encSt; rw [if_pos hc.1]; exact hc.2, rSt_wf b⟩
    · cases h
  may_to := mayState_to
  eq_to := fun V V' S S' t w ht h h' => by
    have e : eqSt S S' = t := by rw [Bool.eq_iff_iff, eqSt_iff]; exact ht.symm
    rw [← e]
    exact eqState_to V V' S S' w h h'
  enc_to := encState_to
  dec_to := fun ao n cap b w h _ => (decState_to ao n cap b w h).mono fun _ _ h => h
  copy_to := fun V S w ht h => (copyState_to V S w ht h).mono fun _ _ h => h
end Go.Proofs.Ytnbegmlbkjjggaa
