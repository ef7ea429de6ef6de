/- dev: plain mathematics of its laws. No program is named here. -/
import Derived.Test.YtpfcopdckjedfaaDoorDvM
namespace Go.Proofs.YtpfcopdckjedfaaDoor
open Go.RowKit
set_option linter.unusedVariables false

/-- What a crash leaves of sector i. -/
theorem keepS_getD : ∀ (as bs : List Sec) (ls ks : List Bool) (i : Nat), bs.length = as.length → ls.length = as.length →
    (keepS as bs ls ks).getD i [] = if ls.getD i false && ks.getD ((ls.take i).count true) false then as.getD i [] else bs.getD i []
  | [], bs, ls, ks, i, h1, h2 => by
    have e1 : bs = [] := List.eq_nil_of_length_eq_zero h1
    have e2 : ls = [] := List.eq_nil_of_length_eq_zero h2
    subst e1 e2
    simp [keepS]
  | a :: as, [], _, _, _, h1, _ => by simp at h1
  | a :: as, b :: bs, [], _, _, _, h2 => by simp at h2
  | a :: as, b :: bs, l :: ls, ks, 0, h1, h2 => by
    cases l with
    | false => simp [keepS]
    | true =>
      cases ks with
      | nil => simp [keepS]
      | cons k ks => cases k <;> simp [keepS]
  | a :: as, b :: bs, l :: ls, ks, i + 1, h1, h2 => by
    have h1' : bs.length = as.length := by simpa using h1
    have h2' : ls.length = as.length := by simpa using h2
    have hrec := fun ks' => keepS_getD as bs ls ks' i h1' h2'
    cases l with
    | false => simp only [keepS, List.getD_cons_succ, hrec ks, List.take_succ_cons, List.count_cons]; simp
    | true =>
      cases ks with
      | nil => simp only [keepS, List.getD_cons_succ, hrec [], List.take_succ_cons, List.count_cons]; simp
      | cons k ks => simp only [keepS, List.getD_cons_succ, hrec ks, List.take_succ_cons, List.count_cons]; simp
theorem keepS_same : ∀ (as : List Sec) (ls ks : List Bool), ls.length = as.length → keepS as as ls ks = as
  | [], _, _, _ => by unfold keepS; rfl
  | a :: as, [], _, h => by simp at h
  | a :: as, l :: ls, ks, h => by
    have h' : ls.length = as.length := by simpa using h
    cases l with
    | false => simp [keepS, keepS_same as ls ks h']
    | true =>
      cases ks with
      | nil => simp [keepS, keepS_same as ls [] h']
      | cons k ks => simp [keepS, keepS_same as ls ks h']
theorem looses_none : ∀ (k n : Nat), loosesFrom k (List.replicate n false) = []
  | _, 0 => rfl
  | k, n + 1 => by rw [List.replicate_succ]; exact looses_none (k + 1) n
theorem looses_length : ∀ (k : Nat) (l : List Bool), (loosesFrom k l).length = l.count true
  | _, [] => rfl
  | k, true :: l => by simp [loosesFrom, looses_length (k + 1) l]
  | k, false :: l => by simp [loosesFrom, looses_length (k + 1) l]

/-- A device whose sectors were written one by one, the 40th, the 38th, .. -/
def kM : Nat → Dv
  | 0 => Dv.blank 40
  | n + 1 => (kM n).put (39 - 2 * n) [(n : Int) + 1]
theorem kM_facts : ∀ n, n ≤ 20 → (kM n).calls = n ∧ (kM n).fuse = -1 ∧ (kM n).now.length = 40 ∧ (kM n).safe = List.replicate 40 zSec
  | 0, _ => ⟨rfl, rfl, by simp [kM, Dv.blank], rfl⟩
  | n + 1, h => by
    obtain ⟨h1, h2, h3, h4⟩ := kM_facts n (by omega)
    refine ⟨?_, ?_, ?_, ?_⟩
    · simp [kM, Dv.put, Dv.next, h1]
    · simp [kM, Dv.put, Dv.next, h2]
    · simp [kM, Dv.put, Dv.next, h3]
    · simp [kM, Dv.put, Dv.next, h4]
theorem kM_ok : ∀ n, n ≤ 20 → (kM n).ok
  | 0, _ => Dv.blank_ok (by decide) (by decide)
  | n + 1, h => Dv.put_ok (kM_ok n (by omega)) (by rw [(kM_facts n (by omega)).2.2.1]; omega) (by simp) (fun x hx => by
      simp at hx
      subst hx
      exact WalkArith.wf_u8 ⟨by omega, by omega⟩)
theorem kM_write (n : Nat) (h : n < 20) : (kM n).write (39 - 2 * (n : Int)) [(n : Int) + 1] = kM (n + 1) := by
  obtain ⟨h1, h2, h3, h4⟩ := kM_facts n (by omega)
  have e : (kM n).writeE (39 - 2 * (n : Int)) [(n : Int) + 1].length = 0 := by
    unfold Dv.writeE
    rw [h2, h3, if_neg (by decide), if_neg (by omega), if_neg (by simp)]
  unfold Dv.write
  rw [if_pos e]
  show (kM n).put (39 - 2 * (n : Int)).toNat _ = (kM n).put (39 - 2 * n) _
  congr 1
  omega
theorem kM_all : ∀ n : Fin 21, ∀ i : Fin 21, i.val < n.val → ((kM n.val).loose.getD (39 - 2 * i.val) false = true ∧ ((kM n.val).loose.take (39 - 2 * i.val)).count true = n.val - 1 - i.val ∧ ((kM n.val).now.getD (39 - 2 * i.val) []).getD 0 0 = (i.val : Int) + 1 ∧ ((kM n.val).now.getD (39 - 2 * i.val) []).length = 64) := by decide +kernel
theorem kM_loose : ∀ n : Fin 21, (kM n.val).loose.count true = n.val ∧ (kM n.val).loose.length = 40 := by decide +kernel
/-- What a crash leaves of the i-th written one. -/
theorem kM_crash (n i : Nat) (hn : n ≤ 20) (hi : i < n) (ks : List Bool) : (((kM n).crash ks).now.getD (39 - 2 * i) []).getD 0 0 = (if ks.getD (n - 1 - i) false then (i : Int) + 1 else 0) ∧ (((kM n).crash ks).now.getD (39 - 2 * i) []).length = 64 := by
  obtain ⟨h1, h2, h3, h4⟩ := kM_facts n hn
  obtain ⟨a1, a2, a3, a4⟩ := kM_all ⟨n, by omega⟩ ⟨i, by omega⟩ hi
  obtain ⟨_, b2⟩ := kM_loose ⟨n, by omega⟩
  show ((keepS (kM n).now (kM n).safe (kM n).loose ks).getD (39 - 2 * i) []).getD 0 0 = _ ∧ ((keepS (kM n).now (kM n).safe (kM n).loose ks).getD (39 - 2 * i) []).length = 64
  rw [keepS_getD _ _ _ _ _ (by rw [h4, h3]; simp) (by rw [h3]; exact b2)]
  simp only at a1 a2 a3 a4
  rw [a1, a2, h4]
  cases hk : ks.getD (n - 1 - i) false with
  | true => exact ⟨a3, a4⟩
  | false =>
    have e : (List.replicate 40 zSec).getD (39 - 2 * i) [] = zSec := by rw [List.getD_eq_getElem?_getD, List.getElem?_replicate, if_pos (by omega)]; rfl
    simp only [Bool.and_false, Bool.false_eq_true, if_false, e]
    decide
theorem Dv.write_dead {M : Dv} (h : M.fuse = 0) (i : Int) (m : Nat) (b : List Int) : M.writeE i m = 10 ∧ M.write i b = M := by
  have e : ∀ m, M.writeE i m = 10 := fun m => by unfold Dv.writeE; rw [if_pos h]
  exact ⟨e m, by unfold Dv.write; rw [e, if_neg (by decide)]⟩
theorem Dv.write_live {M : Dv} (h : M.fuse ≠ 0) {i : Int} (h0 : 0 ≤ i) (hi : i < M.now.length) {m : Nat} {b : List Int} (hm : b.length = m) (hb : m ≤ 64) :
    M.writeE i m = 0 ∧ (M.write i b).calls = M.calls + 1 ∧ (M.write i b).fuse = (if 0 < M.fuse then M.fuse - 1 else M.fuse) ∧ (M.write i b).now.length = M.now.length ∧ (M.write i b).safe = M.safe := by
  have e : M.writeE i m = 0 := by unfold Dv.writeE; rw [if_neg h, if_neg (by omega), if_neg (by omega)]
  have e2 : M.write i b = M.put i.toNat b := by unfold Dv.write; rw [hm, e, if_pos rfl]
  rw [e2]
  exact ⟨e, rfl, rfl, by simp [Dv.put, Dv.next], rfl⟩
theorem Dv.flush_dead {M : Dv} (h : M.fuse = 0) : M.flushE = 10 ∧ M.flush = M := ⟨by unfold Dv.flushE; rw [if_pos h], by unfold Dv.flush; rw [if_pos h]⟩
theorem Dv.flush_live {M : Dv} (h : M.fuse ≠ 0) : M.flushE = 0 ∧ M.flush.calls = M.calls + 1 ∧ M.flush.fuse = (if 0 < M.fuse then M.fuse - 1 else M.fuse) ∧ M.flush.now.length = M.now.length := by
  have e : M.flush = Dv.next { M with safe := M.now, loose := List.replicate M.now.length false } := by unfold Dv.flush; rw [if_neg h]
  rw [e]
  exact ⟨by unfold Dv.flushE; rw [if_neg h], rfl, rfl, rfl⟩
end Go.Proofs.YtpfcopdckjedfaaDoor
