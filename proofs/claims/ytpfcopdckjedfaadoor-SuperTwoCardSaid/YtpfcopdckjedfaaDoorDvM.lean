/- dev: the document's device, plainly. No program is named here. -/
import Derived.Test.YtpfcopdckjedfaaDoorBase
namespace Go.Proofs.YtpfcopdckjedfaaDoor
open Go.RowKit
set_option linter.unusedVariables false

abbrev Sec := List Int
def zSec : Sec := List.replicate 64 0
structure Dv where
  now : List Sec
  safe : List Sec
  loose : List Bool
  calls : Nat
  fuse : Int
def secOk (s : Sec) : Prop := s.length = 64 ∧ ∀ x ∈ s, (Lit.int .u8 x).wf = true
structure Dv.ok (M : Dv) : Prop where
  n1 : 1 ≤ M.now.length
  n2 : M.now.length ≤ 2048
  s : M.safe.length = M.now.length
  l : M.loose.length = M.now.length
  now : ∀ s ∈ M.now, secOk s
  safe : ∀ s ∈ M.safe, secOk s
  f0 : -1 ≤ M.fuse
  f1 : M.fuse ≤ 9223372036854775807
/-- A device of k sectors on which nothing was written. -/
def Dv.blank (k : Nat) : Dv := ⟨List.replicate k zSec, List.replicate k zSec, List.replicate k false, 0, -1⟩
def Dv.new (n : Int) : Dv := Dv.blank (max 1 (min n 2048)).toNat
def Dv.next (M : Dv) : Dv := { M with calls := M.calls + 1, fuse := if 0 < M.fuse then M.fuse - 1 else M.fuse }
def Dv.writeE (M : Dv) (i : Int) (m : Nat) : Int := if M.fuse = 0 then 10 else if i < 0 ∨ (M.now.length : Int) ≤ i then 3 else if 64 < m then 1 else 0
def Dv.put (M : Dv) (i : Nat) (b : List Int) : Dv := Dv.next { M with now := M.now.set i (b ++ (M.now.getD i []).drop b.length), loose := M.loose.set i true }
def Dv.write (M : Dv) (i : Int) (b : List Int) : Dv := if M.writeE i b.length = 0 then M.put i.toNat b else M
def Dv.flushE (M : Dv) : Int := if M.fuse = 0 then 10 else 0
def Dv.flush (M : Dv) : Dv := if M.fuse = 0 then M else Dv.next { M with safe := M.now, loose := List.replicate M.now.length false }
def loosesFrom : Nat → List Bool → List Int
  | _, [] => []
  | k, true :: l => (k : Int) :: loosesFrom (k + 1) l
  | k, false :: l => loosesFrom (k + 1) l
def Dv.looses (M : Dv) : List Int := loosesFrom 0 M.loose
def Dv.fuseTo (M : Dv) (n : Int) : Dv := if M.fuse = 0 then M else { M with fuse := max (-1) n }
/-- What a crash leaves of the sectors: as they were last, where they are loose and kept. -/
def keepS : List Sec → List Sec → List Bool → List Bool → List Sec
  | a :: as, b :: bs, l :: ls, ks => match l, ks with
    | true, k :: ks' => (if k then a else b) :: keepS as bs ls ks'
    | true, [] => b :: keepS as bs ls []
    | false, ks => b :: keepS as bs ls ks
  | _, _, _, _ => []
def Dv.crash (M : Dv) (keep : List Bool) : Dv := ⟨keepS M.now M.safe M.loose keep, keepS M.now M.safe M.loose keep, List.replicate M.now.length false, 0, -1⟩
def Dv.readE (M : Dv) (i : Int) : Int := if i < 0 ∨ (M.now.length : Int) ≤ i then 3 else 0
def Dv.read (M : Dv) (i : Int) : Sec := if i < 0 then [] else M.now.getD i.toNat []

theorem zSec_ok : secOk zSec := ⟨by simp [zSec], fun x hx => by simp [zSec] at hx; subst hx; decide⟩
theorem keepS_length : ∀ (as bs : List Sec) (ls ks : List Bool), bs.length = as.length → ls.length = as.length → (keepS as bs ls ks).length = as.length
  | [], _, _, _, _, _ => by unfold keepS; rfl
  | a :: as, b :: bs, l :: ls, ks, h1, h2 => by
    have h1' : bs.length = as.length := by simpa using h1
    have h2' : ls.length = as.length := by simpa using h2
    cases l with
    | false => simp [keepS, keepS_length as bs ls ks h1' h2']
    | true =>
      cases ks with
      | nil => simp [keepS, keepS_length as bs ls [] h1' h2']
      | cons k ks => simp [keepS, keepS_length as bs ls ks h1' h2']
  | a :: as, [], _, _, h1, _ => by simp at h1
  | a :: as, b :: bs, [], _, _, h2 => by simp at h2
theorem keepS_mem : ∀ (as bs : List Sec) (ls ks : List Bool) (s : Sec), s ∈ keepS as bs ls ks → s ∈ as ∨ s ∈ bs
  | [], _, _, _, s, h => by simp [keepS] at h
  | a :: as, [], _, _, s, h => by simp [keepS] at h
  | a :: as, b :: bs, [], _, s, h => by simp [keepS] at h
  | a :: as, b :: bs, l :: ls, ks, s, h => by
    have hrec := fun ks' => keepS_mem as bs ls ks' s
    cases l with
    | false =>
      simp only [keepS, List.mem_cons] at h ⊢
      rcases h with h | h
      · exact .inr (.inl h)
      · rcases hrec ks h with h | h
        · exact .inl (.inr h)
        · exact .inr (.inr h)
    | true =>
      cases ks with
      | nil =>
        simp only [keepS, List.mem_cons] at h ⊢
        rcases h with h | h
        · exact .inr (.inl h)
        · rcases hrec [] h with h | h
          · exact .inl (.inr h)
          · exact .inr (.inr h)
      | cons k ks =>
        simp only [keepS, List.mem_cons] at h ⊢
        rcases h with h | h
        · cases k with
          | false => exact .inr (.inl (by simpa using h))
          | true => exact .inl (.inl (by simpa using h))
        · rcases hrec ks h with h | h
          · exact .inl (.inr h)
          · exact .inr (.inr h)
theorem Dv.blank_ok {k : Nat} (h1 : 1 ≤ k) (h2 : k ≤ 2048) : (Dv.blank k).ok :=
  ⟨by simpa [Dv.blank] using h1, by simpa [Dv.blank] using h2, by simp [Dv.blank], by simp [Dv.blank], fun s hs => by simp [Dv.blank] at hs; rw [hs.2]; exact zSec_ok, fun s hs => by simp [Dv.blank] at hs; rw [hs.2]; exact zSec_ok, by simp [Dv.blank], by simp [Dv.blank]⟩
theorem Dv.new_ok (n : Int) : (Dv.new n).ok := Dv.blank_ok (by omega) (by omega)
theorem Dv.crash_ok {M : Dv} (h : M.ok) (ks : List Bool) : (M.crash ks).ok := by
  have hl := keepS_length M.now M.safe M.loose ks h.s h.l
  have hm : ∀ s ∈ keepS M.now M.safe M.loose ks, secOk s := fun s hs => by
    rcases keepS_mem _ _ _ _ s hs with h' | h'
    · exact h.now s h'
    · exact h.safe s h'
  exact ⟨by rw [Dv.crash]; simpa [hl] using h.n1, by rw [Dv.crash]; simpa [hl] using h.n2, by simp [Dv.crash], by simp [Dv.crash, hl], hm, hm, by simp [Dv.crash], by simp [Dv.crash]⟩
theorem Dv.next_ok {M : Dv} (h : M.ok) : M.next.ok := by
  refine ⟨h.n1, h.n2, h.s, h.l, h.now, h.safe, ?_, ?_⟩
  · show -1 ≤ (if 0 < M.fuse then M.fuse - 1 else M.fuse)
    have := h.f0
    split <;> omega
  · show (if 0 < M.fuse then M.fuse - 1 else M.fuse) ≤ _
    have := h.f1
    split <;> omega
theorem secOk.over {s b : List Int} (h : secOk s) (hb : b.length ≤ 64) (hw : ∀ x ∈ b, (Lit.int .u8 x).wf = true) : secOk (b ++ s.drop b.length) := by
  refine ⟨by simp [h.1]; omega, fun x hx => ?_⟩
  rcases List.mem_append.1 hx with hx | hx
  · exact hw x hx
  · exact h.2 x (List.mem_of_mem_drop hx)
theorem Dv.put_ok {M : Dv} (h : M.ok) {i : Nat} (hi : i < M.now.length) {b : List Int} (hb : b.length ≤ 64) (hw : ∀ x ∈ b, (Lit.int .u8 x).wf = true) : (M.put i b).ok := by
  refine Dv.next_ok ⟨by simpa using h.n1, by simpa using h.n2, by simpa using h.s, by simpa using h.l, fun s hs => ?_, h.safe, h.f0, h.f1⟩
  rcases List.mem_or_eq_of_mem_set hs with hs | rfl
  · exact h.now s hs
  · refine secOk.over (h.now _ ?_) hb hw
    simp [List.getD, hi]
theorem Dv.flush_ok {M : Dv} (h : M.ok) : M.flush.ok := by
  unfold Dv.flush
  split
  · exact h
  · exact Dv.next_ok ⟨h.n1, h.n2, rfl, by simp, h.now, h.now, h.f0, h.f1⟩
theorem Dv.write_ok {M : Dv} (h : M.ok) (i : Int) {b : List Int} (hw : ∀ x ∈ b, (Lit.int .u8 x).wf = true) : (M.write i b).ok := by
  unfold Dv.write
  split
  · next he =>
    unfold Dv.writeE at he
    split at he
    · omega
    · split at he
      · omega
      · split at he
        · omega
        · exact Dv.put_ok h (by omega) (by omega) hw
  · exact h
end Go.Proofs.YtpfcopdckjedfaaDoor
