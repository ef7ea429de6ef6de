/- super: a text with its turn as a sector's bytes, plainly; what a Save leaves on a device. -/
import Derived.Test.YtpfcopdckjedfaaDoorSuS
import Derived.Test.YtpfcopdckjedfaaDoorPk
import Derived.Test.YtpfcopdckjedfaaDoorKCR
namespace Go.Proofs.YtpfcopdckjedfaaDoor
open Go.RowKit
set_option linter.unusedVariables false

def le4 (s : Nat) : List Int := [((s % 256 : Nat) : Int), ((s / 256 % 256 : Nat) : Int), ((s / 65536 % 256 : Nat) : Int), ((s / 16777216 % 256 : Nat) : Int)]
def recH (t : Int) (b : List Int) : List Int := encS 9 t ++ bytE b
def recZ (t : Int) (b : List Int) : List Int := recH t b ++ List.replicate (60 - (recH t b).length) 0
def recE (t : Int) (b : List Int) : List Int := recZ t b ++ le4 (crcOf 0 (recZ t b))
theorem bytE_len {b : List Int} (hb : b.length ≤ 40) : (bytE b).length ≤ 41 := by
  have h := encU_few 0 9 (b.length : Int) (by omega)
  unfold bytE
  simp only [List.length_append]
  omega
theorem recH_len (t : Int) {b : List Int} (hb : b.length ≤ 40) : (recH t b).length ≤ 51 := by
  have h := bytE_len hb
  have h2 := encS_len 9 t
  unfold recH
  simp only [List.length_append]
  omega
theorem recZ_len (t : Int) {b : List Int} (hb : b.length ≤ 40) : (recZ t b).length = 60 := by
  have := recH_len t hb
  unfold recZ
  simp
  omega
theorem recE_len (t : Int) {b : List Int} (hb : b.length ≤ 40) : (recE t b).length = 64 := by
  unfold recE le4
  rw [List.length_append, recZ_len t hb]
  rfl
/-- What a sector holds: a text with its turn, or the turn 0. -/
noncomputable def recD (xs : List Int) : Int × List Int :=
  if (rSig xs).1 < 1 ∨ (rSig xs).1 = 9223372036854775807 ∨ 40 < (rByt (rSig xs).2).1.length ∨ recE (rSig xs).1 (rByt (rSig xs).2).1 ≠ xs then (0, []) else ((rSig xs).1, (rByt (rSig xs).2).1)
theorem recE_read (t : Int) (b : List Int) (h0 : -9223372036854775808 ≤ t) (h1 : t ≤ 9223372036854775807) (hb : b.length ≤ 40) : (rSig (recE t b)).1 = t ∧ (rByt (rSig (recE t b)).2).1 = b := by
  have e : recE t b = encS 9 t ++ (bytE b ++ (List.replicate (60 - (recH t b).length) 0 ++ le4 (crcOf 0 (recZ t b)))) := by
    show (encS 9 t ++ bytE b ++ _) ++ _ = _
    simp only [List.append_assoc]
  rw [e, rSig_enc t _ h0 h1]
  simp only
  rw [rByt_enc b _ (by omega)]
  simp
theorem recD_enc {t : Int} {b : List Int} (h0 : 1 ≤ t) (h1 : t < 9223372036854775807) (hb : b.length ≤ 40) : recD (recE t b) = (t, b) := by
  obtain ⟨e1, e2⟩ := recE_read t b (by omega) (by omega) hb
  unfold recD
  rw [e1, e2, if_neg]
  rintro (h | h | h | h)
  · omega
  · omega
  · omega
  · exact h rfl
theorem recD_zero : recD zSec = (0, []) := by
  have e : zSec = encS 9 0 ++ List.replicate 63 0 := by decide
  have h := rSig_enc 0 (List.replicate 63 0) (by decide) (by decide)
  rw [← e] at h
  unfold recD
  rw [h, if_pos (.inl (by decide))]
theorem recD_bd (xs : List Int) : 0 ≤ (recD xs).1 ∧ (recD xs).1 < 9223372036854775807 ∧ (recD xs).2.length ≤ 40 := by
  have hb := rSig_bd xs
  unfold recD
  split
  · exact ⟨Int.le_refl _, by decide, by simp⟩
  · next h =>
    refine ⟨?_, ?_, ?_⟩ <;> simp only <;> omega
theorem recD_nil : recD [] = (0, []) := by
  have h := rSig_bd []
  have e : (rSig []).1 < 1 ∨ (rSig []).1 = 9223372036854775807 ∨ 40 < (rByt (rSig []).2).1.length ∨ recE (rSig []).1 (rByt (rSig []).2).1 ≠ [] := by
    refine .inr (.inr (.inr fun h => ?_))
    have := congrArg List.length h
    unfold recE le4 at this
    simp at this
  unfold recD
  rw [if_pos e]
/-- Which of the two sectors holds the text of turn t. -/
def pr (t : Int) : Nat := if t % 2 = 1 then 0 else 1
theorem pr_01 (t : Int) : pr t = 0 ∨ pr t = 1 := by unfold pr; split <;> simp
theorem pr_next (t : Int) : pr (t + 1) = 1 - pr t := by
  unfold pr
  split <;> split <;> omega
/-- The two sectors at lo hold the text b of turn t. -/
def SHas (S : List Sec) (lo : Nat) (b : List Int) (t : Int) : Prop :=
  1 ≤ t ∧ t < 9223372036854775807 ∧ recD (S.getD (lo + pr t) []) = (t, b) ∧ ((recD (S.getD (lo + (1 - pr t)) [])).1 < t ∨ t = 1 ∧ (recD (S.getD (lo + (1 - pr t)) [])).1 = 1)
theorem SHas.loc {S S' : List Sec} {lo : Nat} {b : List Int} {t : Int} (h1 : S'.getD lo [] = S.getD lo []) (h2 : S'.getD (lo + 1) [] = S.getD (lo + 1) []) (h : SHas S lo b t) : SHas S' lo b t := by
  have e : ∀ k, k = 0 ∨ k = 1 → S'.getD (lo + k) [] = S.getD (lo + k) [] := by
    rintro k (rfl | rfl)
    · exact h1
    · exact h2
  obtain ⟨a1, a2, a3, a4⟩ := h
  have hp := pr_01 t
  refine ⟨a1, a2, by rw [e _ hp]; exact a3, ?_⟩
  rw [e (1 - pr t) (by omega)]
  exact a4
theorem SHas.len {S : List Sec} {lo : Nat} {b : List Int} {t : Int} (h : SHas S lo b t) : b.length ≤ 40 := by
  have := (recD_bd (S.getD (lo + pr t) [])).2.2
  rw [h.2.2.1] at this
  exact this
theorem getD_set_self {S : List Sec} {i : Nat} (h : i < S.length) (x : Sec) : (S.set i x).getD i [] = x := by simp [List.getD, h]
theorem getD_set_ne {S : List Sec} {i j : Nat} (h : i ≠ j) (x : Sec) : (S.set i x).getD j [] = S.getD j [] := by simp [List.getD, List.getElem?_set_ne h]
/-- The next text is written where the present one is not. -/
theorem SHas.next {S : List Sec} {lo : Nat} {b c : List Int} {t : Int} (h : SHas S lo b t) (ht : t < 9223372036854775806) (hn : lo + 2 ≤ S.length) (hc : c.length ≤ 40) : SHas (S.set (lo + (1 - pr t)) (recE (t + 1) c)) lo c (t + 1) := by
  obtain ⟨a1, a2, a3, a4⟩ := h
  have hp := pr_01 t
  refine ⟨by omega, by omega, ?_, .inl ?_⟩
  · rw [pr_next, getD_set_self (by omega)]
    exact recD_enc (by omega) (by omega) hc
  · rw [pr_next, show 1 - (1 - pr t) = pr t by omega, getD_set_ne (by omega), a3]
    show t < t + 1
    omega
theorem SHas.first {S : List Sec} {lo : Nat} {b : List Int} (h1 : S.getD lo [] = recE 1 b) (h2 : S.getD (lo + 1) [] = recE 1 b) (hb : b.length ≤ 40) : SHas S lo b 1 := by
  have e : recD (recE 1 b) = (1, b) := recD_enc (by decide) (by decide) hb
  refine ⟨by decide, by decide, ?_, .inr ⟨rfl, ?_⟩⟩
  · show recD (S.getD (lo + 0) []) = _
    rw [Nat.add_zero, h1, e]
  · show (recD (S.getD (lo + 1) [])).1 = 1
    rw [h2, e]

/-! ### The device. -/
theorem keepS_set : ∀ (xs : List Sec) (i : Nat) (x : Sec) (ks : List Bool), keepS (xs.set i x) xs ((List.replicate xs.length false).set i true) ks = xs ∨ keepS (xs.set i x) xs ((List.replicate xs.length false).set i true) ks = xs.set i x
  | [], i, x, ks => .inl (by simp [keepS])
  | a :: xs, 0, x, ks => by
    simp only [List.length_cons, List.replicate_succ, List.set_cons_zero]
    cases ks with
    | nil => exact .inl (by simp [keepS, keepS_still])
    | cons k ks =>
      cases k with
      | false => exact .inl (by simp [keepS, keepS_still])
      | true => exact .inr (by simp [keepS, keepS_still])
  | a :: xs, i + 1, x, ks => by
    simp only [List.length_cons, List.replicate_succ, List.set_cons_succ]
    rcases keepS_set xs i x ks with h | h
    · exact .inl (by simp [keepS, h])
    · exact .inr (by simp [keepS, h])
theorem Dv.next_now (M : Dv) : M.next.now = M.now ∧ M.next.safe = M.safe ∧ M.next.loose = M.loose ∧ M.next.calls = M.calls + 1 := ⟨rfl, rfl, rfl, rfl⟩
theorem Dv.next_fuse {M : Dv} (h : M.fuse = -1) : M.next.fuse = -1 := by
  show (if 0 < M.fuse then M.fuse - 1 else M.fuse) = -1
  rw [h]; decide
/-- A whole sector is written. -/
theorem Dv.write_all {M : Dv} {i : Nat} (h64 : (M.now.getD i []).length = 64) (hi : i < M.now.length) {b : List Int} (hb : b.length = 64) (hf : M.fuse ≠ 0) : M.writeE i 64 = 0 ∧ M.write i b = Dv.next { M with now := M.now.set i b, loose := M.loose.set i true } := by
  have e : M.writeE i 64 = 0 := by unfold Dv.writeE; rw [if_neg hf, if_neg (by omega), if_neg (by omega)]
  refine ⟨e, ?_⟩
  unfold Dv.write
  rw [hb, e, if_pos rfl]
  unfold Dv.put
  rw [Int.toNat_natCast, List.drop_eq_nil_of_le (by omega), List.append_nil]
/-- What a Save leaves, in each of its ways. -/
theorem save_dead {s : Sp} {b : List Int} {M : Dv} (hst : M.still) (hh : SHas M.now s.lo s.text s.turn) (hf : M.fuse = 0) : Saved SHas s b M M 10 s :=
  .bad 10 (by decide) (by decide) (by omega) fun ks => .inl (by rw [hst.crash]; exact hh)
theorem save_half {s : Sp} {b : List Int} {M M' : Dv} (hst : M.still) (hh : SHas M.now s.lo s.text s.turn) (hf : M.fuse ≠ -1) (ht : s.turn < 9223372036854775806) (hn : s.lo + 2 ≤ M.now.length) (hb : b.length ≤ 40)
    (e1 : M'.now = M.now.set (s.lo + (1 - pr s.turn)) (recE (s.turn + 1) b)) (e2 : M'.safe = M.safe) (e3 : M'.loose = M.loose.set (s.lo + (1 - pr s.turn)) true) : Saved SHas s b M M' 10 s := by
  refine .bad 10 (by decide) (by decide) hf fun ks => ?_
  have e : (M'.crash ks).now = keepS (M.now.set (s.lo + (1 - pr s.turn)) (recE (s.turn + 1) b)) M.now ((List.replicate M.now.length false).set (s.lo + (1 - pr s.turn)) true) ks := by
    unfold Dv.crash
    rw [e1, e2, e3, hst.1, hst.2]
  rw [e]
  rcases keepS_set M.now (s.lo + (1 - pr s.turn)) (recE (s.turn + 1) b) ks with h | h
  · rw [h]; exact .inl hh
  · rw [h]; exact .inr (hh.next ht hn hb)
theorem save_done {s : Sp} {b : List Int} {M M' : Dv} (hh : SHas M.now s.lo s.text s.turn) (ht : s.turn < 9223372036854775806) (hn : s.lo + 2 ≤ M.now.length) (hb : b.length ≤ 40)
    (e1 : M'.now = M.now.set (s.lo + (1 - pr s.turn)) (recE (s.turn + 1) b)) (e2 : M'.safe = M'.now) (e3 : M'.loose = List.replicate M'.now.length false) : Saved SHas s b M M' 0 { s with text := b, turn := s.turn + 1 } := by
  refine .good (by rw [e1]; exact hh.next ht hn hb) ⟨e2, e3⟩ fun i h1 h2 => ?_
  have hp := pr_01 s.turn
  rw [e1, getD_set_ne (by omega)]
end Go.Proofs.YtpfcopdckjedfaaDoor
