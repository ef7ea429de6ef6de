/- leb: a number that bytes begin with, as a function of them (decU, decS); what U and S answer of any bytes; what was put is read again. The same words as Ins, InsRd, InsBack: never beside them. -/
import Derived.Test.YtnbegmlbkjjggaaLebU
import Derived.Test.YtnbegmlbkjjggaaLebS
import Derived.Test.YtnbegmlbkjjggaaLebPlain
namespace Go.Proofs.Ytnbegmlbkjjggaa
open Go.RowKit

/-- How a number of so many bits begins bytes: the number, how many bytes, the error. -/
noncomputable def decU (bits : Int) (xs : List Int) : Int × Nat × Int := by
  classical exact if h : ∃ k, Stop xs ((bits + 6) / 7).toNat k then (if goodU xs bits h.choose then (val (xs.take (h.choose + 1)), h.choose + 1, 0) else (0, 0, 1))
    else if ((bits + 6) / 7).toNat ≤ xs.length then (0, 0, 1) else (0, 0, 2)
noncomputable def decS (bits : Int) (xs : List Int) : Int × Nat × Int := by
  classical exact if h : ∃ k, Stop xs ((bits + 6) / 7).toNat k then (if goodS xs bits h.choose then (sval (xs.take (h.choose + 1)), h.choose + 1, 0) else (0, 0, 1))
    else if ((bits + 6) / 7).toNat ≤ xs.length then (0, 0, 1) else (0, 0, 2)

theorem stop_one {xs : List Int} {m k k' : Nat} (h : Stop xs m k) (h' : Stop xs m k') : k = k' := Stop.one h h'

theorem decU_ok {bits : Int} {xs : List Int} {k : Nat} (h : Stop xs ((bits + 6) / 7).toNat k) (g : goodU xs bits k) : decU bits xs = (val (xs.take (k + 1)), k + 1, 0) := by
  have he : ∃ k, Stop xs ((bits + 6) / 7).toNat k := ⟨k, h⟩
  have hk : he.choose = k := stop_one he.choose_spec h
  unfold decU
  rw [dif_pos he, hk, if_pos g]
theorem decU_bad {bits : Int} {xs : List Int} {k : Nat} (h : Stop xs ((bits + 6) / 7).toNat k) (g : ¬ goodU xs bits k) : decU bits xs = (0, 0, 1) := by
  have he : ∃ k, Stop xs ((bits + 6) / 7).toNat k := ⟨k, h⟩
  have hk : he.choose = k := stop_one he.choose_spec h
  unfold decU
  rw [dif_pos he, hk, if_neg g]
theorem no_stop {xs : List Int} {m : Nat} (h : ∀ i, i < m → i < xs.length → 128 ≤ xs.getD i 0) : ¬ ∃ k, Stop xs m k := by
  rintro ⟨k, hk⟩
  have := h k hk.most hk.lt
  have := hk.last
  omega
theorem decU_form {bits : Int} {xs : List Int} (h : ((bits + 6) / 7).toNat ≤ xs.length ∧ ∀ i, i < ((bits + 6) / 7).toNat → 128 ≤ xs.getD i 0) : decU bits xs = (0, 0, 1) := by
  unfold decU
  rw [dif_neg (no_stop fun i hi _ => h.2 i hi), if_pos h.1]
theorem decU_more {bits : Int} {xs : List Int} (h : xs.length < ((bits + 6) / 7).toNat ∧ ∀ i, i < xs.length → 128 ≤ xs.getD i 0) : decU bits xs = (0, 0, 2) := by
  unfold decU
  rw [dif_neg (no_stop fun i _ hi => h.2 i hi), if_neg (by omega)]
theorem decS_ok {bits : Int} {xs : List Int} {k : Nat} (h : Stop xs ((bits + 6) / 7).toNat k) (g : goodS xs bits k) : decS bits xs = (sval (xs.take (k + 1)), k + 1, 0) := by
  have he : ∃ k, Stop xs ((bits + 6) / 7).toNat k := ⟨k, h⟩
  have hk : he.choose = k := stop_one he.choose_spec h
  unfold decS
  rw [dif_pos he, hk, if_pos g]
theorem decS_bad {bits : Int} {xs : List Int} {k : Nat} (h : Stop xs ((bits + 6) / 7).toNat k) (g : ¬ goodS xs bits k) : decS bits xs = (0, 0, 1) := by
  have he : ∃ k, Stop xs ((bits + 6) / 7).toNat k := ⟨k, h⟩
  have hk : he.choose = k := stop_one he.choose_spec h
  unfold decS
  rw [dif_pos he, hk, if_neg g]
theorem decS_form {bits : Int} {xs : List Int} (h : ((bits + 6) / 7).toNat ≤ xs.length ∧ ∀ i, i < ((bits + 6) / 7).toNat → 128 ≤ xs.getD i 0) : decS bits xs = (0, 0, 1) := by
  unfold decS
  rw [dif_neg (no_stop fun i hi _ => h.2 i hi), if_pos h.1]
theorem decS_more {bits : Int} {xs : List Int} (h : xs.length < ((bits + 6) / 7).toNat ∧ ∀ i, i < xs.length → 128 ≤ xs.getD i 0) : decS bits xs = (0, 0, 2) := by
  unfold decS
  rw [dif_neg (no_stop fun i _ hi => h.2 i hi), if_neg (by omega)]

theorem goodS_bounds {xs : List Int} {bits : Int} {k : Nat} (h1 : 1 ≤ bits) (h2 : bits ≤ 64) (h : goodS xs bits k) : -9223372036854775808 ≤ sval (xs.take (k + 1)) ∧ sval (xs.take (k + 1)) ≤ 9223372036854775807 := by
  have h3 := h.2
  have : (2 : Int) ^ (bits - 1).toNat ≤ 2 ^ 63 := two_pow_le (by omega)
  have e : (2 : Int) ^ 63 = 9223372036854775808 := by decide
  omega

/-- What is told of a number's beginning. -/
theorem decU_spec {bits : Int} {xs : List Int} : 0 ≤ (decU bits xs).1 ∧ (decU bits xs).1 < 2 ^ bits.toNat ∧ (decU bits xs).2.1 ≤ xs.length ∧ ((decU bits xs).2.2 = 0 ∨ ((decU bits xs).2.2 = 1 ∨ (decU bits xs).2.2 = 2) ∧ (decU bits xs).1 = 0 ∧ (decU bits xs).2.1 = 0) := by
  have hp : (0 : Int) < 2 ^ bits.toNat := Int.pow_pos (by decide)
  rcases three xs ((bits + 6) / 7).toNat with ⟨k, hs⟩ | h | h
  · by_cases g : goodU xs bits k
    · rw [decU_ok hs g]
      exact ⟨val_nonneg _, g.2, hs.lt, .inl rfl⟩
    · rw [decU_bad hs g]
      exact ⟨Int.le_refl _, hp, Nat.zero_le _, .inr ⟨.inl rfl, rfl, rfl⟩⟩
  · rw [decU_form h]
    exact ⟨Int.le_refl _, hp, Nat.zero_le _, .inr ⟨.inl rfl, rfl, rfl⟩⟩
  · rw [decU_more h]
    exact ⟨Int.le_refl _, hp, Nat.zero_le _, .inr ⟨.inr rfl, rfl, rfl⟩⟩
theorem decS_spec {bits : Int} {xs : List Int} (h1 : 1 ≤ bits) (h2 : bits ≤ 64) : -9223372036854775808 ≤ (decS bits xs).1 ∧ (decS bits xs).1 ≤ 9223372036854775807 ∧ (decS bits xs).2.1 ≤ xs.length ∧ ((decS bits xs).2.2 = 0 ∨ ((decS bits xs).2.2 = 1 ∨ (decS bits xs).2.2 = 2) ∧ (decS bits xs).1 = 0 ∧ (decS bits xs).2.1 = 0) := by
  rcases three xs ((bits + 6) / 7).toNat with ⟨k, hs⟩ | h | h
  · by_cases g : goodS xs bits k
    · rw [decS_ok hs g]
      have := goodS_bounds h1 h2 g
      exact ⟨this.1, this.2, hs.lt, .inl rfl⟩
    · rw [decS_bad hs g]
      exact ⟨by simp, by simp, Nat.zero_le _, .inr ⟨.inl rfl, rfl, rfl⟩⟩
  · rw [decS_form h]
    exact ⟨by simp, by simp, Nat.zero_le _, .inr ⟨.inl rfl, rfl, rfl⟩⟩
  · rw [decS_more h]
    exact ⟨by simp, by simp, Nat.zero_le _, .inr ⟨.inr rfl, rfl, rfl⟩⟩

section
variable (ao : Option Addr) (n cap : Nat) (xs : List Int) (bits : Int) (w : World) (hr : Rd .u8 w ao n cap xs) (h1 : 1 ≤ bits) (h2 : bits ≤ 64)
include hr h1 h2
theorem U_to (v : Int) (k : Nat) (er : Int) (h : decU bits xs = (v, k, er)) :
    Calls Try.prog 60 #[.slice ao n cap, .int .i64 bits] w fun e w' => e = .returned (.tuple #[.int .u64 v, .int .i64 k, .int .i64 er]) ∧ w = w' := by
  have hm : (((bits + 6) / 7).toNat : Int) = (bits + 6) / 7 := by omega
  rcases three xs ((bits + 6) / 7).toNat with ⟨j, hs⟩ | g | g
  · by_cases gd : goodU xs bits j
    · rw [decU_ok hs gd] at h; cases h
      exact U_ok ao n cap xs bits w hr h1 h2 _ j hm hs gd
    · rw [decU_bad hs gd] at h; cases h
      exact U_bad ao n cap xs bits w hr h1 h2 _ j hm hs gd
  · rw [decU_form g] at h; cases h
    exact U_form ao n cap xs bits w hr h1 h2 _ hm g
  · rw [decU_more g] at h; cases h
    exact U_more ao n cap xs bits w hr h1 h2 _ hm g
theorem S_to (v : Int) (k : Nat) (er : Int) (h : decS bits xs = (v, k, er)) :
    Calls Try.prog 69 #[.slice ao n cap, .int .i64 bits] w fun e w' => e = .returned (.tuple #[.int .i64 v, .int .i64 k, .int .i64 er]) ∧ w = w' := by
  have hm : (((bits + 6) / 7).toNat : Int) = (bits + 6) / 7 := by omega
  rcases three xs ((bits + 6) / 7).toNat with ⟨j, hs⟩ | g | g
  · by_cases gd : goodS xs bits j
    · rw [decS_ok hs gd] at h; cases h
      exact S_ok ao n cap xs bits w hr h1 h2 _ j hm hs gd
    · rw [decS_bad hs gd] at h; cases h
      exact S_bad ao n cap xs bits w hr h1 h2 _ j hm hs gd
  · rw [decS_form g] at h; cases h
    exact S_form ao n cap xs bits w hr h1 h2 _ hm g
  · rw [decS_more g] at h; cases h
    exact S_more ao n cap xs bits w hr h1 h2 _ hm g
end

theorem encU_few : ∀ (k f : Nat) (u : Int), u < 128 ^ (k + 1) → (encU f u).length ≤ k + 1
  | k, f, u, h => by
    by_cases hc : 128 ≤ u
    · cases f with
      | zero => simp [encU]
      | succ f =>
        cases k with
        | zero => omega
        | succ k =>
          rw [encU_big hc]
          have hk : u / 128 < 128 ^ (k + 1) := by
            rw [Int.pow_succ] at h
            omega
          have := encU_few k f (u / 128) hk
          simpa using this
    · rw [encU_small hc]; simp
theorem encS_few : ∀ (k f : Nat) (u : Int), -(64 * 128 ^ k) ≤ u → u < 64 * 128 ^ k → (encS f u).length ≤ k + 1
  | k, f, u, h, h' => by
    by_cases hc : u < -64 ∨ 64 ≤ u
    · cases f with
      | zero => simp [encS]
      | succ f =>
        cases k with
        | zero => omega
        | succ k =>
          rw [encS_big hc]
          rw [Int.pow_succ] at h h'
          have := encS_few k f (u / 128) (by omega) (by omega)
          simpa using this
    · rw [encS_small hc]; simp
theorem stop_enc : ∀ (ys rest : List Int) (m : Nat), Shape ys → ys.length ≤ m → Stop (ys ++ rest) m (ys.length - 1)
  | [x], rest, m, h, hm => ⟨by simp, by simp at hm ⊢; omega, fun i hi => by simp at hi, by simpa [List.getD] using h.2⟩
  | x :: y :: r, rest, m, h, hm => by
    have ih := stop_enc (y :: r) rest (m - 1) h.2.2 (by simp at hm ⊢; omega)
    refine ⟨by simp; omega, by simp at hm ⊢; omega, fun i hi => ?_, ?_⟩
    · cases i with
      | zero => simpa [List.getD] using h.1
      | succ i =>
        have := ih.more i (by simp at hi ⊢; omega)
        simpa [List.getD] using this
    · have := ih.last
      simpa [List.getD] using this

theorem decU_enc (u : Int) (rest : List Int) (h0 : 0 ≤ u) (h1 : u < 4294967296) : decU 32 (encU 9 u ++ rest) = (u, (encU 9 u).length, 0) := by
  have hf := fits9 u h0 (by omega)
  have hl := encU_few 4 9 u (by rw [show (128 : Int) ^ (4 + 1) = 34359738368 from by decide]; omega)
  have e5 : (((32 : Int) + 6) / 7).toNat = 5 := by decide
  have hs := stop_enc (encU 9 u) rest (((32 : Int) + 6) / 7).toNat (encU_shape 9 u h0 hf) (by rw [e5]; omega)
  have hne : (encU 9 u).length ≠ 0 := by have := encU_ne 9 u; simpa using this
  have e1 : (encU 9 u).length - 1 + 1 = (encU 9 u).length := by omega
  have e2 : (encU 9 u ++ rest).take ((encU 9 u).length - 1 + 1) = encU 9 u := by rw [e1]; simp
  rw [decU_ok hs ⟨by rw [e2]; exact encU_can 9 u h0 hf, by rw [e2, encU_val 9 u h0 hf]; rw [show (2 : Int) ^ (32 : Int).toNat = 4294967296 from by decide]; exact h1⟩]
  rw [e2, encU_val 9 u h0 hf, e1]
theorem decS_enc (bits u : Int) (rest : List Int) (hb : (bits = 32 ∧ -2147483648 ≤ u ∧ u ≤ 2147483647) ∨ (bits = 64 ∧ -9223372036854775808 ≤ u ∧ u ≤ 9223372036854775807)) : decS bits (encS 9 u ++ rest) = (u, (encS 9 u).length, 0) := by
  have hu : -9223372036854775808 ≤ u ∧ u ≤ 9223372036854775807 := by omega
  have hf := fitsS9 u hu.1 hu.2
  have hl : (encS 9 u).length ≤ ((bits + 6) / 7).toNat := by
    rcases hb with ⟨rfl, h0, h1⟩ | ⟨rfl, h0, h1⟩
    · have := encS_few 4 9 u (by rw [show (128 : Int) ^ 4 = 268435456 from by decide]; omega) (by rw [show (128 : Int) ^ 4 = 268435456 from by decide]; omega)
      have e : (((32 : Int) + 6) / 7).toNat = 5 := by decide
      omega
    · have := encS_len 9 u
      have e : (((64 : Int) + 6) / 7).toNat = 10 := by decide
      omega
  have hs := stop_enc (encS 9 u) rest ((bits + 6) / 7).toNat (encS_shape 9 u hf) hl
  have hne : (encS 9 u).length ≠ 0 := by have := encS_ne 9 u; simpa using this
  have e1 : (encS 9 u).length - 1 + 1 = (encS 9 u).length := by omega
  have e2 : (encS 9 u ++ rest).take ((encS 9 u).length - 1 + 1) = encS 9 u := by rw [e1]; simp
  have hg : goodS (encS 9 u ++ rest) bits ((encS 9 u).length - 1) := by
    unfold goodS
    rw [e2, encS_val 9 u hf]
    refine ⟨encS_can 9 u hf, ?_⟩
    rcases hb with ⟨rfl, h0, h1⟩ | ⟨rfl, h0, h1⟩
    · rw [show (2 : Int) ^ ((32 : Int) - 1).toNat = 2147483648 from by decide]; omega
    · rw [show (2 : Int) ^ ((64 : Int) - 1).toNat = 9223372036854775808 from by decide]; omega
  rw [decS_ok hs hg, e2, encS_val 9 u hf, e1]

end Go.Proofs.Ytnbegmlbkjjggaa
