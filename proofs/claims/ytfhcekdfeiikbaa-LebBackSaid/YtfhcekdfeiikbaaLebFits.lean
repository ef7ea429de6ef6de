import Derived.Test.YtfhcekdfeiikbaaLebMany
namespace Go.Proofs.Ytfhcekdfeiikbaa
open Go.RowKit

theorem encU_short : ∀ (k f : Nat) (u : Int), u < 128 ^ (k + 1) → (encU f u).length ≤ k + 1
  | k, f, u, h => by
    by_cases hc : 128 ≤ u
    · cases f with
      | zero => simp [encU]
      | succ f =>
        cases k with
        | zero => omega
        | succ k =>
          rw [encU_big hc]
          have hk : u / 128 < 128 ^ (k + 1) := by
            rw [Int.pow_succ] at h
            omega
          have := encU_short k f (u / 128) hk
          simpa using this
    · rw [encU_small hc]; simp
theorem encS_short : ∀ (k f : Nat) (u : Int), -(64 * 128 ^ k) ≤ u → u < 64 * 128 ^ k → (encS f u).length ≤ k + 1
  | k, f, u, h, h' => by
    by_cases hc : u < -64 ∨ 64 ≤ u
    · cases f with
      | zero => simp [encS]
      | succ f =>
        cases k with
        | zero => omega
        | succ k =>
          rw [encS_big hc]
          rw [Int.pow_succ] at h h'
          have := encS_short k f (u / 128) (by omega) (by omega)
          simpa using this
    · rw [encS_small hc]; simp
theorem pow128 (k : Nat) : (128 : Int) ^ k = 2 ^ (7 * k) := by rw [Int.pow_mul]; rfl

section
variable (ao : Option Addr) (n cap : Nat) (u : Int) (bits : Int) (w : World) (h1 : 1 ≤ bits) (h2 : bits ≤ 63)
include h1 h2

theorem U_in (hu0 : 0 ≤ u) (hu1 : u ≤ 18446744073709551615) (hr : Rd .u8 w ao n cap (encU 9 u)) (hu : u < 2 ^ bits.toNat) :
    Calls Try.prog 15 #[.slice ao n cap, .int .i64 bits] w fun e w' => (∃ x k : Int, e = .returned (.tuple #[.int .u64 x, .int .i64 k, .int .i64 0])) ∧ w = w' := by
  obtain ⟨m, hm⟩ : ∃ m : Nat, (m : Int) = (bits + 6) / 7 := ⟨((bits + 6) / 7).toNat, by omega⟩
  have hf := fits9 u hu0 hu1
  have hlen : (encU 9 u).length ≤ m := by
    have : u < 128 ^ (m - 1 + 1) := by
      rw [pow128]
      exact Int.lt_of_lt_of_le hu (two_pow_le (by omega))
    have := encU_short (m - 1) 9 u this
    omega
  have hs := stop_shape (encU 9 u) [] m (encU_shape 9 u hu0 hf) hlen
  rw [List.append_nil] at hs
  have hne : (encU 9 u).length ≠ 0 := by have := encU_ne 9 u; simpa using this
  have e2 : (encU 9 u).take ((encU 9 u).length - 1 + 1) = encU 9 u := by rw [show (encU 9 u).length - 1 + 1 = (encU 9 u).length from by omega]; simp
  exact (U_ok ao n cap _ bits w hr h1 (by omega) m _ hm hs ⟨by rw [e2]; exact encU_can 9 u hu0 hf, by rw [e2, encU_val 9 u hu0 hf]; exact hu⟩).mono fun e w' ⟨a, b⟩ => ⟨⟨_, _, a⟩, b⟩
theorem U_out (hu0 : 0 ≤ u) (hu1 : u ≤ 18446744073709551615) (hr : Rd .u8 w ao n cap (encU 9 u)) (hu : ¬ u < 2 ^ bits.toNat) :
    Calls Try.prog 15 #[.slice ao n cap, .int .i64 bits] w fun e w' => (∃ x k : Int, e = .returned (.tuple #[.int .u64 x, .int .i64 k, .int .i64 1])) ∧ w = w' := by
  obtain ⟨m, hm⟩ : ∃ m : Nat, (m : Int) = (bits + 6) / 7 := ⟨((bits + 6) / 7).toNat, by omega⟩
  have hf := fits9 u hu0 hu1
  have hne : (encU 9 u).length ≠ 0 := by have := encU_ne 9 u; simpa using this
  have e2 : (encU 9 u).take ((encU 9 u).length - 1 + 1) = encU 9 u := by rw [show (encU 9 u).length - 1 + 1 = (encU 9 u).length from by omega]; simp
  by_cases hlen : (encU 9 u).length ≤ m
  · have hs := stop_shape (encU 9 u) [] m (encU_shape 9 u hu0 hf) hlen
    rw [List.append_nil] at hs
    exact (U_bad ao n cap _ bits w hr h1 (by omega) m _ hm hs (fun hg => hu (by have := hg.2; rwa [e2, encU_val 9 u hu0 hf] at this))).mono fun e w' ⟨a, b⟩ => ⟨⟨_, _, a⟩, b⟩
  · have hs := stop_shape (encU 9 u) [] (encU 9 u).length (encU_shape 9 u hu0 hf) (Nat.le_refl _)
    rw [List.append_nil] at hs
    exact (U_form ao n cap _ bits w hr h1 (by omega) m hm ⟨by omega, fun i hi => hs.more i (by omega)⟩).mono fun e w' ⟨a, b⟩ => ⟨⟨_, _, a⟩, b⟩
theorem S_in (hu0 : -9223372036854775808 ≤ u) (hu1 : u ≤ 9223372036854775807) (hr : Rd .u8 w ao n cap (encS 9 u)) (hu : -2 ^ (bits - 1).toNat ≤ u ∧ u < 2 ^ (bits - 1).toNat) :
    Calls Try.prog 16 #[.slice ao n cap, .int .i64 bits] w fun e w' => (∃ x k : Int, e = .returned (.tuple #[.int .i64 x, .int .i64 k, .int .i64 0])) ∧ w = w' := by
  obtain ⟨m, hm⟩ : ∃ m : Nat, (m : Int) = (bits + 6) / 7 := ⟨((bits + 6) / 7).toNat, by omega⟩
  have hf := fitsS9 u hu0 hu1
  have hlen : (encS 9 u).length ≤ m := by
    have e : (2 : Int) ^ (bits - 1).toNat ≤ 64 * 128 ^ (m - 1) := by
      rw [pow128, show (64 : Int) = 2 ^ 6 from by decide, ← Int.pow_add]
      exact two_pow_le (by omega)
    have := encS_short (m - 1) 9 u (by omega) (by omega)
    omega
  have hs := stop_shape (encS 9 u) [] m (encS_shape 9 u hf) hlen
  rw [List.append_nil] at hs
  have hne : (encS 9 u).length ≠ 0 := by have := encS_ne 9 u; simpa using this
  have e2 : (encS 9 u).take ((encS 9 u).length - 1 + 1) = encS 9 u := by rw [show (encS 9 u).length - 1 + 1 = (encS 9 u).length from by omega]; simp
  exact (S_ok ao n cap _ bits w hr h1 (by omega) m _ hm hs ⟨by rw [e2]; exact encS_can 9 u hf, by rw [e2, encS_val 9 u hf]; exact hu⟩).mono fun e w' ⟨a, b⟩ => ⟨⟨_, _, a⟩, b⟩
theorem S_out (hu0 : -9223372036854775808 ≤ u) (hu1 : u ≤ 9223372036854775807) (hr : Rd .u8 w ao n cap (encS 9 u)) (hu : ¬ (-2 ^ (bits - 1).toNat ≤ u ∧ u < 2 ^ (bits - 1).toNat)) :
    Calls Try.prog 16 #[.slice ao n cap, .int .i64 bits] w fun e w' => (∃ x k : Int, e = .returned (.tuple #[.int .i64 x, .int .i64 k, .int .i64 1])) ∧ w = w' := by
  obtain ⟨m, hm⟩ : ∃ m : Nat, (m : Int) = (bits + 6) / 7 := ⟨((bits + 6) / 7).toNat, by omega⟩
  have hf := fitsS9 u hu0 hu1
  have hne : (encS 9 u).length ≠ 0 := by have := encS_ne 9 u; simpa using this
  have e2 : (encS 9 u).take ((encS 9 u).length - 1 + 1) = encS 9 u := by rw [show (encS 9 u).length - 1 + 1 = (encS 9 u).length from by omega]; simp
  by_cases hlen : (encS 9 u).length ≤ m
  · have hs := stop_shape (encS 9 u) [] m (encS_shape 9 u hf) hlen
    rw [List.append_nil] at hs
    exact (S_bad ao n cap _ bits w hr h1 (by omega) m _ hm hs (fun hg => hu (by have := hg.2; rwa [e2, encS_val 9 u hf] at this))).mono fun e w' ⟨a, b⟩ => ⟨⟨_, _, a⟩, b⟩
  · have hs := stop_shape (encS 9 u) [] (encS 9 u).length (encS_shape 9 u hf) (Nat.le_refl _)
    rw [List.append_nil] at hs
    exact (S_form ao n cap _ bits w hr h1 (by omega) m hm ⟨by omega, fun i hi => hs.more i (by omega)⟩).mono fun e w' ⟨a, b⟩ => ⟨⟨_, _, a⟩, b⟩
end
end Go.Proofs.Ytfhcekdfeiikbaa
