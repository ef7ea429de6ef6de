/- mem: Load. -/
import Derived.Test.YtcbchhnbkgaboaaMem
namespace Go.Proofs.Ytcbchhnbkgaboaa
open Go.RowKit

theorem bits_or_comm (k : IntKind) (x y : Int) : bits .or k x y = bits .or k y x := by
  unfold bits
  simp only [BitVec.or_comm]
theorem pow256 (k : Nat) : (256 : Nat) ^ k = 2 ^ (8 * k) := by rw [Nat.pow_mul]
/-- A byte more, above those that are there. -/
theorem or_byte (x b k : Nat) (hx : x < 256 ^ k) (hb : b < 256) (hk : k < 8) : bits .or .u64 (x : Int) (IntKind.u64.wrap ((b : Int) * 2 ^ (8 * k))) = ((x + b * 256 ^ k : Nat) : Int) := by
  rw [pow256] at hx ⊢
  have h1 : b * 2 ^ (8 * k) ≤ 255 * 2 ^ (8 * k) := Nat.mul_le_mul_right _ (by omega)
  have h2 : 2 ^ (8 * k) * 256 ≤ 2 ^ 64 := by
    rw [show (256 : Nat) = 2 ^ 8 by decide, ← Nat.pow_add]
    exact Nat.pow_le_pow_right (by decide) (by omega)
  have h3 : x + b * 2 ^ (8 * k) < 2 ^ 64 := by omega
  have e : ((b : Int) * 2 ^ (8 * k)) = ((b * 2 ^ (8 * k) : Nat) : Int) := by simp
  rw [e]
  obtain ⟨y, hy⟩ : ∃ y, y = b * 2 ^ (8 * k) := ⟨_, rfl⟩
  have hy2 : y % 2 ^ (8 * k) = 0 := by rw [hy]; exact Nat.mul_mod_left _ _
  rw [← hy] at h3 ⊢
  clear hy h1 h2 e
  have hw : ∀ z : Nat, z < 2 ^ 64 → IntKind.u64.wrap (z : Int) = z := fun z hz => IntWalk.u64_in _ (by omega)
  rw [hw y (by omega), bits_or_comm, bits_or_shift .u64 (8 * k) (y : Int) (x : Int) (by omega) (by omega) (by exact_mod_cast hx) (by exact_mod_cast hy2) (by show (y : Int) < 2 ^ 64; omega) (by show 8 * k ≤ 64; omega)]
  · omega
  · rw [← Int.natCast_add]
    exact hw _ (by omega)
theorem numM_lt (c : List Int) (i : Nat) (hw : ∀ x ∈ c, 0 ≤ x ∧ x < 256) : ∀ n, numM c i n < 256 ^ n
  | 0 => by simp [numM]
  | n + 1 => by
    have ih := numM_lt c i hw n
    have hb : (c.getD (i + n) 0).toNat < 256 := by
      by_cases h : i + n < c.length
      · have := hw (c.getD (i + n) 0) (by simp [List.getD, h])
        omega
      · simp [List.getD, h]
    have h2 : (c.getD (i + n) 0).toNat * 256 ^ n ≤ 255 * 256 ^ n := Nat.mul_le_mul_right _ (by omega)
    simp only [numM, Nat.pow_succ]
    omega
theorem MM.ok.get {M : MM} (h : M.ok) (j : Nat) : 0 ≤ M.c.getD j 0 ∧ M.c.getD j 0 < 256 := by
  by_cases hj : j < M.c.length
  · exact h.wf _ (by simp [List.getD, hj])
  · simp [List.getD, hj]
theorem load_no (g : Nat) (M : MM) (a n : Int) (w : World) (hM : MemAt w g M) (hh : hasM M a n = false) :
    Calls Try.prog 15 #[.pointer (some ⟨g, 0, none⟩), .int .i64 a, .int .i64 n] w fun e w' => e = .returned (.tuple #[.int .u64 0, .bool false]) ∧ w = w' := by
  have hs := has_to g M a n w hM
  rw [hh] at hs
  clear hM hh
  go_enter Try.func15, Try.ntmps15
  go_wp2_with fail
  refine hs.mono ?_
  rintro e w' ⟨rfl, rfl⟩
  go_wp2_with fail
  go_ret2
  exact ⟨rfl, rfl⟩
theorem load_to (g : Nat) (M : MM) (a n : Nat) (w : World) (hM : MemAt w g M) (hn : n = 1 ∨ n = 4 ∨ n = 8) (ha : a + n ≤ 256 * M.p) :
    Calls Try.prog 15 #[.pointer (some ⟨g, 0, none⟩), .int .i64 (a : Int), .int .i64 (n : Int)] w fun e w' => e = .returned (.tuple #[.int .u64 (numM M.c a n : Int), .bool true]) ∧ w = w' := by
  have hp := hM.ok.pl
  have hs := has_to g M a n w hM
  rw [show hasM M a n = true by unfold hasM; simp; omega] at hs
  have h1 := cut53 g (a : Int) a rfl (by omega)
  have h2 := fun w => run_cutS (P := Try.prog) 28 Try.underlying28 (s := 1) (fun _ => rfl) g (2 + a) (4096 - a) (4096 - a) .i64 (n : Int) n rfl (by omega) (by omega) w
  have HM := hid hM
  clear hM
  go_enter Try.func15, Try.ntmps15
  go_wp2_with fail
  refine hs.mono ?_
  rintro e w' ⟨rfl, rfl⟩
  clear hs
  go_wp2_with fail
  go_loop [8, 24] (fun x i => ∃ k : Nat, k ≤ n ∧ i = .int .i64 k ∧ x = .int .u64 (numM M.c a k : Int)) (fun _ i => n - (intOf i).toNat)
  case atStart => exact ⟨0, Nat.zero_le _, rfl, rfl⟩
  case round =>
    obtain ⟨k, hk, rfl, rfl⟩ := hrel
    by_cases hlt : k < n
    · have hb := HM.out.ok.get (a + k)
      have hc := HM.out.cc (a + k) (by omega)
      obtain ⟨b, hbe⟩ : ∃ b : Nat, M.c.getD (a + k) 0 = b := ⟨(M.c.getD (a + k) 0).toNat, by omega⟩
      rw [hbe] at hc hb
      rw [show 2 + (a + k) = 2 + a + k by omega] at hc
      have HB := hid hbe
      clear hbe
      obtain ⟨x, hx⟩ : ∃ x, x = numM M.c a k := ⟨_, rfl⟩
      rw [← hx]
      have HX := hid hx
      clear hx
      go_wp2_with fail
      go_round
      case rel =>
        refine ⟨k + 1, by omega, by go_num, ?_⟩
        have hl := numM_lt M.c a HM.out.ok.wf k
        rw [← HX.out] at hl
        rw [or_byte x b k hl (by omega) (by omega)]
        have e : numM M.c a (k + 1) = x + b * 256 ^ k := by simp only [numM, ← HX.out, HB.out, Int.toNat_natCast]
        rw [e]
      case measure => simp [intOf]; omega
    · go_wp2_with fail
      go_ret2
      obtain rfl : k = n := by omega
      exact ⟨rfl, rfl⟩
end Go.Proofs.Ytcbchhnbkgaboaa
