/- mem's laws: MemParts. -/
import Derived.Test.YtcbchhnbkgaboaaMemL1
namespace Go.Proofs.Ytcbchhnbkgaboaa
open Go.RowKit

theorem numM_byt (c : List Int) (a x n : Nat) (hc : a + n ≤ c.length) (i : Nat) : ∀ k, i + k ≤ n → numM (bytM c a x n) (a + i) k = x / 256 ^ i % 256 ^ k
  | 0, _ => by simp [numM, Nat.mod_one]
  | k + 1, h => by
    have ih := numM_byt c a x n hc i k (by omega)
    simp only [numM]
    rw [ih, bytM_get _ _ _ _ _ hc, if_pos (by omega), Int.toNat_natCast, Nat.mod_pow_succ, show a + i + k - a = i + k by omega, Nat.pow_add, Nat.div_div_eq_div_mul, Nat.mul_comm (256 ^ k)]
/-- Two parts of a number, put together. -/
theorem or_parts (hi lo i : Nat) (hi64 : i ≤ 64) (hl : lo < 2 ^ i) (h : hi * 2 ^ i + lo < 2 ^ 64) : bits .or .u64 (IntKind.u64.wrap ((hi : Int) * 2 ^ i)) (lo : Int) = ((hi * 2 ^ i + lo : Nat) : Int) := by
  have e : ((hi : Int) * 2 ^ i) = ((hi * 2 ^ i : Nat) : Int) := by simp
  rw [e]
  obtain ⟨y, hy⟩ : ∃ y, y = hi * 2 ^ i := ⟨_, rfl⟩
  have hy2 : y % 2 ^ i = 0 := by rw [hy]; exact Nat.mul_mod_left _ _
  rw [← hy] at h ⊢
  clear hy e
  have hw : ∀ z : Nat, z < 2 ^ 64 → IntKind.u64.wrap (z : Int) = z := fun z hz => IntWalk.u64_in _ (by omega)
  rw [hw y (by omega), bits_or_shift .u64 i (y : Int) (lo : Int) (by omega) (by omega) (by exact_mod_cast hl) (by exact_mod_cast hy2) (by show (y : Int) < 2 ^ 64; omega) (by show i ≤ 64; omega)]
  · omega
  · rw [← Int.natCast_add]
    exact hw _ (by omega)
theorem or_parts' (hi lo i : Nat) (hi64 : i ≤ 64) (hl : lo < 2 ^ i) (h : hi * 2 ^ i + lo < 2 ^ 64) : bits .or .u64 (lo : Int) (IntKind.u64.wrap ((hi : Int) * 2 ^ i)) = ((hi * 2 ^ i + lo : Nat) : Int) := by
  rw [bits_or_comm]; exact or_parts hi lo i hi64 hl h
set_option maxHeartbeats 1000000 in
theorem memParts_walk (a : Int) (x : Int) (w : World) (hx : 0 ≤ x ∧ x < 2 ^ 64) : Calls Try.prog 8 #[.int .i64 a, .int .u64 x] w fun e w' => e = .returned (.bool true) ∧ Below w.heap.size w w' := by
  obtain ⟨x, rfl⟩ : ∃ y : Nat, x = y := ⟨x.toNat, by omega⟩
  have hx2 : x < 2 ^ 64 := by omega
  have HX := hid hx2
  clear hx hx2
  go_enter Try.func8, Try.ntmps8
  go_wp2_with fail
  refine (begun_to w).mono ?_
  rintro e w1 ⟨rfl, hb⟩
  have HB := hid hb
  clear hb
  by_cases hr : a < 0 ∨ 504 < a
  · rcases hr with h | h
    all_goals
      go_wp2_with fail
      all_goals
        go_ret
        exact ⟨rfl, HB.out⟩
  · obtain ⟨a, rfl⟩ : ∃ y : Nat, a = y := ⟨a.toNat, by omega⟩
    have hr2 : (a : Int) ≤ 504 := by omega
    clear hr
    go_wp2_with fail
    refine (new_to 2 (-1) w1 (by decide)).mono ?_
    rintro e w2 ⟨rfl, hM, hb⟩
    obtain ⟨M, hMM⟩ : ∃ M, M = newM (2 : Nat) (-1) := ⟨_, rfl⟩
    obtain ⟨g, hgg⟩ : ∃ g, g = w1.heap.size + 1 := ⟨_, rfl⟩
    have hg : w.heap.size ≤ g := by have := HB.out.size; omega
    rw [← hgg, ← hMM] at hM
    rw [← hgg]
    clear hgg
    have hp1 : M.p = 2 := by rw [hMM]; rfl
    replace HB := hid (HB.out.trans (hb.mono HB.out.size))
    have hcl := hM.ok.cl
    have hst := store_to g M a 8 x w2 hM (by omega) (by rw [hp1]; omega) HX.out
    clear hM hb hMM
    go_wp2_with fail
    refine hst.mono ?_
    rintro e w3 ⟨rfl, hM, hW⟩
    replace HB := hid (HB.out.trans (hW.below HB.out.size hg))
    have hl1 := load_to g _ a 4 w3 hM (by omega) (by show _ ≤ 256 * M.p; rw [hp1]; omega)
    have hl2 := load_to g _ (a + 4) 4 w3 hM (by omega) (by show _ ≤ 256 * M.p; rw [hp1]; omega)
    have hl3 := fun i (hi : i < 8) => load_to g _ (a + i) 1 w3 hM (by omega) (by show _ ≤ 256 * M.p; rw [hp1]; omega)
    have hn := numM_byt M.c a x 8 (by rw [hcl]; omega)
    have e1 : numM (storeM M a 8 x).c a 4 = x % 256 ^ 4 := by have := hn 0 4 (by omega); rw [Nat.pow_zero, Nat.div_one, Nat.add_zero] at this; exact this
    have e2 : numM (storeM M a 8 x).c (a + 4) 4 = x / 256 ^ 4 := by
      have := hn 4 4 (by omega)
      rw [show numM (storeM M a 8 x).c (a + 4) 4 = _ from this]
      exact Nat.mod_eq_of_lt (by have := HX.out; omega)
    have e3 : ∀ i, i < 8 → numM (storeM M a 8 x).c (a + i) 1 = x / 256 ^ i % 256 := fun i hi => by have := hn i 1 (by omega); rwa [Nat.pow_one] at this
    rw [e1] at hl1
    rw [e2] at hl2
    obtain ⟨lo, hlo⟩ : ∃ lo, x % 256 ^ 4 = lo := ⟨_, rfl⟩
    obtain ⟨hi, hhi⟩ : ∃ hi, x / 256 ^ 4 = hi := ⟨_, rfl⟩
    rw [hlo] at hl1
    rw [hhi] at hl2
    have hor := or_parts' hi lo 32 (by decide) (by omega) (by have := HX.out; omega)
    rw [show hi * 2 ^ 32 + lo = x by omega] at hor
    have HL3 : Hid (∀ i : Nat, i < 8 → Calls Try.prog 15 #[.pointer (some ⟨g, 0, none⟩), .int .i64 ((a : Int) + i), .int .i64 1] w3 fun e w' => e = .returned (.tuple #[.int .u64 ((x / 256 ^ i % 256 : Nat) : Int), .bool true]) ∧ w3 = w') := fun i hi => by
      have := hl3 i hi
      rw [e3 i hi] at this
      rwa [Int.natCast_add] at this
    have hl2' : Calls Try.prog 15 #[.pointer (some ⟨g, 0, none⟩), .int .i64 ((a : Int) + 4), .int .i64 4] w3 fun e w' => e = .returned (.tuple #[.int .u64 (hi : Int), .bool true]) ∧ w3 = w' := by rwa [Int.natCast_add] at hl2
    have HHI := hid (And.intro hlo hhi)
    clear hn hcl hM hW e1 e2 e3 hl2 hl3 hlo hhi hst hp1
    go_wp2_with fail
    refine hl1.mono ?_
    rintro e w' ⟨rfl, rfl⟩
    go_wp2_with fail
    refine hl2'.mono ?_
    rintro e w' ⟨rfl, rfl⟩
    clear hl1 hl2'
    go_wp2_with fail
    go_loop [11, 12] (fun u i => ∃ k : Nat, k ≤ 8 ∧ i = .int .i64 ((k : Int) - 1) ∧ u = .int .u64 ((x / 256 ^ k : Nat) : Int)) (fun _ i => (intOf i + 1).toNat)
    case atStart => exact ⟨8, by omega, by simp, by rw [Nat.div_eq_of_lt (by have := HX.out; omega)]; rfl⟩
    case round =>
      obtain ⟨k, hk, rfl, rfl⟩ := hrel
      cases k with
      | zero =>
        have e0 : ((x / 256 ^ 0 : Nat) : Int) = x := by simp
        rw [e0]
        clear e0
        go_wp2_with fail
        go_ret
        exact ⟨by simp, HB.out⟩
      | succ j =>
        have e0 : ((j + 1 : Nat) : Int) - 1 = j := by omega
        rw [e0]
        clear e0
        obtain ⟨u, hu⟩ : ∃ u, u = x / 256 ^ (j + 1) := ⟨_, rfl⟩
        obtain ⟨b, hb⟩ : ∃ u, u = x / 256 ^ j % 256 := ⟨_, rfl⟩
        have hlb := HL3.out j (by omega)
        rw [← hb] at hlb
        rw [← hu]
        have HU := hid (And.intro hu hb)
        clear hu hb
        go_wp2_with fail
        refine hlb.mono ?_
        rintro e w' ⟨rfl, rfl⟩
        clear hlb
        go_wp2_with fail
        go_roundw
        case rel =>
          refine ⟨j, by omega, rfl, ?_⟩
          obtain ⟨h1, h2⟩ := HU.out
          have hj : x / 256 ^ j < 2 ^ 64 := Nat.lt_of_le_of_lt (Nat.div_le_self _ _) HX.out
          rw [Nat.pow_succ, ← Nat.div_div_eq_div_mul] at h1
          obtain ⟨y, hy⟩ : ∃ y, y = x / 256 ^ j := ⟨_, rfl⟩
          rw [← hy] at h1 h2 hj ⊢
          have := or_parts u b 8 (by decide) (by omega) (by omega)
          rw [show (2 : Int) ^ 8 = 256 by decide] at this
          rw [this, show u * 2 ^ 8 + b = y by omega]
        case measure => simp [intOf]
end Go.Proofs.Ytcbchhnbkgaboaa
