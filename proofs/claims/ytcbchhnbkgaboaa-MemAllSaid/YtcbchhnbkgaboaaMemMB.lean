/- mem's laws: numbers for MemAll. -/
import Derived.Test.YtcbchhnbkgaboaaMemSame
import Derived.Test.YtcbchhnbkgaboaaMemL5
import Derived.Test.YtcbchhnbkgaboaaMemL6
import Derived.Test.YtcbchhnbkgaboaaAppZ
import Derived.Test.YtcbchhnbkgaboaaRowsS
namespace Go.Proofs.Ytcbchhnbkgaboaa
open Go.RowKit

/-- The marks of n bytes from place a on, one by one. -/
def dmk (d : List Bool) (a : Nat) : Nat → List Bool
  | 0 => d
  | n + 1 => (dmk d a n).set ((a + n) / 256) true
theorem dmk_two (d : List Bool) (a : Nat) : ∀ n, 1 ≤ n → n ≤ 256 → dmk d a n = (d.set (a / 256) true).set ((a + n - 1) / 256) true
  | 0, h, _ => absurd h (by omega)
  | 1, _, _ => by simp [dmk]
  | n + 2, _, h => by
    have ih := dmk_two d a (n + 1) (by omega) (by omega)
    simp only [dmk] at ih ⊢
    rw [ih]
    by_cases e : (a + (n + 1)) / 256 = (a + (n + 1) - 1) / 256
    · rw [← e, List.set_set, show a + (n + 2) - 1 = a + (n + 1) by omega]
    · rw [show (a + (n + 1) - 1) / 256 = a / 256 by omega, List.set_set, show a + (n + 2) - 1 = a + (n + 1) by omega]
theorem dmk_len (d : List Bool) (a n : Nat) : (dmk d a n).length = d.length := by
  induction n with
  | zero => rfl
  | succ n ih => simp [dmk, ih]
/-- The number by its first byte. -/
theorem numM_first (c : List Int) (a : Nat) : ∀ n, numM c a (n + 1) = (c.getD a 0).toNat + 256 * numM c (a + 1) n
  | 0 => by simp [numM]
  | n + 1 => by
    have ih := numM_first c a n
    rw [show numM c a (n + 1 + 1) = numM c a (n + 1) + (c.getD (a + (n + 1)) 0).toNat * 256 ^ (n + 1) from rfl, ih]
    simp only [numM]
    rw [Nat.mul_add, Nat.pow_succ, show a + 1 + n = a + (n + 1) by omega, Nat.add_assoc]
    congr 2
    rw [← Nat.mul_assoc, Nat.mul_comm]
theorem take_bytM (c : List Int) (i x n L : Nat) (h : i + n ≤ L) : (bytM c i x n).take L = bytM (c.take L) i x n := by
  induction n with
  | zero => rfl
  | succ n ih => rw [bytM, take_set, ih (by omega), bytM]
theorem take_more {M : MM} (h : M.ok) (j : Nat) (hj : M.p + j ≤ 16) : M.c.take (256 * M.p) ++ List.replicate (256 * j) 0 = M.c.take (256 * (M.p + j)) := by
  have hc := h.cl
  refine list_ext (n := 256 * (M.p + j)) (by simp [hc]; omega) (by simp [hc]; omega) fun i hi => ?_
  rw [take_getD _ _ _ _ hi, List.getD_eq_getElem?_getD, List.getElem?_append]
  simp only [List.length_take, hc]
  rw [Nat.min_eq_left (by omega)]
  by_cases h1 : i < 256 * M.p
  · rw [if_pos h1, ← List.getD_eq_getElem?_getD, take_getD _ _ _ _ h1]
  · rw [if_neg h1, List.getElem?_replicate, if_pos (by omega), h.zero i (by omega)]
    rfl
theorem take_splice (c xs : List Int) (o L : Nat) (h : o + xs.length ≤ L) (hL : L ≤ c.length) : (splice c o xs).take L = splice (c.take L) o xs := by
  have h1 : ((splice c o xs).take L).length = L := by rw [List.length_take, length_splice _ _ _ (by omega)]; omega
  refine list_ext h1 (by rw [length_splice _ _ _ (by simp; omega)]; simp; omega) fun i hi => ?_
  rw [take_getD _ _ _ _ hi, splice_getD _ _ _ _ (by omega), splice_getD _ _ _ _ (by simp; omega), take_getD _ _ _ _ hi]
/-- May what the law asks be what the memory asks? -/
theorem may_eq (M : MM) (hi N : Int) (hq : M.q = if hi = -1 then 16 else min hi 16) (hh : -1 ≤ hi) :
    mayM M N = (decide (0 ≤ N) && decide (N ≤ 16 - (M.p : Int)) && (decide (hi = -1) || decide (N ≤ hi - (M.p : Int)))) := by
  unfold mayM
  rw [hq]
  by_cases h : hi = -1
  · simp only [h, if_true, decide_true, Bool.true_or, Bool.and_true]
    rw [← Bool.decide_and]
    congr 1
    apply propext
    omega
  · simp only [h, if_false, decide_false, Bool.false_or]
    rw [← Bool.decide_and, ← Bool.decide_and]
    congr 1
    apply propext
    omega
theorem and_one (x : Int) : bits .and .i64 x 1 = x % 2 := by
  have := bits_and_mask .i64 1 (by decide) (fun n h0 h1 => by
    have : (2 : Int) ^ 1 = 2 := by decide
    exact IntWalk.i64_in n (by omega)) x
  simpa using this
theorem make_n (n : Nat) (hn : n ≤ 65536) (w : World) : (Instr.makeSlice 28 (.int .i64 (n : Int)) (.int .i64 (n : Int))).run Try.prog w = .ok (.slice (some ⟨w.heap.size, 0, none⟩) n n) (w.alloc (.cells ((zer n).map (Value.int .u8)).toArray 5)) := by
  obtain ⟨i, hi, hz, hs, hb⟩ := info_parts info5
  have hr := run_make (P := Try.prog) w 28 5 i (.int .u8 0) Try.underlying28 hi hz .i64 .i64 n n (by omega) (by omega) (by rw [hb]; omega) (by omega)
  simp only [Int.toNat_natCast, hs, Nat.mul_one] at hr
  rw [hr]
  congr 3
  apply Array.ext
  · simp [madeCells, zer_len, Value.cells]
  · intro j h1 h2
    simp [madeCells, Value.cells, zer, Nat.mod_one]
end Go.Proofs.Ytcbchhnbkgaboaa
