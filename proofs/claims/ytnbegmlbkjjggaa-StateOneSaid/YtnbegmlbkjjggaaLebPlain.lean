/- Groups of seven bits and text: plain arithmetic out of LebGetU and LebGetS. No program is named here. -/
import Derived.Test.YtnbegmlbkjjggaaLebS
namespace Go.Proofs.Ytnbegmlbkjjggaa
open Go.RowKit

theorem wrap_u64_le (n : Int) : IntKind.u64.wrap n ≤ 18446744073709551615 := by rw [IntKind.wrap_u64]; omega
theorem str_eq {a b : ByteArray} (h : a.toList = b.toList) : a = b := by
  rw [ByteArray.toList_eq, ByteArray.toList_eq] at h
  exact ByteArray.ext (Array.toList_inj.1 h)
theorem encU_bs (f : Nat) (u : Int) (h0 : 0 ≤ u) (hf : fitsU f u) : ∀ x ∈ encU f u, 0 ≤ x ∧ x ≤ 255 := by
  induction f generalizing u with
  | zero => intro x hx; simp [encU] at hx; simp only [fitsU] at hf; omega
  | succ f ih =>
    intro x hx
    by_cases hc : 128 ≤ u
    · rw [encU_big hc] at hx
      rcases List.mem_cons.1 hx with rfl | hx
      · omega
      · exact ih (u / 128) (by omega) (by simp only [fitsU] at hf; exact hf.resolve_left (by omega)) x hx
    · rw [encU_small hc] at hx
      simp at hx
      omega
theorem str_iffU {xs : List Int} {m k : Nat} (hs : Stop xs m k) (hb : Bs xs) (hk : k ≤ 9) (hv : val (xs.take (k + 1)) ≤ 18446744073709551615) : strOfNums (encU 9 (val (xs.take (k + 1)))) = strOfNums (xs.take (k + 1)) ↔ canU (xs.take (k + 1)) := by
  have hn := val_nonneg (xs.take (k + 1))
  refine ⟨fun h => ?_, fun h => ?_⟩
  · have := strOfNums_inj (encU_bs 9 _ hn (fits9 _ hn hv)) (fun y hy => hb y (List.mem_of_mem_take hy)) h
    rw [← this]
    exact encU_can 9 _ hn (fits9 _ hn hv)
  · rw [encU_of _ 9 (hs.shape hb) h (by simp; omega)]

theorem encS_bs (f : Nat) (u : Int) (hf : fitsS f u) : ∀ x ∈ encS f u, 0 ≤ x ∧ x ≤ 255 := by
  induction f generalizing u with
  | zero => intro x hx; simp [encS] at hx; omega
  | succ f ih =>
    intro x hx
    by_cases hc : u < -64 ∨ 64 ≤ u
    · rw [encS_big hc] at hx
      rcases List.mem_cons.1 hx with rfl | hx
      · omega
      · exact ih (u / 128) (by simp only [fitsS] at hf; exact hf.resolve_left (by omega)) x hx
    · rw [encS_small hc] at hx
      simp at hx
      omega
/-- The text of the number that is told is the text that was read just if that one is in its shortest form and the number is in range. -/
theorem str_iffS {xs : List Int} {m k : Nat} (hs : Stop xs m k) (hb : Bs xs) (hk : k ≤ 9) {v : Int} (h0 : -9223372036854775808 ≤ v) (h1 : v ≤ 9223372036854775807) : strOfNums (encS 9 v) = strOfNums (xs.take (k + 1)) ↔ canS (xs.take (k + 1)) ∧ v = sval (xs.take (k + 1)) := by
  have hf := fitsS9 v h0 h1
  refine ⟨fun h => ?_, fun ⟨h, e⟩ => ?_⟩
  · have := strOfNums_inj (encS_bs 9 _ hf) (fun y hy => hb y (List.mem_of_mem_take hy)) h
    rw [← this]
    exact ⟨encS_can 9 _ hf, (encS_val 9 _ hf).symm⟩
  · rw [e, encS_of _ 9 (hs.shape hb) h (by simp; omega)]
theorem wrap64_bd (n : Int) : -9223372036854775808 ≤ wrap64 n ∧ wrap64 n ≤ 9223372036854775807 := by unfold wrap64; omega
theorem wrap64_id (n : Int) (h0 : -9223372036854775808 ≤ n) (h1 : n ≤ 9223372036854775807) : wrap64 n = n := by unfold wrap64; omega
theorem neg_in (p : Int) (h0 : 0 < p) (h1 : p ≤ 4611686018427387904) : IntKind.i64.wrap (-p) = -p ∧ wrap64 (-p) = -p := ⟨IntWalk.i64_in _ (by omega), wrap64_id _ (by omega) (by omega)⟩
theorem three_way (v p : Int) : v < -p ∨ (-p ≤ v ∧ p ≤ v) ∨ (-p ≤ v ∧ v < p) := by omega
theorem toNat_pred (b : Int) : b.toNat - 1 = (b - 1).toNat := by omega
theorem wrap64_step (s x : Int) : wrap64 (wrap64 (wrap64 s * 128) + x) = wrap64 (x + 128 * s) := by unfold wrap64; omega
theorem sval_step (x : Int) (r : List Int) (h : r ≠ []) : sval (x :: r) = x % 128 + 128 * sval r := by
  cases r with
  | nil => exact absurd rfl h
  | cons y r => rfl

end Go.Proofs.Ytnbegmlbkjjggaa
