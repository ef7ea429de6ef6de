/- math/bits: how many bits a number has, how many end it with nought, how many are one. -/
import Derived.Test.YtiohgigbnncpiaaDoorInt
import Derived.Test.YtiohgigbnncpiaaDoorIntMath
import Derived.Lib.BitFns
import Derived.Lib.Strings
import Derived.Lib.Slices
import Derived.Lib.Small
import Derived.Lib.Walk
import Derived.Shelf.Spec.TrailingZeros
namespace Go.Proofs.YtiohgigbnncpiaaDoor
open Go.RowKit

theorem tab8 (i : Nat) (h : i < Lib.len8tab.size) : (Lib.len8tab[i]'h).toNat = Lib.bitLen i ∧ Lib.bitLen i ≤ 8 := by
  have h' : i < 256 := by rw [Lib.len8tab_size] at h; exact h
  have e := Lib.len8_eq ⟨i, h'⟩
  have l := Lib.bitLen_le8 ⟨i, h'⟩
  simp only [Lib.len8, Int.toNat_natCast] at e
  rw [getElem?_pos Lib.len8tab i h] at e
  simp only [Option.getD_some] at e
  exact ⟨by omega, l⟩

/-- The number of bits, by the table's entry of what is left. -/
theorem len_left (s p : Nat) (b x : Int) (hp : p = 2 ^ s) (hs : s ≤ 56) (hb : b.toNat = x.toNat / p) (h : b.toNat < Lib.len8tab.size) (hx : s = 0 ∨ p ≤ x.toNat) (hx2 : x.toNat < 18446744073709551616) :
    wrap64 (s + wrap64 ((Lib.len8tab[b.toNat]'h).toNat : Nat)) = (Lib.bitLen x.toNat : Int) := by
  obtain ⟨e, l⟩ := tab8 _ h
  have t : Lib.bitLen x.toNat = s + Lib.bitLen (x.toNat / p) := by
    rcases hx with rfl | hx
    · subst hp
      simp
    · subst hp
      exact Lib.bitLen_shift s x.toNat hx hx2
  rw [e, hb] at *
  unfold wrap64
  omega

set_option maxHeartbeats 1000000 in
set_option maxRecDepth 100000 in
theorem len64_any (x : Int) (w : World) (h0 : 0 ≤ x) (h1 : x ≤ 18446744073709551615) :
    Calls Tryd.prog 31 #[.int .u64 x] w fun e w' => e = .returned (.int .i64 (Lib.bitLen x.toNat)) ∧ w = w' := by
  have hs : (Lib.len8tab.size : Int) = 256 := by rw [Lib.len8tab_size]; rfl
  go_enter Tryd.func31, Tryd.ntmps31
  go_wp2
  all_goals (go_ret; refine ⟨congrArg Ending.returned (congrArg (Value.int IntKind.i64) ?_), rfl⟩)
  · exact len_left 56 72057594037927936 (x / 4294967296 / 65536 / 256) x (by decide) (by decide) (by omega) _ (by omega) (by omega)
  · exact len_left 48 281474976710656 (x / 4294967296 / 65536) x (by decide) (by decide) (by omega) _ (by omega) (by omega)
  · exact len_left 40 1099511627776 (x / 4294967296 / 256) x (by decide) (by decide) (by omega) _ (by omega) (by omega)
  · exact len_left 32 4294967296 (x / 4294967296) x (by decide) (by decide) (by omega) _ (by omega) (by omega)
  · exact len_left 24 16777216 (x / 65536 / 256) x (by decide) (by decide) (by omega) _ (by omega) (by omega)
  · exact len_left 16 65536 (x / 65536) x (by decide) (by decide) (by omega) _ (by omega) (by omega)
  · exact len_left 8 256 (x / 256) x (by decide) (by decide) (by omega) _ (by omega) (by omega)
  · have := len_left 0 1 x x (by decide) (by decide) (by omega) (by rw [Lib.len8tab_size]; omega) (by omega) (by omega)
    simpa using this

theorem u64_and (a m : Nat) (ha : a < 18446744073709551616) (hm : m < 18446744073709551616) : bits BinOp.and IntKind.u64 (a : Int) (m : Int) = ((a &&& m : Nat) : Int) := bits_and_u64_nat a m ha hm

set_option maxHeartbeats 1000000 in
theorem ones64_any (x : Nat) (w : World) (hx : x < 18446744073709551616) :
    Calls Tryd.prog 34 #[.int .u64 x] w fun e w' => e = .returned (.int .i64 (pc 64 x : Nat)) ∧ w = w' := by
  obtain ⟨A, hA⟩ : ∃ A, A = x / 2 &&& 6148914691236517205 := ⟨_, rfl⟩
  obtain ⟨B, hB⟩ : ∃ B, B = x &&& 6148914691236517205 := ⟨_, rfl⟩
  have lA : A ≤ 6148914691236517205 := by rw [hA]; exact Nat.and_le_right
  have lB : B ≤ 6148914691236517205 := by rw [hB]; exact Nat.and_le_right
  obtain ⟨x1, hx1⟩ : ∃ y, y = A + B := ⟨_, rfl⟩
  obtain ⟨C, hC⟩ : ∃ A, A = x1 / 4 &&& 3689348814741910323 := ⟨_, rfl⟩
  obtain ⟨D, hD⟩ : ∃ A, A = x1 &&& 3689348814741910323 := ⟨_, rfl⟩
  have lC : C ≤ 3689348814741910323 := by rw [hC]; exact Nat.and_le_right
  have lD : D ≤ 3689348814741910323 := by rw [hD]; exact Nat.and_le_right
  obtain ⟨x2, hx2⟩ : ∃ y, y = C + D := ⟨_, rfl⟩
  obtain ⟨s2, hs2⟩ : ∃ y, y = x2 / 16 + x2 := ⟨_, rfl⟩
  obtain ⟨x3, hx3⟩ : ∃ y, y = s2 &&& 1085102592571150095 := ⟨_, rfl⟩
  obtain ⟨y1, hy1⟩ : ∃ y, y = x3 + x3 / 256 := ⟨_, rfl⟩
  obtain ⟨y2, hy2⟩ : ∃ y, y = y1 + y1 / 65536 := ⟨_, rfl⟩
  obtain ⟨y3, hy3⟩ : ∃ y, y = y2 + y2 / 4294967296 := ⟨_, rfl⟩
  have q1 : x1 = spread g1 8 x := by
    rw [hx1, hA, hB]
    exact spread_step1 8 x (by rw [show (256 : Nat) ^ 8 = 18446744073709551616 from by decide]; exact hx)
  have q2 : x2 = spread (fun b => g2 (g1 b)) 8 x := by
    rw [hx2, hC, hD, q1]
    exact spread_step2 8 g1 x (fun b hb => g1_lt ⟨b, hb⟩)
  have q3 : x3 = spread (pc 8) 8 x := by
    rw [hx3, hs2, q2]
    exact (spread_step3 8 x).1
  have lx2 : x2 ≤ 7378697629483820646 := by omega
  have ls2 : s2 < 18446744073709551616 := by omega
  have f := last_sums (pc 8 (x % 256)) (pc 8 (x / 256 % 256)) (pc 8 (x / 256 / 256 % 256)) (pc 8 (x / 256 / 256 / 256 % 256)) (pc 8 (x / 256 / 256 / 256 / 256 % 256)) (pc 8 (x / 256 / 256 / 256 / 256 / 256 % 256)) (pc 8 (x / 256 / 256 / 256 / 256 / 256 / 256 % 256)) (pc 8 (x / 256 / 256 / 256 / 256 / 256 / 256 / 256 % 256)) x3 y1 y2 y3 (pc_le _ _) (pc_le _ _) (pc_le _ _) (pc_le _ _) (pc_le _ _) (pc_le _ _) (pc_le _ _) (pc_le _ _)
    (by rw [q3]; simp only [spread]; omega) hy1 hy2 hy3
  rw [← pc_bytes] at f
  obtain ⟨f1, f2, f3, f4⟩ := f
  obtain ⟨r, hr⟩ : ∃ r, r = y3 % 128 := ⟨_, rfl⟩
  rw [← f4, ← hr]
  have lx3 : x3 ≤ y1 := by omega
  have a1 := u64_and (x / 2) 6148914691236517205 (by omega) (by decide)
  have a2 := u64_and x 6148914691236517205 hx (by decide)
  have a3 := u64_and (x1 / 4) 3689348814741910323 (by omega) (by decide)
  have a4 := u64_and x1 3689348814741910323 (by omega) (by decide)
  have a5 := u64_and s2 1085102592571150095 ls2 (by decide)
  rw [← hA] at a1
  rw [← hB] at a2
  rw [← hC] at a3
  rw [← hD] at a4
  rw [← hx3] at a5
  have a6 := and127_i64 (y3 : Int)
  have b1 : (A : Int) + (B : Int) = (x1 : Int) := by omega
  have b2 : (C : Int) + (D : Int) = (x2 : Int) := by omega
  have b3 : (x2 : Int) / 16 + (x2 : Int) = (s2 : Int) := by omega
  have b4 : (x3 : Int) + (x3 : Int) / 256 = (y1 : Int) := by omega
  have b5 : (y1 : Int) + (y1 : Int) / 65536 = (y2 : Int) := by omega
  have b6 : (y2 : Int) + (y2 : Int) / 4294967296 = (y3 : Int) := by omega
  have lx1 : x1 < 18446744073709551616 := by omega
  simp only [Int.natCast_ediv, Int.cast_ofNat_Int] at a1 a2 a3 a4 a5
  have Hx : (y3 : Int) % 128 = (r : Int) := by omega
  clear hr q1 q2 q3 hA hB hC hD hx1 hx2 hs2 hx3 hy1 hy2 hy3 f4
  go_enter Tryd.func34, Tryd.ntmps34
  go_wp2
  go_ret
  exact ⟨rfl, rfl⟩
/-- math/bits' table, as it stands in memory. -/
def Laid (w : World) : Prop := ∀ i : Nat, i < 64 → w.cell? ⟨0, i, none⟩ = some (.int .u8 (Lib.deBruijn64tab.getD i 0 : Nat))
theorem Laid.below {w w' : World} (h : Laid w) (hb : Below w.heap.size w w') : Laid w' := fun i hi => by
  have hc := h i hi
  exact (hb.cell (World.block_lt_of_cell? w _ hc)).trans hc

set_option maxHeartbeats 1000000 in
theorem tz64_any (x : Nat) (w : World) (hx : x < 18446744073709551616) (hL : Laid w) :
    Calls Tryd.prog 33 #[.int .u64 x] w fun e w' => e = .returned (.int .i64 (Lib.ctz 64 x : Nat)) ∧ w = w' := by
  by_cases hx0 : x = 0
  · subst hx0
    go_enter Tryd.func33, Tryd.ntmps33
    go_wp2
    go_ret
    exact ⟨rfl, rfl⟩
  · obtain ⟨hlow, hk⟩ := Lib.lowest_bit 64 x hx0 hx
    obtain ⟨hi, htab⟩ := Lib.deBruijn64_at _ hk
    obtain ⟨k, hkk⟩ : ∃ k, k = Lib.ctz 64 x := ⟨_, rfl⟩
    rw [← hkk] at hi htab hlow hk ⊢
    have key := tz64_key x _ hx hx0 hlow
    obtain ⟨idx, hidx⟩ : ∃ j, j = 2 ^ k * 285870213051353865 % 18446744073709551616 / 288230376151711744 := ⟨_, rfl⟩
    rw [← hidx] at hi htab key
    have hcell := hL idx hi
    rw [htab] at hcell
    have hne : ((x : Int) == 0) = false := by simp; omega
    have HL := hid hL
    clear hL hidx hlow htab hkk hx0
    go_enter Tryd.func33, Tryd.ntmps33
    go_wp2_with (simp only [key])
    go_ret
    exact ⟨rfl, rfl⟩
end Go.Proofs.YtiohgigbnncpiaaDoor
