/- A mark goes on as the reference's. -/
import Derived.Test.YtepdamfnmlfloaaMetBegun
namespace Go.Proofs.Ytepdamfnmlfloaa
open Go.RowKit

theorem mod_again (a m : Int) (hm : 0 < m) : (a.tmod m + m) % m = a % m := by
  rw [Int.add_emod_right, Int.tmod_eq_emod]
  split
  · simp
  · rw [Int.sub_emod, Int.natAbs_of_nonneg (by omega), Int.emod_self]; simp

set_option maxRecDepth 20000 in
theorem meterMark_walk (re im fn : Int) (pa : Option Addr) (n0 c0 : Nat) (xs : List Int) (w : World) (h0 : Rd .i64 w pa n0 c0 xs) :
    Calls Try.prog 5 #[.int .i64 re, .int .i64 im, .int .i64 fn, .slice pa n0 c0] w fun e w' => e = .returned (.bool true) ∧ Below w.heap.size w w' := by
  have H0 := hid h0
  have l0 := h0.le
  have m0 := h0.cap63
  clear h0
  have t1 : -1000003 < re.tmod 1000003 := Int.lt_tmod_of_pos _ (by decide)
  have t2 : re.tmod 1000003 < 1000003 := Int.tmod_lt_of_pos _ (by decide)
  have t3 : -1000003 < im.tmod 1000003 := Int.lt_tmod_of_pos _ (by decide)
  have t4 : im.tmod 1000003 < 1000003 := Int.tmod_lt_of_pos _ (by decide)
  obtain ⟨x0, e1⟩ : ∃ a, (re.tmod 1000003 + 1000003) % 1000003 = a := ⟨_, rfl⟩
  obtain ⟨y0, e2⟩ : ∃ a, (im.tmod 1000003 + 1000003) % 1000003 = a := ⟨_, rfl⟩
  have hx0 : 0 ≤ x0 ∧ x0 ≤ 1000002 := by omega
  have hy0 : 0 ≤ y0 ∧ y0 ≤ 1000002 := by omega
  have fi := ofInt_fw
  go_enter Try.func5, Try.ntmps5
  go_wp2_with fail
  refine (begun_any w).mono ?_
  rintro e w1 ⟨rfl, b1⟩
  go_wp2_with fail
  have B1 := hid b1
  clear b1
  rw [e1, e2]
  go_loop [10, 11, 12, 13] (fun x y f i => ∃ (k : Nat) (X Y : Int), k ≤ 30 ∧ i = .int .i64 k ∧ (0 ≤ X ∧ X ≤ 1000002) ∧ (0 ≤ Y ∧ Y ≤ 1000002) ∧ x = .int .i64 X ∧ y = .int .i64 Y ∧ f = cx false false X Y) (fun _ _ _ i => 30 - (intOf i).toNat)
  case atStart => exact ⟨0, x0, y0, by omega, rfl, hx0, hy0, rfl, rfl, rfl⟩
  case round =>
    obtain ⟨k, X, Y, hk, rfl, hX, hY, rfl, rfl, rfl⟩ := hrel
    clear t1 t2 t3 t4 e1 e2 hx0 hy0
    rcases (show (k < n0 ∧ k < 30) ∨ (k < n0 ∧ k = 30) ∨ ¬ k < n0 from by omega) with ⟨hk1, hk2⟩ | ⟨hk1, rfl⟩ | hk1
    · obtain ⟨b, off, rfl, hcell⟩ := H0.out.at (by omega)
      have hck := hcell k hk1
      have hlt := World.block_lt_of_cell? w _ hck
      have hck1 := (B1.out.cell hlt).trans hck
      generalize xs.getD k 0 = n at *
      clear hcell hck hlt
      obtain ⟨g, hg⟩ : ∃ g, wrap64 (fn + k) = g := ⟨_, rfl⟩
      have t1 : -1001 < g.tmod 1001 := Int.lt_tmod_of_pos _ (by decide)
      have t2 : g.tmod 1001 < 1001 := Int.tmod_lt_of_pos _ (by decide)
      have t3 := mod_again g 1001 (by decide)
      obtain ⟨d, hd⟩ : ∃ d, (g.tmod 1001 + 1001) % 1001 = d := ⟨_, rfl⟩
      have hd0 : 0 ≤ d := by omega
      have hd1 : d ≤ 1000 := by omega
      clear t3
      have hm := mark_any false false X Y d n w1 hX.1 hX.2 hY.1 hY.2 hd0 hd1
      have hr := refMark_any X Y d n w1 hX.1 hX.2 hY.1 hY.2 hd0 hd1
      have hU : 0 ≤ (X - 2 * Y + d + 1) % 1000003 ∧ (X - 2 * Y + d + 1) % 1000003 ≤ 1000002 := by omega
      have hV : 0 ≤ (2 * X + Y + n % 1000003) % 1000003 ∧ (2 * X + Y + n % 1000003) % 1000003 ≤ 1000002 := by omega
      generalize (X - 2 * Y + d + 1) % 1000003 = U at hm hr hU
      generalize (2 * X + Y + n % 1000003) % 1000003 = V at hm hr hV
      have o1 := order_fw false false U U (by omega) (by omega)
      have o2 := order_fw false false V V (by omega) (by omega)
      rw [decide_eq_true rfl] at o1 o2
      have o1 : (FloatKind.f64.format.order (fw false U) (fw false U) != some Ordering.eq) = false := by rw [bne, o1]; rfl
      have o2 : (FloatKind.f64.format.order (fw false V) (fw false V) != some Ordering.eq) = false := by rw [bne, o2]; rfl
      go_wp2_with fail
      refine hm.mono ?_
      rintro e w' ⟨rfl, rfl⟩
      go_wp2_with fail
      refine hr.mono ?_
      rintro e w' ⟨rfl, rfl⟩
      go_wp2_with fail
      go_round
      case rel => exact ⟨k + 1, U, V, by omega, by go_num, hU, hV, rfl, rfl, rfl⟩
      case measure => simp [intOf]; omega
    · go_wp2_with fail
      go_ret
      exact ⟨rfl, B1.out⟩
    · go_wp2_with fail
      go_ret
      exact ⟨rfl, B1.out⟩
end Go.Proofs.Ytepdamfnmlfloaa
