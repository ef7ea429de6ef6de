import Derived.Test.YtfhcekdfeiikbaaLebGetS
namespace Go.Proofs.Ytfhcekdfeiikbaa
open Go.RowKit

theorem stop_a : Stop [229, 142, 38] 5 2 := ⟨by decide, by decide, by intro i hi; rcases (show i = 0 ∨ i = 1 from by omega) with rfl | rfl <;> decide, by decide⟩
theorem good_a : goodU [229, 142, 38] 32 2 := by simp [goodU, canU, val]
theorem stop_b : Stop [192, 187, 120] 5 2 := ⟨by decide, by decide, by intro i hi; rcases (show i = 0 ∨ i = 1 from by omega) with rfl | rfl <;> decide, by decide⟩
theorem good_b : goodS [192, 187, 120] 32 2 := by simp [goodS, canS, sval, ext]
theorem stop_c : Stop [128, 0] 5 1 := ⟨by decide, by decide, by intro i hi; rcases (show i = 0 from by omega) with rfl; decide, by decide⟩
theorem good_c : ¬ goodU [128, 0] 32 1 := by simp [goodU, canU]
theorem more_d : ([128] : List Int).length < 5 ∧ ∀ i, i < ([128] : List Int).length → 128 ≤ ([128] : List Int).getD i 0 := ⟨by decide, by intro i hi; simp at hi; subst hi; decide⟩
theorem enc_a : encU 9 624485 = [229, 142, 38] := by decide
theorem enc_b : encS 9 (-123456) = [192, 187, 120] := by decide

theorem U_a (ao : Option Addr) (cap : Nat) (w : World) (h : Rd .u8 w ao 3 cap [229, 142, 38]) : Calls Try.prog 15 #[.slice ao 3 cap, .int .i64 32] w fun e w' => e = .returned (.tuple #[.int .u64 624485, .int .i64 3, .int .i64 0]) ∧ w = w' := by
  have := U_ok ao 3 cap _ 32 w h (by omega) (by omega) 5 2 (by decide) stop_a good_a
  rw [show val (List.take (2 + 1) [229, 142, 38]) = 624485 from by decide] at this
  exact this
theorem S_b (ao : Option Addr) (cap : Nat) (w : World) (h : Rd .u8 w ao 3 cap [192, 187, 120]) : Calls Try.prog 16 #[.slice ao 3 cap, .int .i64 32] w fun e w' => e = .returned (.tuple #[.int .i64 (-123456), .int .i64 3, .int .i64 0]) ∧ w = w' := by
  have := S_ok ao 3 cap _ 32 w h (by omega) (by omega) 5 2 (by decide) stop_b good_b
  rw [show sval (List.take (2 + 1) [192, 187, 120]) = -123456 from by decide] at this
  exact this
theorem putU_a (w : World) : Calls Try.prog 11 #[.slice none 0 0, .int .u64 624485] w fun e w' => ∃ ao cap, e = .returned (.slice ao 3 cap) ∧ Rd .u8 w' ao 3 cap [229, 142, 38] ∧ Below w.heap.size w w' := by
  refine (putU_any none 0 0 [] 624485 w (Rd.empty w .u8) (by omega) (by omega) (by omega)).mono ?_
  rintro e w1 ⟨v1, rfl, o1, b1⟩
  rw [enc_a, List.nil_append] at o1
  obtain ⟨a1, c1, rfl, r1⟩ := o1.rd
  exact ⟨a1, c1, rfl, r1, b1⟩
theorem putS_b (w : World) : Calls Try.prog 12 #[.slice none 0 0, .int .i64 (-123456)] w fun e w' => ∃ ao cap, e = .returned (.slice ao 3 cap) ∧ Rd .u8 w' ao 3 cap [192, 187, 120] ∧ Below w.heap.size w w' := by
  refine (putS_any none 0 0 [] (-123456) w (Rd.empty w .u8) (by omega) (by omega) (by omega)).mono ?_
  rintro e w1 ⟨v1, rfl, o1, b1⟩
  rw [enc_b, List.nil_append] at o1
  obtain ⟨a1, c1, rfl, r1⟩ := o1.rd
  exact ⟨a1, c1, rfl, r1, b1⟩
theorem U_c (w : World) : Calls Try.prog 15 #[.slice (some ⟨w.heap.size, 0, none⟩) 2 2, .int .i64 32] (w.alloc (.cells #[.int .u8 128, .int .u8 0] 5)) fun e w' => e = .returned (.tuple #[.int .u64 0, .int .i64 0, .int .i64 1]) ∧ w.alloc (.cells #[.int .u8 128, .int .u8 0] 5) = w' :=
  U_bad _ _ _ _ 32 _ (Rd.built2 _ _ _ _ _ (by decide) (by decide)) (by omega) (by omega) 5 1 (by decide) stop_c good_c
theorem S_d (w : World) (n : Nat) (hn : n = w.heap.size) : Calls Try.prog 16 #[.slice (some ⟨n, 0, none⟩) 1 1, .int .i64 32] (w.alloc (.cells #[.int .u8 128] 5)) fun e w' => e = .returned (.tuple #[.int .i64 0, .int .i64 0, .int .i64 2]) ∧ w.alloc (.cells #[.int .u8 128] 5) = w' := by
  subst hn
  exact S_more _ _ _ _ 32 _ (Rd.built _ _ _ _ (by decide)) (by omega) (by omega) 5 (by decide) more_d

set_option maxRecDepth 100000 in
set_option maxHeartbeats 800000 in
theorem begun_any (w : World) : Calls Try.prog 9 #[] w fun e w' => e = .returned (.bool true) ∧ Below w.heap.size w w' := by
  go_enter Try.func9, Try.ntmps9
  go_wp2_with fail
  refine (putU_a w).mono ?_
  rintro e w1 ⟨a1, c1, rfl, r1, b1⟩
  obtain ⟨bb, off, rfl, hc⟩ := r1.at (by decide)
  have hc0 : w1.cell? ⟨bb, off, none⟩ = some (.int .u8 229) := hc 0 (by decide)
  clear hc
  go_wp2_with fail
  refine (U_a _ _ w1 r1).mono ?_
  rintro e w' ⟨rfl, rfl⟩
  go_wp2_with fail
  refine (putS_b w1).mono ?_
  rintro e w2 ⟨a2, c2, rfl, r2, b2⟩
  have hlt := World.block_lt_of_cell? w1 _ hc0
  have hd0 : w2.cell? ⟨bb, off, none⟩ = some (.int .u8 229) := (b2.cell hlt).trans hc0
  have hlt2 : bb < w2.heap.size := Nat.lt_of_lt_of_le hlt b2.size
  clear hc0 hlt
  go_wp2_with fail
  refine (S_b _ _ w2 r2).mono ?_
  rintro e w' ⟨rfl, rfl⟩
  go_wp2_with fail
  refine (U_c w2).mono ?_
  rintro e w' ⟨rfl, rfl⟩
  go_wp2_with fail
  refine (S_d _ _ (by simp)).mono ?_
  rintro e w' ⟨rfl, rfl⟩
  go_wp2_with fail
  go_ret
  exact ⟨rfl, ((b1.trans (b2.mono b1.size)).alloc (Nat.le_trans b1.size b2.size) _).alloc (by have := b1.size; have := b2.size; simp; omega) _⟩
end Go.Proofs.Ytfhcekdfeiikbaa
