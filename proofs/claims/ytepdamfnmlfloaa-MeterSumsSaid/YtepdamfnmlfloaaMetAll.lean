/- Sums of any parts; there and back; turned by any quarter turns. -/
import Derived.Test.YtepdamfnmlfloaaMetTurn
import Derived.Test.YtepdamfnmlfloaaVals
import Derived.Deep.QuietTactic
import Derived.BigQuiet
namespace Go.Proofs.Ytepdamfnmlfloaa
open Go.RowKit

abbrev valC (p : Int × Int) : Value := cx false false p.1 p.2

/-- What has been collected is a slice of complex numbers that is read. -/
theorem RdC.of_own {E base : Nat} {w : World} {v : Value} {ps : List (Int × Int)} (h : OwnV E base w v (ps.map valC)) : ∃ ao cap, v = .slice ao ps.length cap ∧ RdC w ao ps.length cap ps := by
  rcases h.form with ⟨rfl, hv⟩ | ⟨g, cap, rfl, hb, hg, hle, hm, hc⟩
  · have : ps = [] := by simpa using hv
    subst this
    exact ⟨none, 0, rfl, rfl, Nat.le_refl _, Nat.zero_le _, fun _ => rfl, (fun _ h => by cases h)⟩
  · rw [List.length_map] at hle
    rw [List.length_map]
    refine ⟨_, cap, rfl, rfl, hle, hm, (fun h => by cases h), fun ad ha => ?_⟩
    cases ha
    refine ⟨g, 0, rfl, fun i hi => ⟨false, false, ?_⟩⟩
    rw [Nat.zero_add]
    exact hc i _ (by simp [List.getD, hi])

theorem part_quiet (x : Int) (w : World) (n : Nat) : Calls Try.prog 9 #[.int .i64 x] (w.drewN n) fun e w'' => e = .returned (.int .i64 (x.tmod 1073741824)) ∧ ∃ m, w'' = w.drewN m :=
  Calls.quiet_eq (part_any x _)

/-- The first k numbers, as the law takes them. -/
def pairs (xs ys : List Int) (k : Nat) : List (Int × Int) := (List.range k).map fun i => ((xs.getD i 0).tmod 1073741824, (ys.getD i 0).tmod 1073741824)
theorem pairs_snoc (xs ys : List Int) (k : Nat) : pairs xs ys (k + 1) = pairs xs ys k ++ [((xs.getD k 0).tmod 1073741824, (ys.getD k 0).tmod 1073741824)] := by
  simp [pairs, List.range_succ]
theorem pairs_len (xs ys : List Int) (k : Nat) : (pairs xs ys k).length = k := by simp [pairs]
theorem pairs_upto (xs ys : List Int) (k : Nat) : Upto (2 ^ 30) (pairs xs ys k) := by
  intro p hp
  simp only [pairs, List.mem_map] at hp
  obtain ⟨i, _, rfl⟩ := hp
  have h1 := tmod_bound (xs.getD i 0) 1073741824 (by decide)
  have h2 := tmod_bound (ys.getD i 0) 1073741824 (by decide)
  constructor <;> dsimp only <;> omega
theorem Upto.mono {A B : Nat} {ps : List (Int × Int)} (h : Upto A ps) (hab : A ≤ B) : Upto B ps := fun p hp => ⟨Nat.le_trans (h p hp).1 hab, Nat.le_trans (h p hp).2 hab⟩
theorem rot_snoc (k : Nat) (p : Int × Int) : rot (k + 1) p = (-(rot k p).2, (rot k p).1) := by
  rw [← rot_add 1 k p]; simp [rot]
theorem info_c : (Try.prog.info? 26).map (fun i => (i.zero, i.size, i.bytes)) = some (some (.complex .f64 0 0), 1, 16) := by kernel_rfl

set_option maxRecDepth 20000 in
set_option maxHeartbeats 1600000 in
theorem meterAll_walk (aa ab : Option Addr) (na ca nb cb : Nat) (xs ys : List Int) (k : Int) (w : World) (ha : Rd .i64 w aa na ca xs) (hb : Rd .i64 w ab nb cb ys) :
    Calls Try.prog 3 #[.slice aa na ca, .slice ab nb cb, .int .i64 k] w fun e w' => e = .returned (.bool true) ∧ Below w.heap.size w w' := by
  have la := ha.le
  have lb := hb.le
  have ma := ha.cap63
  have mb := hb.cap63
  have HA := hid ha
  have HB := hid hb
  clear ha hb
  go_enter Try.func3, Try.ntmps3
  go_wp2_with fail
  refine (begun_any w).mono ?_
  rintro e w0 ⟨rfl, b0⟩
  go_wp2_with fail
  go_loopw [8, 9, 10, 11] (fun v x y i wr => ∃ j : Nat, i = .int .i64 j ∧ j ≤ 40 ∧ j ≤ na ∧ j ≤ nb ∧ x = .int .i64 (s1 (pairs xs ys j)) ∧ y = .int .i64 (s2 (pairs xs ys j)) ∧ OwnV 26 w.heap.size wr v ((pairs xs ys j).map valC) ∧ Below w.heap.size w wr) (fun _ _ _ i _ => 40 - (intOf i).toNat)
  case atStart => exact ⟨0, rfl, by omega, by omega, by omega, rfl, rfl, OwnV.nil _ _ _, b0⟩
  case round =>
    obtain ⟨j, rfl, hj, hja, hjb, rfl, rfl, hown, hbel⟩ := hrel
    obtain ⟨sb1, sb2⟩ := (pairs_upto xs ys j).sum
    rw [pairs_len] at sb1 sb2
    have g2 : j * 2 ^ 30 ≤ 40 * 2 ^ 30 := Nat.mul_le_mul_right _ hj
    obtain ⟨X, hX⟩ : ∃ X, X = s1 (pairs xs ys j) := ⟨_, rfl⟩
    obtain ⟨Y, hY⟩ : ∃ Y, Y = s2 (pairs xs ys j) := ⟨_, rfl⟩
    rw [← hX, ← hY]
    rw [← hX] at sb1
    rw [← hY] at sb2
    have bX : -42949672960 ≤ X ∧ X ≤ 42949672960 := by omega
    have bY : -42949672960 ≤ Y ∧ Y ≤ 42949672960 := by omega
    have HX := hid hX
    have HY := hid hY
    clear sb1 sb2 g2 hX hY
    by_cases hin : j < na ∧ j < nb ∧ j < 40
    · obtain ⟨h1, h2, h3⟩ := hin
      obtain ⟨bx, ox, rfl, hcx⟩ := HA.out.at (by omega)
      obtain ⟨by', oy, rfl, hcy⟩ := HB.out.at (by omega)
      have hcx := hcx j h1
      have hcy := hcy j h2
      have hcx1 := (hbel.cell (World.block_lt_of_cell? w _ hcx)).trans hcx
      have hcy1 := (hbel.cell (World.block_lt_of_cell? w _ hcy)).trans hcy
      have HS := hid (pairs_snoc xs ys j)
      clear hcx hcy
      generalize xs.getD j 0 = a0 at *
      generalize ys.getD j 0 = c0 at *
      obtain ⟨q1, q2⟩ := tmod_bound a0 1073741824 (by decide)
      obtain ⟨q3, q4⟩ := tmod_bound c0 1073741824 (by decide)
      have PA := fun n => part_quiet a0 wr n
      have PB := fun n => part_quiet c0 wr n
      generalize a0.tmod 1073741824 = x at *
      generalize c0.tmod 1073741824 = y at *
      have fi := ofInt_fw
      have o1 := order_fw false false x x (by omega) (by omega)
      have o2 := order_fw false false y y (by omega) (by omega)
      rw [decide_eq_true rfl] at o1 o2
      have o1 : (FloatKind.f64.format.order (fw false x) (fw false x) != some Ordering.eq) = false := by rw [bne, o1]; rfl
      have o2 : (FloatKind.f64.format.order (fw false y) (fw false y) != some Ordering.eq) = false := by rw [bne, o2]; rfl
      have Hown := hid hown
      have Hbel := hid hbel
      clear hown hbel
      go_wp2_with fail
      go_quiet (first | (go_at_call 9; exact PA _) | (go_at_call 9; exact PB _))
      obtain ⟨w1, hw1⟩ : ∃ w1, w1 = wr.drewN nq := ⟨_, rfl⟩
      have Hown1 := hid (show OwnV 26 w.heap.size w1 u8 ((pairs xs ys j).map valC) by rw [hw1]; exact ⟨Hown.out.row⟩)
      have Hbel1 := hid (show Below w.heap.size w w1 by rw [hw1]; exact Hbel.out.trans (below_drewN _ _ _))
      rw [← hw1]
      have hh1 := hid hw1
      clear PA PB hcx1 hcy1 Hown Hbel hw1
      go_wp2_with fail
      refine (of_any _ _ _).mono ?_
      rintro e w' ⟨rfl, rfl⟩
      go_wp2_with fail
      refine (steps_any _ _ x y _ (by omega)).mono ?_
      rintro e w' ⟨rfl, rfl⟩
      go_wp2_with fail
      refine (bytes_any _ _ x y _ (by omega)).mono ?_
      rintro e w' ⟨rfl, rfl⟩
      have sz : w.heap.size ≤ w1.heap.size := Hbel1.out.size
      have ln : ((pairs xs ys j).map valC).length = j := by rw [List.length_map, pairs_len]
      have Ln := hid ln
      clear ln
      go_wp2_with (at_builtin; refine wpList_append_val rfl (.tmp 75) (.tmp 77) 24 rfl 26 (.complex .f64 0 0) w.heap.size 16 Try.underlying24 info_c rfl u8 _ rfl (Hown1.out.alloc _) w1.heap.size (cx false false x y) rfl (by simp [World.cell?_alloc_at]) rfl (by rw [Ln.out]; omega) (by rw [Ln.out]; omega) (by simp; omega) ?_; intro v' w2 Hown2 hb2; have Hown3 := hid Hown2; have Hb3 := hid hb2; clear Hown2 hb2)
      have hb3 : Below w.heap.size w w2 := (Hbel1.out.alloc sz _).trans Hb3.out
      refine ⟨⟨j + 1, by go_num, by omega, by omega, by omega, ?_, ?_, ?_, hb3⟩, by simp [intOf]; omega⟩
      · rw [HS.out, s1_append, ← HX.out]; simp [s1]
      · rw [HS.out, s2_append, ← HY.out]; simp [s2]
      · rw [HS.out, List.map_append]; exact Hown3.out
    · obtain ⟨ao, cap, rfl, hrd⟩ := RdC.of_own hown
      rw [pairs_len] at hrd ⊢
      have HRD := hid hrd
      have hbel1 := hid hbel
      have HU := hid ((pairs_upto xs ys j).mono (show 2 ^ 30 ≤ 2 ^ 40 by decide))
      obtain ⟨q, hq⟩ : ∃ q : Nat, (k.tmod 4 + 4) % 4 = q := ⟨((k.tmod 4 + 4) % 4).toNat, by have := tmod_bound k 4 (by decide); omega⟩
      have hkq := hid (show k % 4 = q by rw [← hq, mod_again k 4 (by decide)])
      obtain ⟨k1, k2⟩ := tmod_bound k 4 (by decide)
      have hq4 : q < 4 := by omega
      clear hrd hown hbel
      have hcase : ¬ j < na ∨ (j < na ∧ ¬ j < nb) ∨ (j < na ∧ j < nb ∧ ¬ j < 40) := by omega
      clear hin
      rcases hcase with e1 | ⟨e1, e2⟩ | ⟨e1, e2, e3⟩
      all_goals
        go_wp2_with fail
        refine (add_to _ _ _ _ _ HRD.out hj HU.out X Y HX.out.symm HY.out.symm).mono ?_
        rintro e w' ⟨⟨z1, z2, rfl⟩, rfl⟩
        go_wp2_with fail
        refine (steps_any _ _ X Y _ (by omega)).mono ?_
        rintro e w' ⟨rfl, rfl⟩
        go_wp2_with fail
        refine (bytes_any _ _ X Y _ (by omega)).mono ?_
        rintro e w' ⟨rfl, rfl⟩
        go_wp2_with fail
        go_loop [9, 10, 17] (fun x y i => ∃ r : Nat, i = .int .i64 r ∧ r ≤ q ∧ x = .int .i64 (rot r (X, Y)).1 ∧ y = .int .i64 (rot r (X, Y)).2) (fun _ _ i => q - (intOf i).toNat)
        case atStart => exact ⟨0, rfl, Nat.zero_le _, rfl, rfl⟩
        case round =>
          obtain ⟨r, rfl, hr, rfl, rfl⟩ := hrel
          have hs := hid (rot_snoc r (X, Y))
          have hl := rot_le (B := 2 ^ 40) r X Y (by omega) (by omega)
          have ht := hid (show rot r (X, Y) = ((rot r (X, Y)).1, (rot r (X, Y)).2) from rfl)
          generalize (rot r (X, Y)).1 = u at *
          generalize (rot r (X, Y)).2 = v at *
          have lu : -1099511627776 < u ∧ u < 1099511627776 := by omega
          have lv : -1099511627776 < v ∧ v < 1099511627776 := by omega
          clear hl
          by_cases hrq : r < q
          · go_wp2_with fail
            go_round
            case rel => exact ⟨r + 1, by go_num, by omega, by rw [hs.out], by rw [hs.out]⟩
            case measure => simp [intOf]; omega
          · have hrq' : r = q := by omega
            subst hrq'
            go_wp2_with fail
            refine (turn_to _ _ X Y k _ (by omega) (by omega) r hkq.out u v ht.out).mono ?_
            rintro e w3 ⟨⟨z3, z4, rfl⟩, b3⟩
            go_wp2_with fail
            refine (steps_any _ _ u v _ (by omega)).mono ?_
            rintro e w' ⟨rfl, rfl⟩
            go_wp2_with fail
            refine (bytes_any _ _ u v _ (by omega)).mono ?_
            rintro e w' ⟨rfl, rfl⟩
            go_wp2_with fail
            go_ret
            exact ⟨by simp, step_below hbel1.out b3⟩
end Go.Proofs.Ytepdamfnmlfloaa
