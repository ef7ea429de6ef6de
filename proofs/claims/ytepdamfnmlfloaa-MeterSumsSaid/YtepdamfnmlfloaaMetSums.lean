/- Sums go in any order, in any parts. -/
import Derived.Test.YtepdamfnmlfloaaMetAll
import Derived.Test.YtepdamfnmlfloaaRegionTail
namespace Go.Proofs.Ytepdamfnmlfloaa
open Go.RowKit

theorem RdC.below {w w' : World} {ao : Option Addr} {n cap : Nat} {ps : List (Int × Int)} (h : RdC w ao n cap ps) (hb : Below w.heap.size w w') : RdC w' ao n cap ps :=
  ⟨h.len, h.le, h.max, h.nil, fun ad ha => by
    obtain ⟨b, off, e, hc⟩ := h.cell ad ha
    refine ⟨b, off, e, fun i hi => ?_⟩
    obtain ⟨z, z', hz⟩ := hc i hi
    have hlt := World.block_lt_of_cell? w _ hz
    exact ⟨z, z', (hb.cell hlt).trans hz⟩⟩

theorem RdC.upto {w : World} {ao : Option Addr} {n cap : Nat} {ps : List (Int × Int)} (h : RdC w ao n cap ps) {i : Nat} (hi : i ≤ n) : RdC w ao i cap (ps.take i) := by
  have hl := h.len
  have hle := h.le
  refine ⟨by simp; omega, by omega, h.max, h.nil, fun ad ha => ?_⟩
  obtain ⟨b, off, e, hc⟩ := h.cell ad ha
  refine ⟨b, off, e, fun j hj => ?_⟩
  obtain ⟨z, z', hz⟩ := hc j (by omega)
  refine ⟨z, z', ?_⟩
  rw [hz]
  simp [List.getD, hj]

theorem RdC.cut {w : World} {ao : Option Addr} {n cap : Nat} {ps : List (Int × Int)} (h : RdC w ao n cap ps) (l : Nat) (h1 : l ≤ n) : RdC w (cutAt ao l cap) (n - l) (cap - l) (ps.drop l) := by
  have hl := h.len
  have hle := h.le
  have hm := h.max
  unfold cutAt
  by_cases e : cap = l
  · rw [if_pos e]
    refine ⟨by simp; omega, by omega, by omega, (fun _ => by omega), fun ad ha => ?_⟩
    obtain ⟨b, off, e', hc⟩ := h.cell ad ha
    exact ⟨b, off, e', fun i hi => by omega⟩
  · rw [if_neg e]
    refine ⟨by simp; omega, by omega, by omega, (fun hn => ?_), fun ad ha => ?_⟩
    · cases ao with
      | none => have := h.nil rfl; omega
      | some ad => simp at hn
    · cases ao with
      | none => simp at ha
      | some ad0 =>
        simp only [Option.map_some, Option.some.injEq] at ha
        subst ha
        obtain ⟨b, off, rfl, hc⟩ := h.cell _ rfl
        refine ⟨b, off + l, by rw [Nat.mul_one, Addr.add_lit], fun j hj => ?_⟩
        obtain ⟨z, z', hz⟩ := hc (l + j) (by omega)
        refine ⟨z, z', ?_⟩
        rw [Nat.add_assoc, hz]
        simp [List.getD]

/-- A complex number of these parts. -/
def IsC (x y : Int) : Value → World → Prop := fun v _ => ∃ z z', v = cx z z' x y
def IsRdC (ps : List (Int × Int)) : Value → World → Prop := fun v w => ∃ ao cap, v = .slice ao ps.length cap ∧ RdC w ao ps.length cap ps
theorem Stays.c (x y : Int) : Stays (IsC x y) := fun _ _ _ h _ => h
theorem Stays.rdc (ps : List (Int × Int)) : Stays (IsRdC ps) := fun _ _ _ ⟨ao, cap, e, h⟩ hb => ⟨ao, cap, e, h.below hb⟩

theorem s1_reverse (ps : List (Int × Int)) : s1 ps.reverse = s1 ps := by
  induction ps with
  | nil => rfl
  | cons p r ih => rw [List.reverse_cons, s1_append, ih]; simp [s1]; omega
theorem s2_reverse (ps : List (Int × Int)) : s2 ps.reverse = s2 ps := by
  induction ps with
  | nil => rfl
  | cons p r ih => rw [List.reverse_cons, s2_append, ih]; simp [s2]; omega
theorem Upto.reverse {B : Nat} {ps : List (Int × Int)} (h : Upto B ps) : Upto B ps.reverse := fun p hp => h p (by simpa using hp)

theorem drop_back (ps : List (Int × Int)) (j : Nat) (h : j < ps.length) : (ps.drop j).reverse = (ps.drop (j + 1)).reverse ++ [ps.getD j (0, 0)] := by
  rw [List.drop_eq_getElem_cons h, List.reverse_cons]
  simp [List.getD, h]

/-- One value that stands in a block of its own. -/
def IsOne (u : Value) : Value → World → Prop := fun v w => ∃ b, v = .slice (some ⟨b, 0, none⟩) 1 1 ∧ w.cell? ⟨b, 0, none⟩ = some u
theorem Stays.one (u : Value) : Stays (IsOne u) := fun _ _ _ ⟨b, e, h⟩ hb => ⟨b, e, (hb.cell (World.block_lt_of_cell? _ _ h)).trans h⟩

theorem elem_c : Try.prog.underlying 24 = some (.slice (Try.prog.elem 24)) := by kernel_rfl
theorem size_c (w : World) : (sizeOf (Try.prog.elem 24)).run Try.prog w = .ok 1 w := by kernel_rfl

theorem sum_two (ps : List (Int × Int)) (p : Nat) (X Y : Int) (hX : X = s1 ps) (hY : Y = s2 ps) :
    s1 [(s1 (ps.take p), s2 (ps.take p)), (s1 (ps.drop p), s2 (ps.drop p))] = X ∧ s2 [(s1 (ps.take p), s2 (ps.take p)), (s1 (ps.drop p), s2 (ps.drop p))] = Y := by
  have h1 := s1_append (ps.take p) (ps.drop p)
  have h2 := s2_append (ps.take p) (ps.drop p)
  rw [List.take_append_drop] at h1 h2
  have e1 : ∀ a b c d : Int, s1 [(a, b), (c, d)] = a + c := by intros; simp [s1]
  have e2 : ∀ a b c d : Int, s2 [(a, b), (c, d)] = b + d := by intros; simp [s2]
  rw [e1, e2, hX, hY, h1, h2]
  exact ⟨rfl, rfl⟩
theorem upto_two (ps : List (Int × Int)) (p : Nat) (h : Upto (2 ^ 30) ps) (hl : ps.length ≤ 30) : Upto (2 ^ 40) [(s1 (ps.take p), s2 (ps.take p)), (s1 (ps.drop p), s2 (ps.drop p))] := by
  have h1 := (h.take p).sum
  have h2 := (h.drop p).sum
  have g1 : (ps.take p).length * 2 ^ 30 ≤ 30 * 2 ^ 30 := Nat.mul_le_mul_right _ (by rw [List.length_take]; omega)
  have g2 : (ps.drop p).length * 2 ^ 30 ≤ 30 * 2 ^ 30 := Nat.mul_le_mul_right _ (by rw [List.length_drop]; omega)
  intro q hq
  simp only [List.mem_cons, List.not_mem_nil, or_false] at hq
  rcases hq with rfl | rfl <;> dsimp only <;> omega

theorem OwnV.plain {E base : Nat} {w : World} {v : Value} {vs : List Value} (h : OwnV E base w v vs) : ∃ ao cap, v = .slice ao vs.length cap ∧ vs.length ≤ cap ∧ cap ≤ maxLen ∧ (0 < vs.length → ∃ g, ao = some ⟨g, 0, none⟩ ∧ g < w.heap.size ∧ ∀ i u, vs[i]? = some u → w.cell? ⟨g, i, none⟩ = some u) := by
  rcases h.form with ⟨rfl, hv⟩ | ⟨g, cap, rfl, hb, hg, hle, hm, hc⟩
  · subst hv
    exact ⟨none, 0, rfl, Nat.le_refl _, Nat.zero_le _, fun h => by simp at h⟩
  · exact ⟨_, cap, rfl, hle, hm, fun _ => ⟨g, rfl, hg, hc⟩⟩

set_option maxRecDepth 20000 in
set_option maxHeartbeats 4000000 in
theorem meterSums_walk (aa ab : Option Addr) (na ca nb cb : Nat) (xs ys : List Int) (at_ : Int) (w : World) (ha : Rd .i64 w aa na ca xs) (hb : Rd .i64 w ab nb cb ys) :
    Calls Try.prog 6 #[.slice aa na ca, .slice ab nb cb, .int .i64 at_] w fun e w' => e = .returned (.bool true) ∧ Below w.heap.size w w' := by
  have la := ha.le
  have lb := hb.le
  have ma := ha.cap63
  have mb := hb.cap63
  have HA := hid ha
  have HB := hid hb
  clear ha hb
  go_enter Try.func6, Try.ntmps6
  go_wp2_with fail
  refine (begun_any w).mono ?_
  rintro e w0 ⟨rfl, b0⟩
  go_wp2_with fail
  go_loopw [8, 10] (fun v i wr => ∃ j : Nat, i = .int .i64 j ∧ j ≤ 30 ∧ j ≤ na ∧ j ≤ nb ∧ OwnV 26 w.heap.size wr v ((pairs xs ys j).map valC) ∧ Below w.heap.size w wr) (fun _ i _ => 30 - (intOf i).toNat)
  case atStart => exact ⟨0, rfl, by omega, by omega, by omega, OwnV.nil _ _ _, b0⟩
  case round =>
    obtain ⟨j, rfl, hj, hja, hjb, hown, hbel⟩ := hrel
    by_cases hin : j < na ∧ j < nb ∧ j < 30
    · obtain ⟨h1, h2, h3⟩ := hin
      obtain ⟨bx, ox, rfl, hcx⟩ := HA.out.at (by omega)
      obtain ⟨by', oy, rfl, hcy⟩ := HB.out.at (by omega)
      have hcx := hcx j h1
      have hcy := hcy j h2
      have hbx0 := Nat.lt_of_lt_of_le (World.block_lt_of_cell? w _ hcx) hbel.size
      have hby0 := Nat.lt_of_lt_of_le (World.block_lt_of_cell? w _ hcy) hbel.size
      have hcx1 := (hbel.cell (World.block_lt_of_cell? w _ hcx)).trans hcx
      have hcy1 := (hbel.cell (World.block_lt_of_cell? w _ hcy)).trans hcy
      dsimp only at hbx0 hby0
      have HS := hid (pairs_snoc xs ys j)
      clear hcx hcy
      generalize xs.getD j 0 = a0 at *
      generalize ys.getD j 0 = c0 at *
      obtain ⟨q1, q2⟩ := tmod_bound a0 1073741824 (by decide)
      obtain ⟨q3, q4⟩ := tmod_bound c0 1073741824 (by decide)
      have PA := part_any a0
      have PB := part_any c0
      generalize a0.tmod 1073741824 = x at *
      generalize c0.tmod 1073741824 = y at *
      have Hown := hid hown
      have Hbel := hid hbel
      clear hown hbel
      go_wp2_with fail
      refine wp_region_below_tail 13 (by kernel_rfl) [Is ?vA0, Is ?vA1, Is ?vA2, Is ?vA3, Is (.int .i64 a0), Is (.int .i64 x), Is ?vA6, Is ?vA7, Is ?vA8, Is (.int .i64 c0), Is (.int .i64 y), Is (cx false false x y), IsOne (cx false false x y)] [0, 1, 2, 3, 4, 5, 6, 7, 8, 9, 10, 11, 12] rfl (by kernel_rfl) rfl (by kernel_rfl) ?hopA ?hstA ?hendA
      case hopA =>
        refine ⟨⟨⟨_, _, _, _, _, _⟩, _, Is ?vA0, none, [], [(8, u8)], rfl, rfl, rfl, rfl, rfl, ⟨⟨by kernel_rfl, rfl⟩, trivial⟩, ?_⟩, ?_⟩
        · intro a w1 hC e8
          refine Or.inl ⟨_, ?_, rfl⟩
          go_simp
          first | (go_bits; rfl) | rfl | (rw [if_pos (by omega)])
        refine ⟨⟨⟨_, _, _, _, _, _⟩, _, Is ?vA1, none, [], [(0, .slice (some ⟨bx, ox, none⟩) na ca)], rfl, rfl, rfl, rfl, rfl, ⟨⟨by kernel_rfl, rfl⟩, trivial⟩, ?_⟩, ?_⟩
        · intro a w1 hC e0
          refine Or.inl ⟨_, ?_, rfl⟩
          go_simp
          first | (go_bits; rfl) | rfl | (rw [if_pos (by omega)])
        refine ⟨⟨⟨_, _, _, _, _, _⟩, _, Is ?vA2, none, [], [(10, .int .i64 j)], rfl, rfl, rfl, rfl, rfl, ⟨⟨by kernel_rfl, rfl⟩, trivial⟩, ?_⟩, ?_⟩
        · intro a w1 hC e10
          refine Or.inl ⟨_, ?_, rfl⟩
          go_simp
          first | (go_bits; rfl) | rfl | (rw [if_pos (by omega)])
        refine ⟨⟨⟨_, _, _, _, _, _⟩, _, Is ?vA3, none, [(some 32, Is ?vA1), (some 33, Is ?vA2)], [], rfl, rfl, rfl, rfl, rfl, trivial, ?_⟩, ?_⟩
        · intro a w1 hC  (h1 : a.tmps.getD 32 undef = _) (h2 : a.tmps.getD 33 undef = _)
          refine Or.inl ⟨_, ?_, rfl⟩
          go_simp
          first | (go_bits; rfl) | rfl | (rw [if_pos (by omega)])
        refine ⟨⟨⟨_, _, _, _, _, _⟩, _, Is (.int .i64 a0), none, [(some 34, Is ?vA3)], [], rfl, rfl, rfl, rfl, rfl, trivial, ?_⟩, ?_⟩
        · intro a w1 hC  (h3 : a.tmps.getD 34 undef = _)
          refine Or.inl ⟨.int .i64 a0, ?_, rfl⟩
          have hcw := (hC.cell hbx0).trans hcx1
          go_simp
        refine ⟨⟨⟨_, _, _, _, _, _⟩, _, Is (.int .i64 x), none, [(some 35, Is (.int .i64 a0))], [], rfl, rfl, rfl, rfl, rfl, trivial, ?_⟩, ?_⟩
        · intro a w1 hC  (h4 : a.tmps.getD 35 undef = _)
          refine Or.inr (Or.inl ⟨9, #[.int .i64 a0], ?_, ?_⟩)
          · go_simp
          · refine (PA w1).mono ?_
            rintro e w2 ⟨rfl, rfl⟩
            exact ⟨_, rfl, rfl, Below.refl _ _⟩
        refine ⟨⟨⟨_, _, _, _, _, _⟩, _, Is ?vA6, none, [], [(1, .slice (some ⟨by', oy, none⟩) nb cb)], rfl, rfl, rfl, rfl, rfl, ⟨⟨by kernel_rfl, rfl⟩, trivial⟩, ?_⟩, ?_⟩
        · intro a w1 hC e1
          refine Or.inl ⟨_, ?_, rfl⟩
          go_simp
          first | (go_bits; rfl) | rfl | (rw [if_pos (by omega)])
        refine ⟨⟨⟨_, _, _, _, _, _⟩, _, Is ?vA7, none, [], [(10, .int .i64 j)], rfl, rfl, rfl, rfl, rfl, ⟨⟨by kernel_rfl, rfl⟩, trivial⟩, ?_⟩, ?_⟩
        · intro a w1 hC e10
          refine Or.inl ⟨_, ?_, rfl⟩
          go_simp
          first | (go_bits; rfl) | rfl | (rw [if_pos (by omega)])
        refine ⟨⟨⟨_, _, _, _, _, _⟩, _, Is ?vA8, none, [(some 37, Is ?vA6), (some 38, Is ?vA7)], [], rfl, rfl, rfl, rfl, rfl, trivial, ?_⟩, ?_⟩
        · intro a w1 hC  (h6 : a.tmps.getD 37 undef = _) (h7 : a.tmps.getD 38 undef = _)
          refine Or.inl ⟨_, ?_, rfl⟩
          go_simp
          first | (go_bits; rfl) | rfl | (rw [if_pos (by omega)])
        refine ⟨⟨⟨_, _, _, _, _, _⟩, _, Is (.int .i64 c0), none, [(some 39, Is ?vA8)], [], rfl, rfl, rfl, rfl, rfl, trivial, ?_⟩, ?_⟩
        · intro a w1 hC  (h8 : a.tmps.getD 39 undef = _)
          refine Or.inl ⟨.int .i64 c0, ?_, rfl⟩
          have hcw := (hC.cell hby0).trans hcy1
          go_simp
        refine ⟨⟨⟨_, _, _, _, _, _⟩, _, Is (.int .i64 y), none, [(some 40, Is (.int .i64 c0)), (some 36, Is (.int .i64 x))], [], rfl, rfl, rfl, rfl, rfl, trivial, ?_⟩, ?_⟩
        · intro a w1 hC  (h9 : a.tmps.getD 40 undef = _) (h5 : a.tmps.getD 36 undef = _)
          refine Or.inr (Or.inl ⟨9, #[.int .i64 c0], ?_, ?_⟩)
          · go_simp
          · refine (PB w1).mono ?_
            rintro e w2 ⟨rfl, rfl⟩
            exact ⟨_, rfl, rfl, Below.refl _ _⟩
        refine ⟨⟨⟨_, _, _, _, _, _⟩, _, Is (cx false false x y), none, [(some 36, Is (.int .i64 x)), (some 41, Is (.int .i64 y)), (some 41, Is (.int .i64 y))], [], rfl, rfl, rfl, rfl, rfl, trivial, ?_⟩, ?_⟩
        · intro a w1 hC  (h5 : a.tmps.getD 36 undef = _) (h10 : a.tmps.getD 41 undef = _) _
          refine Or.inr (Or.inl ⟨10, #[.int .i64 x, .int .i64 y], ?_, ?_⟩)
          · go_simp
          · refine (of_any x y w1).mono ?_
            rintro e w2 ⟨rfl, rfl⟩
            exact ⟨_, rfl, rfl, Below.refl _ _⟩
        refine ⟨⟨⟨_, _, _, _, _, _⟩, _, IsOne (cx false false x y), none, [(some 42, Is (cx false false x y))], [], rfl, rfl, rfl, rfl, rfl, trivial, ?_⟩, ?_⟩
        · intro a w1 hC  (h11 : a.tmps.getD 42 undef = _)
          refine Or.inr (Or.inr ⟨.slice (some ⟨w1.heap.size, 0, none⟩) 1 1, w1.alloc (.cells #[cx false false x y] 26), ?_, ⟨_, rfl, by simp [World.cell?_alloc_at]⟩, (Below.refl _ _).alloc (Nat.le_refl _) _⟩)
          rw [Array.getD_eq_getD_getElem?] at h11
          go_simp
        exact trivial
      case hstA => exact ⟨Stays.is _, Stays.is _, Stays.is _, Stays.is _, Stays.is _, Stays.is _, Stays.is _, Stays.is _, Stays.is _, Stays.is _, Stays.is _, Stays.is _, Stays.one _, trivial⟩
      case hendA =>
        intro w1 hC
        rintro _ rfl
        rintro _ rfl
        rintro _ rfl
        rintro _ rfl
        rintro _ rfl
        rintro _ rfl
        rintro _ rfl
        rintro _ rfl
        rintro _ rfl
        rintro _ rfl
        rintro _ rfl
        rintro _ rfl
        intro x12 h12
        obtain ⟨bq, rfl, hbq⟩ := h12
        simp only [Ends, Act.put, List.setIfInBounds_toArray, List.set_cons_succ, List.set_cons_zero, List.drop_succ_cons, List.drop_zero]
        have Hown1 := hid (Hown.out.below hC (Nat.le_refl _))
        have Hbel1 := hid (Hbel.out.trans (hC.mono Hbel.out.size))
        have Hbq := hid hbq
        have sz : w.heap.size ≤ w1.heap.size := Hbel1.out.size
        have Ln := hid (show ((pairs xs ys j).map valC).length = j by rw [List.length_map, pairs_len])
        clear hbq hC Hown Hbel hcx1 hcy1 PA PB
        go_wp2_with (at_builtin; refine wpList_append_val rfl (.tmp 31) (.tmp 43) 24 rfl 26 (.complex .f64 0 0) w.heap.size 16 Try.underlying24 info_c rfl _ _ rfl Hown1.out bq (cx false false x y) rfl Hbq.out rfl (by rw [Ln.out]; omega) (by rw [Ln.out]; omega) sz ?_; intro v2 w2 Hown2 hb2; have Hown3 := hid Hown2; have Hb3 := hid hb2; clear Hown2 hb2)
        go_roundw
        case rel => exact ⟨j + 1, by go_num, by omega, by omega, by omega, by rw [HS.out, List.map_append]; exact Hown3.out, Hbel1.out.trans Hb3.out⟩
        case measure => simp [intOf]; omega
    · obtain ⟨wo, rfl⟩ : ∃ wo : World, wo = wr := ⟨_, rfl⟩
      obtain ⟨ps, hps⟩ : ∃ ps, ps = pairs xs ys j := ⟨_, rfl⟩
      rw [← hps] at hown
      have hlen : ps.length = j := by rw [hps, pairs_len]
      have HU := hid (show Upto (2 ^ 40) ps by rw [hps]; exact (pairs_upto xs ys j).mono (by decide))
      have HU3 := hid (show Upto (2 ^ 30) ps by rw [hps]; exact pairs_upto xs ys j)
      clear hps
      obtain ⟨ao, cap, hv, hrd⟩ := RdC.of_own hown
      have hcl := hown.plain
      rw [hv, hlen] at hcl
      rw [hlen] at hv hrd
      subst hv
      have hcell : 0 < j → ∃ g, ao = some ⟨g, 0, none⟩ ∧ g < wo.heap.size ∧ ∀ i, i < j → wo.cell? ⟨g, i, none⟩ = some (valC (ps.getD i (0, 0))) := by
        intro h0
        obtain ⟨ao', cap', e, _, _, hc⟩ := hcl
        rw [List.length_map, hlen] at e hc
        obtain ⟨g, e2, hg, hc2⟩ := hc h0
        subst e2
        cases e
        exact ⟨g, rfl, hg, fun i hi => hc2 i _ (by simp [List.getD, show i < ps.length by omega])⟩
      have hle := hrd.le
      have hmax : cap ≤ 9223372036854775807 := hrd.max
      have HRD := hid hrd
      have HC := hid hcell
      have HBel := hid hbel
      have HL := hid hlen
      clear hown hrd hcell hbel hcl hlen
      have hcase : ¬ j < na ∨ (j < na ∧ ¬ j < nb) ∨ (j < na ∧ j < nb ∧ ¬ j < 30) := by omega
      clear hin
      rcases hcase with e1 | ⟨e1, e2⟩ | ⟨e1, e2, e3⟩
      all_goals
        go_wp2_with fail
        go_loopw [9, 11] (fun m i w2 => ∃ t : Nat, i = .int .i64 ((t : Int) - 1) ∧ t ≤ j ∧ OwnV 26 wo.heap.size w2 m ((ps.drop t).reverse.map valC) ∧ Below wo.heap.size wo w2) (fun _ i _ => (intOf i + 1).toNat)
        case atStart => exact ⟨j, rfl, Nat.le_refl _, by rw [List.drop_eq_nil_of_le (by rw [HL.out]; exact Nat.le_refl _)]; exact OwnV.nil _ _ _, Below.refl _ _⟩
        case round =>
          obtain ⟨t, rfl, htj, hown, hbel⟩ := hrel
          cases t with
          | succ t =>
            rw [show ((t + 1 : Nat) : Int) - 1 = (t : Int) by omega]
            obtain ⟨g, rfl, hg, hc⟩ := HC.out (by omega)
            have hct := (hbel.cell hg).trans (hc t (by omega))
            have hct : wr.cell? ⟨g, 0 + t, none⟩ = some (valC (ps.getD t (0, 0))) := by rw [Nat.zero_add]; exact hct
            have Hdb := hid (drop_back ps t (by rw [HL.out]; omega))
            have Ln := hid (show ((ps.drop (t + 1)).reverse.map valC).length ≤ 30 by rw [List.length_map, List.length_reverse, List.length_drop, HL.out]; omega)
            have Hown := hid hown
            have Hbel := hid hbel
            have sz := hbel.size
            clear hown hbel hc
            generalize ps.getD t (0, 0) = q at *
            obtain ⟨x, y⟩ := q
            go_wp2_with (at_builtin; refine wpList_append_val rfl (.tmp 52) (.tmp 57) 24 rfl 26 (.complex .f64 0 0) wo.heap.size 16 Try.underlying24 info_c rfl _ _ rfl (Hown.out.alloc _) wr.heap.size (cx false false x y) rfl (by simp [World.cell?_alloc_at]) rfl (by have := Ln.out; omega) (by have := Ln.out; omega) (by simp; omega) ?_; intro v2 w2 Hown2 hb2; have Hown3 := hid Hown2; have Hb3 := hid hb2; clear Hown2 hb2)
            have hb3 : Below wo.heap.size wo w2 := (Hbel.out.alloc sz _).trans Hb3.out
            refine ⟨⟨t, rfl, by omega, ?_, hb3⟩, by simp [intOf]⟩
            rw [Hdb.out, List.map_append]
            exact Hown3.out
          | zero =>
            rw [show ((0 : Nat) : Int) - 1 = -1 from rfl]
            rw [List.drop_zero] at hown
            obtain ⟨am, capm, rfl, hrm⟩ := RdC.of_own hown
            rw [List.length_reverse, HL.out] at hrm ⊢
            have hb4 := hid (HBel.out.trans (hbel.mono HBel.out.size))
            have hrl := hid (HRD.out.below hbel)
            have hrm := hid hrm
            obtain ⟨X, hX⟩ : ∃ X, X = s1 ps := ⟨_, rfl⟩
            obtain ⟨Y, hY⟩ : ∃ Y, Y = s2 ps := ⟨_, rfl⟩
            have sm := HU.out.sum
            rw [HL.out, ← hX, ← hY] at sm
            have gj : j * 2 ^ 40 ≤ 30 * 2 ^ 40 := Nat.mul_le_mul_right _ hj
            have bX : X.natAbs < 2 ^ 53 ∧ Y.natAbs < 2 ^ 53 := by omega
            have BX := hid bX
            have AL := hid (fun (w : World) (h : Below wr.heap.size wr w) => add_to ao j cap ps w (hrl.out.below h) (by omega) HU.out X Y hX.symm hY.symm)
            have AM := hid (fun (w : World) (h : Below wr.heap.size wr w) => add_to am j capm ps.reverse w (hrm.out.below h) (by omega) HU.out.reverse X Y (by rw [s1_reverse, hX]) (by rw [s2_reverse, hY]))
            have HX := hid (And.intro hX hY)
            clear hown hbel sm gj bX hX hY
            rcases (show at_ < 0 ∨ (¬ at_ < 0 ∧ (j : Int) < at_) ∨ ∃ p : Nat, at_ = p ∧ p ≤ j from by
              rcases (show at_ < 0 ∨ 0 ≤ at_ by omega) with h | h
              · exact .inl h
              · by_cases h2 : (j : Int) < at_
                · exact .inr (.inl ⟨by omega, h2⟩)
                · exact .inr (.inr ⟨at_.toNat, by omega, by omega⟩)) with a1 | ⟨a1, a2⟩ | ⟨p, rfl, a1⟩
            · go_wp2_with fail
              refine (AL.out wr (Below.refl _ _)).mono ?_
              rintro e w' ⟨⟨z1, z2, rfl⟩, rfl⟩
              go_wp2_with fail
              refine (AM.out wr (Below.refl _ _)).mono ?_
              rintro e w' ⟨⟨z3, z4, rfl⟩, rfl⟩
              have q1 := fun t w => cx_eql (P := Try.prog) z1 z2 z3 z4 X Y X Y BX.out.1 BX.out.2 BX.out.1 BX.out.2 t w
              go_wp2_with fail
              go_ret
              exact ⟨by simp, hb4.out⟩
            · go_wp2_with fail
              refine (AL.out wr (Below.refl _ _)).mono ?_
              rintro e w' ⟨⟨z1, z2, rfl⟩, rfl⟩
              go_wp2_with fail
              refine (AM.out wr (Below.refl _ _)).mono ?_
              rintro e w' ⟨⟨z3, z4, rfl⟩, rfl⟩
              have q1 := fun t w => cx_eql (P := Try.prog) z1 z2 z3 z4 X Y X Y BX.out.1 BX.out.2 BX.out.1 BX.out.2 t w
              go_wp2_with fail
              go_ret
              exact ⟨by simp, hb4.out⟩
            · go_wp2_with fail
              have A1 := hid (fun (w : World) (h : Below wr.heap.size wr w) => add_to ao p cap (ps.take p) w ((hrl.out.below h).upto a1) (by omega) (HU.out.take p) (s1 (ps.take p)) (s2 (ps.take p)) rfl rfl)
              have A2 := hid (fun (w : World) (h : Below wr.heap.size wr w) => add_to (cutAt ao p cap) (j - p) (cap - p) (ps.drop p) w ((hrl.out.below h).cut p a1) (by omega) (HU.out.drop p) (s1 (ps.drop p)) (s2 (ps.drop p)) rfl rfl)
              have T2 := hid (sum_two ps p X Y HX.out.1 HX.out.2)
              have U2 := hid (upto_two ps p HU3.out (by have := HL.out; omega))
              refine wp_region_below (by kernel_rfl) [Is (.slice ao j cap), IsC X Y, Is (.slice am j capm), IsC X Y, Is (.bool true), Is (.bool true), Is (.slice ao j cap), Is (.int .i64 p), Is (.slice ao p cap), IsC (s1 (ps.take p)) (s2 (ps.take p)), Is (.slice ao j cap), Is (.int .i64 p), Is (.slice (cutAt ao p cap) (j - p) (cap - p)), IsC (s1 (ps.drop p)) (s2 (ps.drop p)), IsRdC [(s1 (ps.take p), s2 (ps.take p)), (s1 (ps.drop p), s2 (ps.drop p))], IsC X Y, Is (.slice ao j cap), IsC X Y, Is (.bool true), Is (.bool true), Is (.bool true), IsC 0 0, Is (.bool true), Is (.bool true), Is (.bool true)] [0, 1, 2, 3, 4, 5, 6, 7, 8, 9, 10, 11, 12, 13, 14, 15, 16, 17, 18, 19, 20, 21, 22, 23, 24] rfl (by kernel_rfl) rfl ?hopB ?hstB ?hendB
              case hopB =>
                refine ⟨⟨⟨_, _, _, _, _, _⟩, _, Is (.slice ao j cap), none, [], [(8, .slice ao j cap)], rfl, rfl, rfl, rfl, rfl, ⟨⟨by kernel_rfl, rfl⟩, trivial⟩, ?_⟩, ?_⟩
                · intro a w1 hC e8
                  refine Or.inl ⟨.slice ao j cap, ?_, rfl⟩
                  go_simp
                refine ⟨⟨⟨_, _, _, _, _, _⟩, _, IsC X Y, none, [(some 72, Is (.slice ao j cap))], [], rfl, rfl, rfl, rfl, rfl, trivial, ?_⟩, ?_⟩
                · intro a w1 hC  (h0 : a.tmps.getD 72 undef = _)
                  refine Or.inr (Or.inl ⟨13, #[.slice ao j cap], ?_, ?_⟩)
                  · go_simp
                  · refine (AL.out w1 hC).mono ?_
                    rintro e w2 ⟨⟨z, z', rfl⟩, rfl⟩
                    exact ⟨_, rfl, ⟨z, z', rfl⟩, Below.refl _ _⟩
                refine ⟨⟨⟨_, _, _, _, _, _⟩, _, Is (.slice am j capm), none, [], [(9, .slice am j capm)], rfl, rfl, rfl, rfl, rfl, ⟨⟨by kernel_rfl, rfl⟩, trivial⟩, ?_⟩, ?_⟩
                · intro a w1 hC e9
                  refine Or.inl ⟨.slice am j capm, ?_, rfl⟩
                  go_simp
                refine ⟨⟨⟨_, _, _, _, _, _⟩, _, IsC X Y, none, [(some 74, Is (.slice am j capm)), (some 73, IsC X Y)], [], rfl, rfl, rfl, rfl, rfl, trivial, ?_⟩, ?_⟩
                · intro a w1 hC  (h2 : a.tmps.getD 74 undef = _) h1
                  refine Or.inr (Or.inl ⟨13, #[.slice am j capm], ?_, ?_⟩)
                  · go_simp
                  · refine (AM.out w1 hC).mono ?_
                    rintro e w2 ⟨⟨z, z', rfl⟩, rfl⟩
                    exact ⟨_, rfl, ⟨z, z', rfl⟩, Below.refl _ _⟩
                refine ⟨⟨⟨_, _, _, _, _, _⟩, _, Is (.bool true), none, [(some 73, IsC X Y), (some 75, IsC X Y)], [], rfl, rfl, rfl, rfl, rfl, trivial, ?_⟩, ?_⟩
                · intro a w1 hC  h1 h3
                  obtain ⟨z1, z2, e1⟩ := h1
                  obtain ⟨z3, z4, e2⟩ := h3
                  have e1 : a.tmps.getD 73 undef = _ := e1
                  have e2 : a.tmps.getD 75 undef = _ := e2
                  have q1 := fun t w => cx_eql (P := Try.prog) z1 z2 z3 z4 X Y X Y BX.out.1 BX.out.2 BX.out.1 BX.out.2 t w
                  refine Or.inl ⟨.bool true, ?_, rfl⟩
                  rw [Array.getD_eq_getD_getElem?] at e1 e2
                  go_simp
                refine ⟨⟨⟨_, _, _, _, _, _⟩, _, Is (.bool true), none, [(some 76, Is (.bool true)), (some 75, IsC X Y)], [], rfl, rfl, rfl, rfl, rfl, trivial, ?_⟩, ?_⟩
                · intro a w1 hC  (h4 : a.tmps.getD 76 undef = _) h3
                  refine Or.inl ⟨.bool true, ?_, rfl⟩
                  go_simp
                refine ⟨⟨⟨_, _, _, _, _, _⟩, _, Is (.slice ao j cap), (some (some 77, true)), [(some 77, Is (.bool true))], [(8, .slice ao j cap)], rfl, rfl, rfl, rfl, rfl, ⟨⟨by kernel_rfl, rfl⟩, trivial⟩, ?_⟩, ?_⟩
                · intro a w1 hC e8 (h5 : a.tmps.getD 77 undef = _)
                  refine Or.inl ⟨h5, ?_⟩
                  refine Or.inl ⟨.slice ao j cap, ?_, rfl⟩
                  go_simp
                refine ⟨⟨⟨_, _, _, _, _, _⟩, _, Is (.int .i64 p), (some (some 77, true)), [(some 77, Is (.bool true))], [(2, .int .i64 p)], rfl, rfl, rfl, rfl, rfl, ⟨⟨by kernel_rfl, rfl⟩, trivial⟩, ?_⟩, ?_⟩
                · intro a w1 hC e2 (h5 : a.tmps.getD 77 undef = _)
                  refine Or.inl ⟨h5, ?_⟩
                  refine Or.inl ⟨.int .i64 p, ?_, rfl⟩
                  go_simp
                refine ⟨⟨⟨_, _, _, _, _, _⟩, _, Is (.slice ao p cap), (some (some 77, true)), [(some 78, Is (.slice ao j cap)), (some 79, Is (.int .i64 p)), (some 77, Is (.bool true))], [], rfl, rfl, rfl, rfl, rfl, trivial, ?_⟩, ?_⟩
                · intro a w1 hC  (h6 : a.tmps.getD 78 undef = _) (h7 : a.tmps.getD 79 undef = _) (h5 : a.tmps.getD 77 undef = _)
                  refine Or.inl ⟨h5, ?_⟩
                  have hq := run_cut_h 24 elem_c size_c ao j cap (p : Int) p rfl (by omega)
                  refine Or.inl ⟨.slice ao p cap, ?_, rfl⟩
                  go_simp
                refine ⟨⟨⟨_, _, _, _, _, _⟩, _, IsC (s1 (ps.take p)) (s2 (ps.take p)), (some (some 77, true)), [(some 80, Is (.slice ao p cap)), (some 77, Is (.bool true)), (some 77, Is (.bool true))], [], rfl, rfl, rfl, rfl, rfl, trivial, ?_⟩, ?_⟩
                · intro a w1 hC  (h8 : a.tmps.getD 80 undef = _) (h5 : a.tmps.getD 77 undef = _) _
                  refine Or.inl ⟨h5, ?_⟩
                  refine Or.inr (Or.inl ⟨13, #[.slice ao p cap], ?_, ?_⟩)
                  · go_simp
                  · refine (A1.out w1 hC).mono ?_
                    rintro e w2 ⟨⟨z, z', rfl⟩, rfl⟩
                    exact ⟨_, rfl, ⟨z, z', rfl⟩, Below.refl _ _⟩
                refine ⟨⟨⟨_, _, _, _, _, _⟩, _, Is (.slice ao j cap), (some (some 77, true)), [(some 77, Is (.bool true))], [(8, .slice ao j cap)], rfl, rfl, rfl, rfl, rfl, ⟨⟨by kernel_rfl, rfl⟩, trivial⟩, ?_⟩, ?_⟩
                · intro a w1 hC e8 (h5 : a.tmps.getD 77 undef = _)
                  refine Or.inl ⟨h5, ?_⟩
                  refine Or.inl ⟨.slice ao j cap, ?_, rfl⟩
                  go_simp
                refine ⟨⟨⟨_, _, _, _, _, _⟩, _, Is (.int .i64 p), (some (some 77, true)), [(some 77, Is (.bool true))], [(2, .int .i64 p)], rfl, rfl, rfl, rfl, rfl, ⟨⟨by kernel_rfl, rfl⟩, trivial⟩, ?_⟩, ?_⟩
                · intro a w1 hC e2 (h5 : a.tmps.getD 77 undef = _)
                  refine Or.inl ⟨h5, ?_⟩
                  refine Or.inl ⟨.int .i64 p, ?_, rfl⟩
                  go_simp
                refine ⟨⟨⟨_, _, _, _, _, _⟩, _, Is (.slice (cutAt ao p cap) (j - p) (cap - p)), (some (some 77, true)), [(some 82, Is (.slice ao j cap)), (some 83, Is (.int .i64 p)), (some 77, Is (.bool true))], [], rfl, rfl, rfl, rfl, rfl, trivial, ?_⟩, ?_⟩
                · intro a w1 hC  (h10 : a.tmps.getD 82 undef = _) (h11 : a.tmps.getD 83 undef = _) (h5 : a.tmps.getD 77 undef = _)
                  refine Or.inl ⟨h5, ?_⟩
                  have hq := run_cut_l 24 elem_c size_c ao j cap (p : Int) p rfl (by omega)
                  refine Or.inl ⟨.slice (cutAt ao p cap) (j - p) (cap - p), ?_, rfl⟩
                  go_simp
                refine ⟨⟨⟨_, _, _, _, _, _⟩, _, IsC (s1 (ps.drop p)) (s2 (ps.drop p)), (some (some 77, true)), [(some 84, Is (.slice (cutAt ao p cap) (j - p) (cap - p))), (some 81, IsC (s1 (ps.take p)) (s2 (ps.take p))), (some 77, Is (.bool true))], [], rfl, rfl, rfl, rfl, rfl, trivial, ?_⟩, ?_⟩
                · intro a w1 hC  (h12 : a.tmps.getD 84 undef = _) h9 (h5 : a.tmps.getD 77 undef = _)
                  refine Or.inl ⟨h5, ?_⟩
                  refine Or.inr (Or.inl ⟨13, #[.slice (cutAt ao p cap) (j - p) (cap - p)], ?_, ?_⟩)
                  · go_simp
                  · refine (A2.out w1 hC).mono ?_
                    rintro e w2 ⟨⟨z, z', rfl⟩, rfl⟩
                    exact ⟨_, rfl, ⟨z, z', rfl⟩, Below.refl _ _⟩
                refine ⟨⟨⟨_, _, _, _, _, _⟩, _, IsRdC [(s1 (ps.take p), s2 (ps.take p)), (s1 (ps.drop p), s2 (ps.drop p))], (some (some 77, true)), [(some 81, IsC (s1 (ps.take p)) (s2 (ps.take p))), (some 85, IsC (s1 (ps.drop p)) (s2 (ps.drop p))), (some 77, Is (.bool true))], [], rfl, rfl, rfl, rfl, rfl, trivial, ?_⟩, ?_⟩
                · intro a w1 hC  h9 h13 (h5 : a.tmps.getD 77 undef = _)
                  refine Or.inl ⟨h5, ?_⟩
                  obtain ⟨z1, z2, e1⟩ := h9
                  obtain ⟨z3, z4, e2⟩ := h13
                  have e1 : a.tmps.getD 81 undef = _ := e1
                  have e2 : a.tmps.getD 85 undef = _ := e2
                  refine Or.inr (Or.inr ⟨.slice (some ⟨w1.heap.size, 0, none⟩) 2 2, w1.alloc (.cells #[cx z1 z2 (s1 (ps.take p)) (s2 (ps.take p)), cx z3 z4 (s1 (ps.drop p)) (s2 (ps.drop p))] 26), ?_, ⟨_, _, rfl, RdC.of_list _ _ [(s1 (ps.take p), s2 (ps.take p)), (s1 (ps.drop p), s2 (ps.drop p))] (by unfold maxLen; simp) ?_⟩, (Below.refl _ _).alloc (Nat.le_refl _) _⟩)
                  · rw [Array.getD_eq_getD_getElem?] at e1 e2
                    go_simp
                  · intro i hi
                    rcases (show i = 0 ∨ i = 1 by simp at hi; omega) with rfl | rfl
                    · exact ⟨z1, z2, by simp [World.cell?_alloc_at]⟩
                    · exact ⟨z3, z4, by simp [World.cell?_alloc_at]⟩
                refine ⟨⟨⟨_, _, _, _, _, _⟩, _, IsC X Y, (some (some 77, true)), [(some 86, IsRdC [(s1 (ps.take p), s2 (ps.take p)), (s1 (ps.drop p), s2 (ps.drop p))]), (some 85, IsC (s1 (ps.drop p)) (s2 (ps.drop p))), (some 77, Is (.bool true))], [], rfl, rfl, rfl, rfl, rfl, trivial, ?_⟩, ?_⟩
                · intro a w1 hC  h14 h13 (h5 : a.tmps.getD 77 undef = _)
                  refine Or.inl ⟨h5, ?_⟩
                  obtain ⟨ao1, cap1, e14, hrd1⟩ := h14
                  have e14 : a.tmps.getD 86 undef = _ := e14
                  refine Or.inr (Or.inl ⟨13, #[.slice ao1 2 cap1], ?_, ?_⟩)
                  · go_simp
                  · refine (add_to ao1 2 cap1 [(s1 (ps.take p), s2 (ps.take p)), (s1 (ps.drop p), s2 (ps.drop p))] w1 hrd1 (by decide) U2.out X Y T2.out.1 T2.out.2).mono ?_
                    rintro e w2 ⟨⟨z, z', rfl⟩, rfl⟩
                    exact ⟨_, rfl, ⟨z, z', rfl⟩, Below.refl _ _⟩
                refine ⟨⟨⟨_, _, _, _, _, _⟩, _, Is (.slice ao j cap), (some (some 77, true)), [(some 77, Is (.bool true))], [(8, .slice ao j cap)], rfl, rfl, rfl, rfl, rfl, ⟨⟨by kernel_rfl, rfl⟩, trivial⟩, ?_⟩, ?_⟩
                · intro a w1 hC e8 (h5 : a.tmps.getD 77 undef = _)
                  refine Or.inl ⟨h5, ?_⟩
                  refine Or.inl ⟨.slice ao j cap, ?_, rfl⟩
                  go_simp
                refine ⟨⟨⟨_, _, _, _, _, _⟩, _, IsC X Y, (some (some 77, true)), [(some 88, Is (.slice ao j cap)), (some 87, IsC X Y), (some 77, Is (.bool true))], [], rfl, rfl, rfl, rfl, rfl, trivial, ?_⟩, ?_⟩
                · intro a w1 hC  (h16 : a.tmps.getD 88 undef = _) h15 (h5 : a.tmps.getD 77 undef = _)
                  refine Or.inl ⟨h5, ?_⟩
                  refine Or.inr (Or.inl ⟨13, #[.slice ao j cap], ?_, ?_⟩)
                  · go_simp
                  · refine (AL.out w1 hC).mono ?_
                    rintro e w2 ⟨⟨z, z', rfl⟩, rfl⟩
                    exact ⟨_, rfl, ⟨z, z', rfl⟩, Below.refl _ _⟩
                refine ⟨⟨⟨_, _, _, _, _, _⟩, _, Is (.bool true), (some (some 77, true)), [(some 87, IsC X Y), (some 89, IsC X Y), (some 77, Is (.bool true))], [], rfl, rfl, rfl, rfl, rfl, trivial, ?_⟩, ?_⟩
                · intro a w1 hC  h15 h17 (h5 : a.tmps.getD 77 undef = _)
                  refine Or.inl ⟨h5, ?_⟩
                  obtain ⟨z1, z2, e1⟩ := h15
                  obtain ⟨z3, z4, e2⟩ := h17
                  have e1 : a.tmps.getD 87 undef = _ := e1
                  have e2 : a.tmps.getD 89 undef = _ := e2
                  have q1 := fun t w => cx_eql (P := Try.prog) z1 z2 z3 z4 X Y X Y BX.out.1 BX.out.2 BX.out.1 BX.out.2 t w
                  refine Or.inl ⟨.bool true, ?_, rfl⟩
                  rw [Array.getD_eq_getD_getElem?] at e1 e2
                  go_simp
                refine ⟨⟨⟨_, _, _, _, _, _⟩, _, Is (.bool true), none, [(some 77, Is (.bool true)), (some 90, Is (.bool true))], [], rfl, rfl, rfl, rfl, rfl, trivial, ?_⟩, ?_⟩
                · intro a w1 hC  (h5 : a.tmps.getD 77 undef = _) (h18 : a.tmps.getD 90 undef = _)
                  refine Or.inl ⟨.bool true, ?_, rfl⟩
                  go_simp
                refine ⟨⟨⟨_, _, _, _, _, _⟩, _, Is (.bool true), none, [(some 91, Is (.bool true)), (some 89, IsC X Y)], [], rfl, rfl, rfl, rfl, rfl, trivial, ?_⟩, ?_⟩
                · intro a w1 hC  (h19 : a.tmps.getD 91 undef = _) h17
                  refine Or.inl ⟨.bool true, ?_, rfl⟩
                  go_simp
                refine ⟨⟨⟨_, _, _, _, _, _⟩, _, IsC 0 0, (some (some 92, true)), [(some 92, Is (.bool true)), (some 92, Is (.bool true))], [], rfl, rfl, rfl, rfl, rfl, trivial, ?_⟩, ?_⟩
                · intro a w1 hC  (h20 : a.tmps.getD 92 undef = _) _
                  refine Or.inl ⟨h20, ?_⟩
                  refine Or.inr (Or.inl ⟨13, #[.slice none 0 0], ?_, ?_⟩)
                  · go_simp
                  · refine (add_to none 0 0 [] w1 ⟨rfl, Nat.le_refl _, Nat.zero_le _, fun _ => rfl, fun _ h => by cases h⟩ (by decide) (fun _ h => by cases h) 0 0 rfl rfl).mono ?_
                    rintro e w2 ⟨⟨z, z', rfl⟩, rfl⟩
                    exact ⟨_, rfl, ⟨z, z', rfl⟩, Below.refl _ _⟩
                refine ⟨⟨⟨_, _, _, _, _, _⟩, _, Is (.bool true), (some (some 92, true)), [(some 93, IsC 0 0), (some 92, Is (.bool true))], [], rfl, rfl, rfl, rfl, rfl, trivial, ?_⟩, ?_⟩
                · intro a w1 hC  h21 (h20 : a.tmps.getD 92 undef = _)
                  refine Or.inl ⟨h20, ?_⟩
                  obtain ⟨z1, z2, e1⟩ := h21
                  have e1 : a.tmps.getD 93 undef = _ := e1
                  have q1 := fun t w => cx_eql (P := Try.prog) z1 z2 false false 0 0 0 0 (by decide) (by decide) (by decide) (by decide) t w
                  rw [fw_0] at q1
                  refine Or.inl ⟨.bool true, ?_, rfl⟩
                  rw [Array.getD_eq_getD_getElem?] at e1
                  go_simp
                refine ⟨⟨⟨_, _, _, _, _, _⟩, _, Is (.bool true), none, [(some 92, Is (.bool true)), (some 94, Is (.bool true))], [], rfl, rfl, rfl, rfl, rfl, trivial, ?_⟩, ?_⟩
                · intro a w1 hC  (h20 : a.tmps.getD 92 undef = _) (h22 : a.tmps.getD 94 undef = _)
                  refine Or.inl ⟨.bool true, ?_, rfl⟩
                  go_simp
                refine ⟨⟨⟨_, _, _, _, _, _⟩, _, Is (.bool true), none, [(some 95, Is (.bool true)), (some 93, IsC 0 0), (some 72, Is (.slice ao j cap)), (some 73, IsC X Y), (some 74, Is (.slice am j capm)), (some 75, IsC X Y), (some 76, Is (.bool true)), (some 77, Is (.bool true)), (some 78, Is (.slice ao j cap)), (some 79, Is (.int .i64 p)), (some 80, Is (.slice ao p cap)), (some 81, IsC (s1 (ps.take p)) (s2 (ps.take p))), (some 82, Is (.slice ao j cap)), (some 83, Is (.int .i64 p)), (some 84, Is (.slice (cutAt ao p cap) (j - p) (cap - p))), (some 85, IsC (s1 (ps.drop p)) (s2 (ps.drop p))), (some 86, IsRdC [(s1 (ps.take p), s2 (ps.take p)), (s1 (ps.drop p), s2 (ps.drop p))]), (some 87, IsC X Y), (some 88, Is (.slice ao j cap)), (some 89, IsC X Y), (some 90, Is (.bool true)), (some 91, Is (.bool true)), (some 92, Is (.bool true)), (some 93, IsC 0 0), (some 94, Is (.bool true)), (some 95, Is (.bool true))], [], rfl, rfl, rfl, rfl, rfl, trivial, ?_⟩, ?_⟩
                · intro a w1 hC  (h23 : a.tmps.getD 95 undef = _) h21 (h0 : a.tmps.getD 72 undef = _) h1 (h2 : a.tmps.getD 74 undef = _) h3 (h4 : a.tmps.getD 76 undef = _) (h5 : a.tmps.getD 77 undef = _) (h6 : a.tmps.getD 78 undef = _) (h7 : a.tmps.getD 79 undef = _) (h8 : a.tmps.getD 80 undef = _) h9 (h10 : a.tmps.getD 82 undef = _) (h11 : a.tmps.getD 83 undef = _) (h12 : a.tmps.getD 84 undef = _) h13 h14 h15 (h16 : a.tmps.getD 88 undef = _) h17 (h18 : a.tmps.getD 90 undef = _) (h19 : a.tmps.getD 91 undef = _) (h20 : a.tmps.getD 92 undef = _) _ (h22 : a.tmps.getD 94 undef = _) _
                  refine Or.inl ⟨.bool true, ?_, rfl⟩
                  go_simp
                exact trivial
              case hstB => exact ⟨Stays.is _, Stays.c _ _, Stays.is _, Stays.c _ _, Stays.is _, Stays.is _, Stays.is _, Stays.is _, Stays.is _, Stays.c _ _, Stays.is _, Stays.is _, Stays.is _, Stays.c _ _, Stays.rdc _, Stays.c _ _, Stays.is _, Stays.c _ _, Stays.is _, Stays.is _, Stays.is _, Stays.c _ _, Stays.is _, Stays.is _, Stays.is _, trivial⟩
              case hendB =>
                intro w1 hC
                rintro _ rfl
                intro x1 h1
                rintro _ rfl
                intro x3 h3
                rintro _ rfl
                rintro _ rfl
                rintro _ rfl
                rintro _ rfl
                rintro _ rfl
                intro x9 h9
                rintro _ rfl
                rintro _ rfl
                rintro _ rfl
                intro x13 h13
                intro x14 h14
                intro x15 h15
                rintro _ rfl
                intro x17 h17
                rintro _ rfl
                rintro _ rfl
                rintro _ rfl
                intro x21 h21
                rintro _ rfl
                rintro _ rfl
                rintro _ rfl
                simp only [Ends, Act.put, List.setIfInBounds_toArray, List.set_cons_succ, List.set_cons_zero]
                go_wp2_with fail
                go_ret
                exact ⟨by simp, hb4.out.trans (hC.mono hb4.out.size)⟩
end Go.Proofs.Ytepdamfnmlfloaa
