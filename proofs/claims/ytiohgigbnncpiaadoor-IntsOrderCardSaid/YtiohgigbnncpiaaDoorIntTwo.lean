/- Two of ints: what it answers. -/
import Derived.Test.YtiohgigbnncpiaaDoorIntDivS
import Derived.Test.YtiohgigbnncpiaaDoorIntCalc
import Derived.Test.YtiohgigbnncpiaaDoorTrio
namespace Go.Proofs.YtiohgigbnncpiaaDoor
open Go.RowKit

/-- What divide answers of values of one kind. -/
def divS (b k n m x y : Int) : Int × Int × Int :=
  if m = 0 then (0, 0, 2)
  else if b = 109 then (if n = (if k = 1 then -2147483648 else -9223372036854775808) ∧ m = -1 then (0, 0, 3) else (k, sg k (wrap64 (n.tdiv m)), 0))
  else if b = 110 then (k, sg k (wrap64 (x / y)), 0)
  else if b = 111 then (k, sg k (n.tmod m), 0)
  else (k, sg k (wrap64 (x % y)), 0)

/-- The bounds of a value's bits, as a number from 0. -/
theorem un_in (k n : Int) : 0 ≤ un k n ∧ un k n ≤ 18446744073709551615 := by unfold un; split <;> omega
theorem un_pos (k n : Int) (hk : k = 1 ∨ k = 2) (ho : okv k n = true) (hn : -9223372036854775808 ≤ n ∧ n ≤ 9223372036854775807) : (n = 0 ↔ un k n = 0) := by
  unfold okv at ho
  unfold un
  rcases hk with rfl | rfl
  · simp at ho
    simp
    omega
  · simp
    omega

theorem divide_to (b k n m k' n' t : Int) (hb : b = 109 ∨ b = 110 ∨ b = 111 ∨ b = 112) (hk : k = 1 ∨ k = 2) (hom : okv k m = true) (hn : -9223372036854775808 ≤ n ∧ n ≤ 9223372036854775807) (hm : -9223372036854775808 ≤ m ∧ m ≤ 9223372036854775807)
    (h : divS b k n m (un k n) (un k m) = (k', n', t)) (w : World) :
    Calls Tryd.prog 41 #[.int .i64 b, av k n, av k m] w fun e w' => e = .returned (.tuple #[av k' n', .int .i64 t]) ∧ Below w.heap.size w w' := by
  have z := un_pos k m hk hom hm
  obtain ⟨u0, u1⟩ := un_in k n
  obtain ⟨v0, v1⟩ := un_in k m
  unfold divS at h
  by_cases hm0 : m = 0
  · subst hm0
    rw [if_pos rfl] at h
    cases h
    exact divide_zero b k n w
  · rw [if_neg hm0] at h
    have hy0 : 0 < un k m := by
      rcases Int.lt_or_eq_of_le v0 with h' | h'
      · exact h'
      · exact absurd (z.2 h'.symm) hm0
    rcases hb with rfl | rfl | rfl | rfl
    · rw [if_pos rfl] at h
      by_cases ho : n = (if k = 1 then -2147483648 else -9223372036854775808) ∧ m = -1
      · rw [if_pos ho] at h
        cases h
        obtain ⟨h1, rfl⟩ := ho
        rcases hk with rfl | rfl
        · simp only [if_true] at h1
          subst h1
          exact divide_o1 w
        · simp at h1
          subst h1
          exact divide_o2 w
      · rw [if_neg ho] at h
        cases h
        rcases hk with rfl | rfl
        · exact divide_s1 n m hm0 (by simpa using ho) w
        · exact divide_s2 n m hm0 (by simpa using ho) w
    · rw [if_neg (by decide), if_pos rfl] at h
      cases h
      exact divide_u k n m _ _ hk rfl rfl hm0 hy0 v1 u0 u1 w
    · rw [if_neg (by decide), if_neg (by decide), if_pos rfl] at h
      cases h
      exact divide_rs k n m hk hm0 hn w
    · rw [if_neg (by decide), if_neg (by decide), if_neg (by decide)] at h
      cases h
      exact divide_ru k n m _ _ hk rfl rfl hm0 hy0 v1 u0 u1 w

/-- What Two answers of values of one kind k, b the instruction's number as I32's. -/
def midS (b k n m : Int) : Int × Int × Int :=
  if 70 ≤ b ∧ b ≤ 79 then (1, tr (cmpS b n m (un k n) (un k m)), 0)
  else if 109 ≤ b ∧ b ≤ 112 then divS b k n m (un k n) (un k m)
  else if 106 ≤ b ∧ b ≤ 120 then (k, sg k (calcS b n m (un k n) (if k = 1 then 32 else 64) (un k m % (if k = 1 then 32 else 64))), 0)
  else (0, 0, -1)

theorem two_bad1 (op c b k n k' m : Int) (hcls : cls op = (c, b)) (hn : -9223372036854775808 ≤ n ∧ n ≤ 9223372036854775807) (hm : -9223372036854775808 ≤ m ∧ m ≤ 9223372036854775807) (h1 : (k != c) = true) (w : World) :
    Calls Tryd.prog 17 #[.int .i64 op, av k n, av k' m] w fun e w' => e = .returned (.tuple #[av 0 0, .int .i64 (-1)]) ∧ Below w.heap.size w w' := by
  have Hcls := hid hcls
  have Hn := hid hn
  have Hm := hid hm
  clear hcls hn hm
  go_enter Tryd.func17, Tryd.ntmps17
  go_wp2_with fail
  refine (split_to _ _ _ Hcls.out _).mono ?_
  rintro e w' ⟨rfl, rfl⟩
  go_wp2_with fail
  go_returns
  exact ⟨rfl, Bl.alloc (Bl.alloc (Bl.alloc (Bl.refl _) _) _) _⟩

theorem two_bad2 (op c b n k' m : Int) (hcls : cls op = (c, b)) (hn : -9223372036854775808 ≤ n ∧ n ≤ 9223372036854775807) (hm : -9223372036854775808 ≤ m ∧ m ≤ 9223372036854775807) (h1 : (k' != c) = true) (w : World) :
    Calls Tryd.prog 17 #[.int .i64 op, av c n, av k' m] w fun e w' => e = .returned (.tuple #[av 0 0, .int .i64 (-1)]) ∧ Below w.heap.size w w' := by
  have Hcls := hid hcls
  have Hn := hid hn
  have Hm := hid hm
  clear hcls hn hm
  go_enter Tryd.func17, Tryd.ntmps17
  go_wp2_with fail
  refine (split_to _ _ _ Hcls.out _).mono ?_
  rintro e w' ⟨rfl, rfl⟩
  go_wp2_with fail
  go_returns
  exact ⟨rfl, Bl.alloc (Bl.alloc (Bl.alloc (Bl.refl _) _) _) _⟩

theorem two_bad3 (op c b n m : Int) (hcls : cls op = (c, b)) (hn : -9223372036854775808 ≤ n ∧ n ≤ 9223372036854775807) (hm : -9223372036854775808 ≤ m ∧ m ≤ 9223372036854775807) (h1 : okv c n = false) (w : World) :
    Calls Tryd.prog 17 #[.int .i64 op, av c n, av c m] w fun e w' => e = .returned (.tuple #[av 0 0, .int .i64 (-1)]) ∧ Below w.heap.size w w' := by
  have Hcls := hid hcls
  have Hn := hid hn
  have Hm := hid hm
  clear hcls hn hm
  go_enter Tryd.func17, Tryd.ntmps17
  go_wp2_with fail
  refine (split_to _ _ _ Hcls.out _).mono ?_
  rintro e w' ⟨rfl, rfl⟩
  go_wp2_with fail
  refine (may_any _ _ Hn.out _).mono ?_
  rintro e w1 ⟨rfl, b1⟩
  have T1 := hid (Trio.new b1)
  obtain ⟨⟨c0, c1⟩, ⟨d0, d1⟩, r0, r1, f0, f1⟩ := T1.out.facts
  clear b1
  go_wp2_with fail
  obtain ⟨⟨q0, q1⟩, q2⟩ := T1.out.done (.int .i64 0) (.int .i64 0)
  exact bodyPost_ret (v := .tuple #[av 0 0, .int .i64 (-1)]) (by simp [results, Tryd.results17, go_sem, q0, q1]) rfl ⟨rfl, q2⟩

theorem two_bad4 (op c b n m : Int) (hcls : cls op = (c, b)) (hn : -9223372036854775808 ≤ n ∧ n ≤ 9223372036854775807) (hm : -9223372036854775808 ≤ m ∧ m ≤ 9223372036854775807) (h1 : okv c n = true) (h2 : okv c m = false) (w : World) :
    Calls Tryd.prog 17 #[.int .i64 op, av c n, av c m] w fun e w' => e = .returned (.tuple #[av 0 0, .int .i64 (-1)]) ∧ Below w.heap.size w w' := by
  have Hcls := hid hcls
  have Hn := hid hn
  have Hm := hid hm
  clear hcls hn hm
  go_enter Tryd.func17, Tryd.ntmps17
  go_wp2_with fail
  refine (split_to _ _ _ Hcls.out _).mono ?_
  rintro e w' ⟨rfl, rfl⟩
  go_wp2_with fail
  refine (may_any _ _ Hn.out _).mono ?_
  rintro e w1 ⟨rfl, b1⟩
  have T1 := hid (Trio.new b1)
  obtain ⟨⟨c0, c1⟩, ⟨d0, d1⟩, r0, r1, f0, f1⟩ := T1.out.facts
  clear b1
  go_wp2_with fail
  refine (may_any _ _ Hm.out _).mono ?_
  rintro e w2 ⟨rfl, b2⟩
  have T2 := hid (T1.out.step b2)
  clear b2 c0 c1 d0 d1 r0 r1 f0 f1
  obtain ⟨⟨c0, c1⟩, ⟨d0, d1⟩, r0, r1, f0, f1⟩ := T2.out.facts
  go_wp2_with fail
  obtain ⟨⟨q0, q1⟩, q2⟩ := T2.out.done (.int .i64 0) (.int .i64 0)
  exact bodyPost_ret (v := .tuple #[av 0 0, .int .i64 (-1)]) (by simp [results, Tryd.results17, go_sem, q0, q1]) rfl ⟨rfl, q2⟩

set_option maxHeartbeats 400000 in
theorem two_cmp (op c b n m : Int) (hcls : cls op = (c, b)) (hn : -9223372036854775808 ≤ n ∧ n ≤ 9223372036854775807) (hm : -9223372036854775808 ≤ m ∧ m ≤ 9223372036854775807) (h1 : okv c n = true) (h2 : okv c m = true) (hb : 70 ≤ b ∧ b ≤ 79) (x y : Int) (hx : un c n = x) (hy : un c m = y) (w : World) :
    Calls Tryd.prog 17 #[.int .i64 op, av c n, av c m] w fun e w' => e = .returned (.tuple #[av 1 (tr (cmpS b n m x y)), .int .i64 0]) ∧ Below w.heap.size w w' := by
  have ec : (decide (70 ≤ b) && decide (b ≤ 79)) = true := by simp [hb]
  have Hx := hid hx
  have Hy := hid hy
  clear hb hx hy
  have Hcls := hid hcls
  have Hn := hid hn
  have Hm := hid hm
  clear hcls hn hm
  go_enter Tryd.func17, Tryd.ntmps17
  go_wp2_with fail
  refine (split_to _ _ _ Hcls.out _).mono ?_
  rintro e w' ⟨rfl, rfl⟩
  go_wp2_with fail
  refine (may_any _ _ Hn.out _).mono ?_
  rintro e w1 ⟨rfl, b1⟩
  have T1 := hid (Trio.new b1)
  obtain ⟨⟨c0, c1⟩, ⟨d0, d1⟩, r0, r1, f0, f1⟩ := T1.out.facts
  clear b1
  go_wp2_with fail
  refine (may_any _ _ Hm.out _).mono ?_
  rintro e w2 ⟨rfl, b2⟩
  have T2 := hid (T1.out.step b2)
  clear b2 c0 c1 d0 d1 r0 r1 f0 f1
  obtain ⟨⟨c0, c1⟩, ⟨d0, d1⟩, r0, r1, f0, f1⟩ := T2.out.facts
  go_wp2_with fail
  refine (isComparison_any _ _).mono ?_
  rintro e w' ⟨rfl, rfl⟩
  rw [ec]
  go_wp2_with fail
  refine (compare_to _ _ _ _ _ _ Hx.out Hy.out _).mono ?_
  rintro e w3 ⟨rfl, b3⟩
  have T3 := hid (T2.out.step b3)
  clear b3 c0 c1 d0 d1 r0 r1 f0 f1
  obtain ⟨⟨c0, c1⟩, ⟨d0, d1⟩, r0, r1, f0, f1⟩ := T3.out.facts
  go_wp2_with fail
  refine (truth_any _ _).mono ?_
  rintro e w4 ⟨rfl, b4⟩
  have T4 := hid (T3.out.step b4)
  clear b4 c0 c1 d0 d1 r0 r1 f0 f1
  obtain ⟨⟨c0, c1⟩, ⟨d0, d1⟩, r0, r1, f0, f1⟩ := T4.out.facts
  go_wp2_with fail
  obtain ⟨⟨q0, q1⟩, q2⟩ := T4.out.done (.int .i64 1) (.int .i64 (tr (cmpS b n m x y)))
  exact bodyPost_ret (v := .tuple #[av 1 (tr (cmpS b n m x y)), .int .i64 0]) (by simp [results, Tryd.results17, go_sem, q0, q1]) rfl ⟨rfl, q2⟩

set_option maxHeartbeats 400000 in
theorem two_div (op c b n m : Int) (hcls : cls op = (c, b)) (hn : -9223372036854775808 ≤ n ∧ n ≤ 9223372036854775807) (hm : -9223372036854775808 ≤ m ∧ m ≤ 9223372036854775807) (h1 : okv c n = true) (h2 : okv c m = true) (hb : b = 109 ∨ b = 110 ∨ b = 111 ∨ b = 112) (hk : c = 1 ∨ c = 2) (k' n' t : Int) (h : divS b c n m (un c n) (un c m) = (k', n', t)) (w : World) :
    Calls Tryd.prog 17 #[.int .i64 op, av c n, av c m] w fun e w' => e = .returned (.tuple #[av k' n', .int .i64 t]) ∧ Below w.heap.size w w' := by
  have ec : (decide (70 ≤ b) && decide (b ≤ 79)) = false := by simp; omega
  have e1 : decide (109 ≤ b) = true := by simp; omega
  have e2 : decide (b ≤ 112) = true := by simp; omega
  have H := hid h
  have Hk := hid hk
  have Hb := hid hb
  have H2 := hid h2
  clear hb h hk
  have Hcls := hid hcls
  have Hn := hid hn
  have Hm := hid hm
  clear hcls hn hm
  go_enter Tryd.func17, Tryd.ntmps17
  go_wp2_with fail
  refine (split_to _ _ _ Hcls.out _).mono ?_
  rintro e w' ⟨rfl, rfl⟩
  go_wp2_with fail
  refine (may_any _ _ Hn.out _).mono ?_
  rintro e w1 ⟨rfl, b1⟩
  have T1 := hid (Trio.new b1)
  obtain ⟨⟨c0, c1⟩, ⟨d0, d1⟩, r0, r1, f0, f1⟩ := T1.out.facts
  clear b1
  go_wp2_with fail
  refine (may_any _ _ Hm.out _).mono ?_
  rintro e w2 ⟨rfl, b2⟩
  have T2 := hid (T1.out.step b2)
  clear b2 c0 c1 d0 d1 r0 r1 f0 f1
  obtain ⟨⟨c0, c1⟩, ⟨d0, d1⟩, r0, r1, f0, f1⟩ := T2.out.facts
  go_wp2_with fail
  refine (isComparison_any _ _).mono ?_
  rintro e w' ⟨rfl, rfl⟩
  rw [ec]
  go_wp2_with fail
  refine (divide_to _ _ _ _ _ _ _ Hb.out Hk.out H2.out Hn.out Hm.out H.out _).mono ?_
  rintro e w3 ⟨rfl, b3⟩
  have T3 := hid (T2.out.step b3)
  clear b3 c0 c1 d0 d1 r0 r1 f0 f1
  obtain ⟨⟨c0, c1⟩, ⟨d0, d1⟩, r0, r1, f0, f1⟩ := T3.out.facts
  go_wp2_with fail
  obtain ⟨⟨q0, q1⟩, q2⟩ := T3.out.done (.int .i64 k') (.int .i64 n')
  exact bodyPost_ret (v := .tuple #[av k' n', .int .i64 t]) (by simp [results, Tryd.results17, go_sem, q0, q1]) rfl ⟨rfl, q2⟩

theorem bits_i64_in (op : BinOp) (x y : Int) : -9223372036854775808 ≤ bits op IntKind.i64 x y ∧ bits op IntKind.i64 x y ≤ 9223372036854775807 := by
  unfold bits
  rw [IntKind.wrap_i64]
  omega
theorem calc_in (b n m x f s : Int) (hn : -9223372036854775808 ≤ n ∧ n ≤ 9223372036854775807) (_hs : 0 ≤ s ∧ s < f) : -9223372036854775808 ≤ calcS b n m x f s ∧ calcS b n m x f s ≤ 9223372036854775807 := by
  have hd : -9223372036854775808 ≤ n / 2 ^ s.toNat ∧ n / 2 ^ s.toNat ≤ 9223372036854775807 := by
    have hp : (1 : Int) ≤ 2 ^ s.toNat := by
      have := Nat.one_le_two_pow (n := s.toNat)
      exact_mod_cast this
    have h2 := Int.mul_ediv_add_emod n (2 ^ s.toNat)
    have h3 := Int.emod_nonneg n (show (2 : Int) ^ s.toNat ≠ 0 by omega)
    have h4 := Int.emod_lt_of_pos n (show (0 : Int) < 2 ^ s.toNat by omega)
    constructor
    · refine Int.le_ediv_of_mul_le (by omega) ?_
      have : (-9223372036854775808 : Int) * 2 ^ s.toNat ≤ -9223372036854775808 * 1 := Int.mul_le_mul_of_nonpos_left (by omega) (by omega)
      omega
    · by_cases h0 : 0 ≤ n
      · exact Int.le_trans (Int.ediv_le_self _ h0) hn.2
      · exact Int.le_trans (Int.le_of_lt (Int.ediv_neg_of_neg_of_pos (by omega) (by omega))) (by omega)
  unfold calcS
  repeat' split
  all_goals first | exact wrap64_in _ | exact bits_i64_in _ _ _ | exact hd

set_option maxHeartbeats 400000 in
theorem two_calc (op c b n m : Int) (hcls : cls op = (c, b)) (hn : -9223372036854775808 ≤ n ∧ n ≤ 9223372036854775807) (hm : -9223372036854775808 ≤ m ∧ m ≤ 9223372036854775807) (h1 : okv c n = true) (h2 : okv c m = true) (hb : 106 ≤ b ∧ b ≤ 120) (hb2 : b < 109 ∨ 112 < b) (hk : c = 1 ∨ c = 2) (f s : Int) (hf : (if c = 1 then 32 else 64) = f) (hs : un c m % f = s) (w : World) :
    Calls Tryd.prog 17 #[.int .i64 op, av c n, av c m] w fun e w' => e = .returned (.tuple #[av c (sg c (calcS b n m (un c n) f s)), .int .i64 0]) ∧ Below w.heap.size w w' := by
  have ec : (decide (70 ≤ b) && decide (b ≤ 79)) = false := by simp; omega
  have ea : (decide (106 ≤ b) && decide (b ≤ 120)) = true := by simp; omega
  obtain ⟨t1, e1⟩ : ∃ t, decide (109 ≤ b) = t := ⟨_, rfl⟩
  have e2 : t1 = true → decide (b ≤ 112) = false := by rintro rfl; simp at e1 ⊢; omega
  have hf1 : 0 < f ∧ f ≤ 64 := by rcases hk with rfl | rfl <;> simp at hf <;> omega
  have v := un_in c m
  have Hs0 : Hid (0 ≤ s ∧ s < f) := hid (by rw [← hs]; exact ⟨Int.emod_nonneg _ (by omega), Int.emod_lt_of_pos _ hf1.1⟩)
  have Hf1 := hid hf1
  have Hv := hid v
  have Hf := hid hf
  have Hs := hid hs
  have Hk := hid hk
  have Hr : Hid (-9223372036854775808 ≤ calcS b n m (un c n) f s ∧ calcS b n m (un c n) f s ≤ 9223372036854775807) := calc_in b n m _ f s hn Hs0.out
  clear hb hb2 hf1 v hf hs hk
  have Hcls := hid hcls
  have Hn := hid hn
  have Hm := hid hm
  clear hcls hn hm
  cases t1
  · clear e2
    go_enter Tryd.func17, Tryd.ntmps17
    go_wp2_with fail
    refine (split_to _ _ _ Hcls.out _).mono ?_
    rintro e w' ⟨rfl, rfl⟩
    go_wp2_with fail
    refine (may_any _ _ Hn.out _).mono ?_
    rintro e w1 ⟨rfl, b1⟩
    have T1 := hid (Trio.new b1)
    obtain ⟨⟨c0, c1⟩, ⟨d0, d1⟩, r0, r1, f0, f1⟩ := T1.out.facts
    clear b1
    go_wp2_with fail
    refine (may_any _ _ Hm.out _).mono ?_
    rintro e w2 ⟨rfl, b2⟩
    have T2 := hid (T1.out.step b2)
    clear b2 c0 c1 d0 d1 r0 r1 f0 f1
    obtain ⟨⟨c0, c1⟩, ⟨d0, d1⟩, r0, r1, f0, f1⟩ := T2.out.facts
    go_wp2_with fail
    refine (isComparison_any _ _).mono ?_
    rintro e w' ⟨rfl, rfl⟩
    rw [ec]
    go_wp2_with fail
    refine (isArithmetic_any _ _).mono ?_
    rintro e w' ⟨rfl, rfl⟩
    rw [ea]
    go_wp2_with fail
    refine (calculate_to _ _ _ _ _ _ _ _ rfl rfl Hf.out Hs.out Hv.out.1 Hv.out.2 Hs0.out.1 Hs0.out.2 Hf1.out.2 _).mono ?_
    rintro e w3 ⟨rfl, b3⟩
    have T3 := hid (T2.out.step b3)
    clear b3 c0 c1 d0 d1 r0 r1 f0 f1
    obtain ⟨⟨c0, c1⟩, ⟨d0, d1⟩, r0, r1, f0, f1⟩ := T3.out.facts
    go_wp2_with fail
    refine (wrap_any _ _ Hk.out Hr.out _).mono ?_
    rintro e w4 ⟨rfl, b4⟩
    have T4 := hid (T3.out.step b4)
    clear b4 c0 c1 d0 d1 r0 r1 f0 f1
    obtain ⟨⟨c0, c1⟩, ⟨d0, d1⟩, r0, r1, f0, f1⟩ := T4.out.facts
    go_wp2_with fail
    obtain ⟨⟨q0, q1⟩, q2⟩ := T4.out.done (.int .i64 c) (.int .i64 (sg c (calcS b n m (un c n) f s)))
    exact bodyPost_ret (v := .tuple #[av c (sg c (calcS b n m (un c n) f s)), .int .i64 0]) (by simp [results, Tryd.results17, go_sem, q0, q1]) rfl ⟨rfl, q2⟩
  · have e2 := e2 rfl
    go_enter Tryd.func17, Tryd.ntmps17
    go_wp2_with fail
    refine (split_to _ _ _ Hcls.out _).mono ?_
    rintro e w' ⟨rfl, rfl⟩
    go_wp2_with fail
    refine (may_any _ _ Hn.out _).mono ?_
    rintro e w1 ⟨rfl, b1⟩
    have T1 := hid (Trio.new b1)
    obtain ⟨⟨c0, c1⟩, ⟨d0, d1⟩, r0, r1, f0, f1⟩ := T1.out.facts
    clear b1
    go_wp2_with fail
    refine (may_any _ _ Hm.out _).mono ?_
    rintro e w2 ⟨rfl, b2⟩
    have T2 := hid (T1.out.step b2)
    clear b2 c0 c1 d0 d1 r0 r1 f0 f1
    obtain ⟨⟨c0, c1⟩, ⟨d0, d1⟩, r0, r1, f0, f1⟩ := T2.out.facts
    go_wp2_with fail
    refine (isComparison_any _ _).mono ?_
    rintro e w' ⟨rfl, rfl⟩
    rw [ec]
    go_wp2_with fail
    refine (isArithmetic_any _ _).mono ?_
    rintro e w' ⟨rfl, rfl⟩
    rw [ea]
    go_wp2_with fail
    refine (calculate_to _ _ _ _ _ _ _ _ rfl rfl Hf.out Hs.out Hv.out.1 Hv.out.2 Hs0.out.1 Hs0.out.2 Hf1.out.2 _).mono ?_
    rintro e w3 ⟨rfl, b3⟩
    have T3 := hid (T2.out.step b3)
    clear b3 c0 c1 d0 d1 r0 r1 f0 f1
    obtain ⟨⟨c0, c1⟩, ⟨d0, d1⟩, r0, r1, f0, f1⟩ := T3.out.facts
    go_wp2_with fail
    refine (wrap_any _ _ Hk.out Hr.out _).mono ?_
    rintro e w4 ⟨rfl, b4⟩
    have T4 := hid (T3.out.step b4)
    clear b4 c0 c1 d0 d1 r0 r1 f0 f1
    obtain ⟨⟨c0, c1⟩, ⟨d0, d1⟩, r0, r1, f0, f1⟩ := T4.out.facts
    go_wp2_with fail
    obtain ⟨⟨q0, q1⟩, q2⟩ := T4.out.done (.int .i64 c) (.int .i64 (sg c (calcS b n m (un c n) f s)))
    exact bodyPost_ret (v := .tuple #[av c (sg c (calcS b n m (un c n) f s)), .int .i64 0]) (by simp [results, Tryd.results17, go_sem, q0, q1]) rfl ⟨rfl, q2⟩

set_option maxHeartbeats 400000 in
theorem two_none (op c b n m : Int) (hcls : cls op = (c, b)) (hn : -9223372036854775808 ≤ n ∧ n ≤ 9223372036854775807) (hm : -9223372036854775808 ≤ m ∧ m ≤ 9223372036854775807) (h1 : okv c n = true) (h2 : okv c m = true) (hb : b < 70 ∨ 79 < b) (hb2 : b < 106 ∨ 120 < b) (w : World) :
    Calls Tryd.prog 17 #[.int .i64 op, av c n, av c m] w fun e w' => e = .returned (.tuple #[av 0 0, .int .i64 (-1)]) ∧ Below w.heap.size w w' := by
  have ec : (decide (70 ≤ b) && decide (b ≤ 79)) = false := by simp; omega
  have ea : (decide (106 ≤ b) && decide (b ≤ 120)) = false := by simp; omega
  obtain ⟨t1, e1⟩ : ∃ t, decide (109 ≤ b) = t := ⟨_, rfl⟩
  have e2 : t1 = true → decide (b ≤ 112) = false := by rintro rfl; simp at e1 ⊢; omega
  clear hb hb2
  have Hcls := hid hcls
  have Hn := hid hn
  have Hm := hid hm
  clear hcls hn hm
  cases t1
  · clear e2
    go_enter Tryd.func17, Tryd.ntmps17
    go_wp2_with fail
    refine (split_to _ _ _ Hcls.out _).mono ?_
    rintro e w' ⟨rfl, rfl⟩
    go_wp2_with fail
    refine (may_any _ _ Hn.out _).mono ?_
    rintro e w1 ⟨rfl, b1⟩
    have T1 := hid (Trio.new b1)
    obtain ⟨⟨c0, c1⟩, ⟨d0, d1⟩, r0, r1, f0, f1⟩ := T1.out.facts
    clear b1
    go_wp2_with fail
    refine (may_any _ _ Hm.out _).mono ?_
    rintro e w2 ⟨rfl, b2⟩
    have T2 := hid (T1.out.step b2)
    clear b2 c0 c1 d0 d1 r0 r1 f0 f1
    obtain ⟨⟨c0, c1⟩, ⟨d0, d1⟩, r0, r1, f0, f1⟩ := T2.out.facts
    go_wp2_with fail
    refine (isComparison_any _ _).mono ?_
    rintro e w' ⟨rfl, rfl⟩
    rw [ec]
    go_wp2_with fail
    refine (isArithmetic_any _ _).mono ?_
    rintro e w' ⟨rfl, rfl⟩
    rw [ea]
    go_wp2_with fail
    obtain ⟨⟨q0, q1⟩, q2⟩ := T2.out.done (.int .i64 0) (.int .i64 0)
    exact bodyPost_ret (v := .tuple #[av 0 0, .int .i64 (-1)]) (by simp [results, Tryd.results17, go_sem, q0, q1]) rfl ⟨rfl, q2⟩
  · have e2 := e2 rfl
    go_enter Tryd.func17, Tryd.ntmps17
    go_wp2_with fail
    refine (split_to _ _ _ Hcls.out _).mono ?_
    rintro e w' ⟨rfl, rfl⟩
    go_wp2_with fail
    refine (may_any _ _ Hn.out _).mono ?_
    rintro e w1 ⟨rfl, b1⟩
    have T1 := hid (Trio.new b1)
    obtain ⟨⟨c0, c1⟩, ⟨d0, d1⟩, r0, r1, f0, f1⟩ := T1.out.facts
    clear b1
    go_wp2_with fail
    refine (may_any _ _ Hm.out _).mono ?_
    rintro e w2 ⟨rfl, b2⟩
    have T2 := hid (T1.out.step b2)
    clear b2 c0 c1 d0 d1 r0 r1 f0 f1
    obtain ⟨⟨c0, c1⟩, ⟨d0, d1⟩, r0, r1, f0, f1⟩ := T2.out.facts
    go_wp2_with fail
    refine (isComparison_any _ _).mono ?_
    rintro e w' ⟨rfl, rfl⟩
    rw [ec]
    go_wp2_with fail
    refine (isArithmetic_any _ _).mono ?_
    rintro e w' ⟨rfl, rfl⟩
    rw [ea]
    go_wp2_with fail
    obtain ⟨⟨q0, q1⟩, q2⟩ := T2.out.done (.int .i64 0) (.int .i64 0)
    exact bodyPost_ret (v := .tuple #[av 0 0, .int .i64 (-1)]) (by simp [results, Tryd.results17, go_sem, q0, q1]) rfl ⟨rfl, q2⟩
end Go.Proofs.YtiohgigbnncpiaaDoor
