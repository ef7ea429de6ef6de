/- The reference's One: what it answers. -/
import Derived.Test.YtiohgigbnncpiaaDoorIntLaw
import Derived.Test.YtiohgigbnncpiaaDoorIntPc
import Derived.Test.YtiohgigbnncpiaaDoorIntKinds
namespace Go.Proofs.YtiohgigbnncpiaaDoor
open Go.RowKit

/-- One bit more of a number: its ones, its first and its last one. -/
theorem mod_snoc (u j : Nat) : u % 2 ^ (j + 1) = u % 2 ^ j + 2 ^ j * (u / 2 ^ j % 2) := by
  rw [Nat.pow_succ, Nat.mod_mul]
theorem len_snoc (u j : Nat) (hj : j < 64) (h : u / 2 ^ j % 2 = 1) : Lib.bitLen (u % 2 ^ (j + 1)) = j + 1 := by
  have e := mod_snoc u j
  rw [h, Nat.mul_one] at e
  have lt : u % 2 ^ j < 2 ^ j := Nat.mod_lt _ (Nat.two_pow_pos j)
  have h64 : u % 2 ^ (j + 1) < 2 ^ 64 := Nat.lt_of_lt_of_le (Nat.mod_lt _ (Nat.two_pow_pos _)) (Nat.pow_le_pow_right (by decide) (by omega))
  have s := Lib.bitLen_shift j (u % 2 ^ (j + 1)) (by omega) h64
  have d : u % 2 ^ (j + 1) / 2 ^ j = 1 := by
    rw [e]
    rw [Nat.add_div_right _ (Nat.two_pow_pos j), Nat.div_eq_of_lt lt]
  rw [d] at s
  rw [s]
  rfl
theorem ctz_first (u j : Nat) (hu : u < 18446744073709551616) (h0 : u % 2 ^ j = 0) (h : u / 2 ^ j % 2 = 1) : Lib.ctz 64 u = j := by
  have hu0 : u ≠ 0 := by
    rintro rfl
    simp at h
  obtain ⟨m, hm, hk⟩ := Lib.ctzFrom_spec 64 u (by omega) (by rw [show (2 : Nat) ^ 64 = 18446744073709551616 from by decide]; exact hu)
  have e : Lib.ctz 64 u = Lib.ctzFrom 64 u := by unfold Lib.ctz; rw [if_neg hu0]
  rw [e]
  obtain ⟨k, hkk⟩ : ∃ k, k = Lib.ctzFrom 64 u := ⟨_, rfl⟩
  rw [← hkk] at hm ⊢
  rcases Nat.lt_trichotomy k j with g | g | g
  · exfalso
    have hd : 2 ^ (k + 1) ∣ u := Nat.dvd_trans (Nat.pow_dvd_pow 2 g) (Nat.dvd_of_mod_eq_zero h0)
    obtain ⟨z, hz⟩ := hd
    rw [hm, Nat.pow_succ, Nat.mul_assoc] at hz
    have := Nat.eq_of_mul_eq_mul_left (Nat.two_pow_pos k) hz
    omega
  · exact g
  · exfalso
    have hd : u / 2 ^ j = 2 ^ (k - j) * (2 * m + 1) := by
      rw [hm, show k = j + (k - j) by omega, Nat.pow_add, Nat.mul_assoc, Nat.mul_div_cancel_left _ (Nat.two_pow_pos j)]
      congr 2
      omega
    rw [hd, show k - j = (k - j - 1) + 1 by omega, Nat.pow_succ, Nat.mul_assoc, Nat.mul_comm, Nat.mul_assoc] at h
    omega

set_option maxRecDepth 20000 in
theorem refOne_bad0 (op c b k n : Int) (hcls : cls op = (c, b)) (nk : Nat) (kk r : Int) (t : Bool) (hkd : kindsS b c = (nk, r, t)) (hkk : (if nk = 0 then 0 else c) = kk) (h0 : t = false) (w : World) :
    Calls Tryd.prog 16 #[.int .i64 op, av k n] w fun e w' => e = .returned (.tuple #[av 0 0, .bool false]) ∧ Below w.heap.size w w' := by
  have Hcls := hid hcls
  have Hkd := hid hkd
  have Hkk := hid hkk
  clear hcls hkd hkk
  subst h0
  go_enter Tryd.func16, Tryd.ntmps16
  go_wp2_with fail
  refine (class_to _ _ _ Hcls.out _).mono ?_
  rintro e w' ⟨rfl, rfl⟩
  go_wp2_with fail
  refine (refKinds_to _ _ _ _ _ _ _ Hcls.out Hkd.out Hkk.out _).mono ?_
  rintro e w' ⟨rfl, rfl⟩
  go_wp2_with fail
  go_returns
  exact ⟨rfl, Bl.alloc (Bl.alloc (Bl.refl _) _) _⟩

set_option maxRecDepth 20000 in
theorem refOne_bad5 (op c b k n : Int) (hcls : cls op = (c, b)) (nk : Nat) (kk r : Int) (t : Bool) (hkd : kindsS b c = (nk, r, t)) (hkk : (if nk = 0 then 0 else c) = kk) (h0 : t = true) (h5 : ((nk : Int) != 1) = true) (w : World) :
    Calls Tryd.prog 16 #[.int .i64 op, av k n] w fun e w' => e = .returned (.tuple #[av 0 0, .bool false]) ∧ Below w.heap.size w w' := by
  have Hcls := hid hcls
  have Hkd := hid hkd
  have Hkk := hid hkk
  clear hcls hkd hkk
  subst h0
  go_enter Tryd.func16, Tryd.ntmps16
  go_wp2_with fail
  refine (class_to _ _ _ Hcls.out _).mono ?_
  rintro e w' ⟨rfl, rfl⟩
  go_wp2_with fail
  refine (refKinds_to _ _ _ _ _ _ _ Hcls.out Hkd.out Hkk.out _).mono ?_
  rintro e w' ⟨rfl, rfl⟩
  go_wp2_with fail
  go_returns
  exact ⟨rfl, Bl.alloc (Bl.alloc (Bl.refl _) _) _⟩

set_option maxRecDepth 20000 in
theorem refOne_bad1 (op c b k n : Int) (hcls : cls op = (c, b)) (nk : Nat) (kk r : Int) (t : Bool) (hkd : kindsS b c = (nk, r, t)) (hkk : (if nk = 0 then 0 else c) = kk) (h0 : t = true) (h5 : ((nk : Int) != 1) = false) (h1 : (k != c) = true) (w : World) :
    Calls Tryd.prog 16 #[.int .i64 op, av k n] w fun e w' => e = .returned (.tuple #[av 0 0, .bool false]) ∧ Below w.heap.size w w' := by
  have Hcls := hid hcls
  have Hkd := hid hkd
  have Hkk := hid hkk
  clear hcls hkd hkk
  subst h0
  go_enter Tryd.func16, Tryd.ntmps16
  go_wp2_with fail
  refine (class_to _ _ _ Hcls.out _).mono ?_
  rintro e w' ⟨rfl, rfl⟩
  go_wp2_with fail
  refine (refKinds_to _ _ _ _ _ _ _ Hcls.out Hkd.out Hkk.out _).mono ?_
  rintro e w' ⟨rfl, rfl⟩
  go_wp2_with fail
  go_returns
  exact ⟨rfl, Bl.alloc (Bl.alloc (Bl.refl _) _) _⟩

set_option maxRecDepth 20000 in
theorem refOne_bad2 (op c b n : Int) (hcls : cls op = (c, b)) (nk : Nat) (kk r : Int) (t : Bool) (hkd : kindsS b c = (nk, r, t)) (hkk : (if nk = 0 then 0 else c) = kk) (h0 : t = true) (h5 : ((nk : Int) != 1) = false) (h1 : okv c n = false) (w : World) :
    Calls Tryd.prog 16 #[.int .i64 op, av c n] w fun e w' => e = .returned (.tuple #[av 0 0, .bool false]) ∧ Below w.heap.size w w' := by
  have Hcls := hid hcls
  have Hkd := hid hkd
  have Hkk := hid hkk
  clear hcls hkd hkk
  subst h0
  go_enter Tryd.func16, Tryd.ntmps16
  go_wp2_with fail
  refine (class_to _ _ _ Hcls.out _).mono ?_
  rintro e w' ⟨rfl, rfl⟩
  go_wp2_with fail
  refine (refKinds_to _ _ _ _ _ _ _ Hcls.out Hkd.out Hkk.out _).mono ?_
  rintro e w' ⟨rfl, rfl⟩
  go_wp2_with fail
  refine (refMay_any _ _ _).mono ?_
  rintro e w1 ⟨rfl, b1⟩
  have T1 := hid (Twin.new b1)
  obtain ⟨⟨c0, c1⟩, r0, r1, f0, f1⟩ := T1.out.facts
  clear b1
  go_wp2_with fail
  obtain ⟨⟨q0, q1⟩, q2⟩ := T1.out.done (.int .i64 0) (.int .i64 0)
  exact bodyPost_ret (v := .tuple #[av 0 0, .bool false]) (by simp [results, Tryd.results16, go_sem, q0, q1]) rfl ⟨rfl, q2⟩

set_option maxRecDepth 20000 in
set_option maxHeartbeats 1000000 in
theorem refOne_eqz (op c n : Int) (hcls : cls op = (c, 69)) (nk : Nat) (kk r : Int) (t : Bool) (hkd : kindsS 69 c = (nk, r, t)) (hkk : (if nk = 0 then 0 else c) = kk) (h0 : t = true) (h5 : ((nk : Int) != 1) = false) (h1 : okv c n = true) (u : Int) (hu : un c n = u) (hz : (u == 0) = (n == 0)) (w : World) :
    Calls Tryd.prog 16 #[.int .i64 op, av c n] w fun e w' => e = .returned (.tuple #[av 1 (tr (n == 0)), .bool true]) ∧ Below w.heap.size w w' := by
  subst h0
  have Hu := hid hu
  clear hu
  rw [← hz]
  clear hz
  have Hcls := hid hcls
  have Hkd := hid hkd
  have Hkk := hid hkk
  clear hcls hkd hkk
  go_enter Tryd.func16, Tryd.ntmps16
  go_wp2_with fail
  refine (class_to _ _ _ Hcls.out _).mono ?_
  rintro e w' ⟨rfl, rfl⟩
  go_wp2_with fail
  refine (refKinds_to _ _ _ _ _ _ _ Hcls.out Hkd.out Hkk.out _).mono ?_
  rintro e w' ⟨rfl, rfl⟩
  go_wp2_with fail
  refine (refMay_any _ _ _).mono ?_
  rintro e w1 ⟨rfl, b1⟩
  have T1 := hid (Twin.new b1)
  obtain ⟨⟨c0, c1⟩, r0, r1, f0, f1⟩ := T1.out.facts
  clear b1
  go_wp2_with fail
  refine (refUnsigned_to _ _ _ Hu.out _).mono ?_
  rintro e w2 ⟨rfl, b2⟩
  have T2 := hid (T1.out.step b2)
  clear b2 c0 c1 r0 r1 f0 f1
  obtain ⟨⟨c0, c1⟩, r0, r1, f0, f1⟩ := T2.out.facts
  go_wp2_with fail
  refine (refTruth_any _ _).mono ?_
  rintro e w3 ⟨rfl, b3⟩
  have T3 := hid (T2.out.step b3)
  clear b3 c0 c1 r0 r1 f0 f1
  obtain ⟨⟨c0, c1⟩, r0, r1, f0, f1⟩ := T3.out.facts
  go_wp2_with fail
  obtain ⟨⟨q0, q1⟩, q2⟩ := T3.out.done (.int .i64 1) (.int .i64 (tr (u == 0)))
  exact bodyPost_ret (v := .tuple #[av 1 (tr (u == 0)), .bool true]) (by simp [results, Tryd.results16, go_sem, q0, q1]) rfl ⟨rfl, q2⟩

set_option maxRecDepth 20000 in
set_option maxHeartbeats 1000000 in
theorem refOne_wrap (op c n : Int) (hcls : cls op = (c, 167)) (nk : Nat) (kk r : Int) (t : Bool) (hkd : kindsS 167 c = (nk, r, t)) (hkk : (if nk = 0 then 0 else c) = kk) (h0 : t = true) (h5 : ((nk : Int) != 1) = false) (h1 : okv c n = true) (u : Int) (hu : un c n = u) (w : World) :
    Calls Tryd.prog 16 #[.int .i64 op, av c n] w fun e w' => e = .returned (.tuple #[av 1 (sg 1 n), .bool true]) ∧ Below w.heap.size w w' := by
  subst h0
  have Hu := hid hu
  clear hu
  have Hcls := hid hcls
  have Hkd := hid hkd
  have Hkk := hid hkk
  clear hcls hkd hkk
  go_enter Tryd.func16, Tryd.ntmps16
  go_wp2_with fail
  refine (class_to _ _ _ Hcls.out _).mono ?_
  rintro e w' ⟨rfl, rfl⟩
  go_wp2_with fail
  refine (refKinds_to _ _ _ _ _ _ _ Hcls.out Hkd.out Hkk.out _).mono ?_
  rintro e w' ⟨rfl, rfl⟩
  go_wp2_with fail
  refine (refMay_any _ _ _).mono ?_
  rintro e w1 ⟨rfl, b1⟩
  have T1 := hid (Twin.new b1)
  obtain ⟨⟨c0, c1⟩, r0, r1, f0, f1⟩ := T1.out.facts
  clear b1
  go_wp2_with fail
  refine (refUnsigned_to _ _ _ Hu.out _).mono ?_
  rintro e w2 ⟨rfl, b2⟩
  have T2 := hid (T1.out.step b2)
  clear b2 c0 c1 r0 r1 f0 f1
  obtain ⟨⟨c0, c1⟩, r0, r1, f0, f1⟩ := T2.out.facts
  go_wp2_with fail
  refine (refWrap_one _ _).mono ?_
  rintro e w3 ⟨rfl, b3⟩
  have T3 := hid (T2.out.step b3)
  clear b3 c0 c1 r0 r1 f0 f1
  obtain ⟨⟨c0, c1⟩, r0, r1, f0, f1⟩ := T3.out.facts
  go_wp2_with fail
  obtain ⟨⟨q0, q1⟩, q2⟩ := T3.out.done (.int .i64 1) (.int .i64 (sg 1 n))
  exact bodyPost_ret (v := .tuple #[av 1 (sg 1 n), .bool true]) (by simp [results, Tryd.results16, go_sem, q0, q1]) rfl ⟨rfl, q2⟩

set_option maxRecDepth 20000 in
set_option maxHeartbeats 1000000 in
theorem refOne_ext (op c n : Int) (hcls : cls op = (c, 172)) (nk : Nat) (kk r : Int) (t : Bool) (hkd : kindsS 172 c = (nk, r, t)) (hkk : (if nk = 0 then 0 else c) = kk) (h0 : t = true) (h5 : ((nk : Int) != 1) = false) (h1 : okv c n = true) (u : Int) (hu : un c n = u) (w : World) :
    Calls Tryd.prog 16 #[.int .i64 op, av c n] w fun e w' => e = .returned (.tuple #[av 2 n, .bool true]) ∧ Below w.heap.size w w' := by
  subst h0
  have Hu := hid hu
  clear hu
  have Hcls := hid hcls
  have Hkd := hid hkd
  have Hkk := hid hkk
  clear hcls hkd hkk
  go_enter Tryd.func16, Tryd.ntmps16
  go_wp2_with fail
  refine (class_to _ _ _ Hcls.out _).mono ?_
  rintro e w' ⟨rfl, rfl⟩
  go_wp2_with fail
  refine (refKinds_to _ _ _ _ _ _ _ Hcls.out Hkd.out Hkk.out _).mono ?_
  rintro e w' ⟨rfl, rfl⟩
  go_wp2_with fail
  refine (refMay_any _ _ _).mono ?_
  rintro e w1 ⟨rfl, b1⟩
  have T1 := hid (Twin.new b1)
  obtain ⟨⟨c0, c1⟩, r0, r1, f0, f1⟩ := T1.out.facts
  clear b1
  go_wp2_with fail
  refine (refUnsigned_to _ _ _ Hu.out _).mono ?_
  rintro e w2 ⟨rfl, b2⟩
  have T2 := hid (T1.out.step b2)
  clear b2 c0 c1 r0 r1 f0 f1
  obtain ⟨⟨c0, c1⟩, r0, r1, f0, f1⟩ := T2.out.facts
  go_wp2_with fail
  obtain ⟨⟨q0, q1⟩, q2⟩ := T2.out.done (.int .i64 2) (.int .i64 n)
  exact bodyPost_ret (v := .tuple #[av 2 n, .bool true]) (by simp [results, Tryd.results16, go_sem, q0, q1]) rfl ⟨rfl, q2⟩

set_option maxRecDepth 20000 in
set_option maxHeartbeats 1000000 in
theorem refOne_extu (op c n : Int) (hcls : cls op = (c, 173)) (nk : Nat) (kk r : Int) (t : Bool) (hkd : kindsS 173 c = (nk, r, t)) (hkk : (if nk = 0 then 0 else c) = kk) (h0 : t = true) (h5 : ((nk : Int) != 1) = false) (h1 : okv c n = true) (u : Int) (hu : un c n = u) (w : World) :
    Calls Tryd.prog 16 #[.int .i64 op, av c n] w fun e w' => e = .returned (.tuple #[av 2 (wrap64 u), .bool true]) ∧ Below w.heap.size w w' := by
  subst h0
  have Hu := hid hu
  clear hu
  have Hcls := hid hcls
  have Hkd := hid hkd
  have Hkk := hid hkk
  clear hcls hkd hkk
  go_enter Tryd.func16, Tryd.ntmps16
  go_wp2_with fail
  refine (class_to _ _ _ Hcls.out _).mono ?_
  rintro e w' ⟨rfl, rfl⟩
  go_wp2_with fail
  refine (refKinds_to _ _ _ _ _ _ _ Hcls.out Hkd.out Hkk.out _).mono ?_
  rintro e w' ⟨rfl, rfl⟩
  go_wp2_with fail
  refine (refMay_any _ _ _).mono ?_
  rintro e w1 ⟨rfl, b1⟩
  have T1 := hid (Twin.new b1)
  obtain ⟨⟨c0, c1⟩, r0, r1, f0, f1⟩ := T1.out.facts
  clear b1
  go_wp2_with fail
  refine (refUnsigned_to _ _ _ Hu.out _).mono ?_
  rintro e w2 ⟨rfl, b2⟩
  have T2 := hid (T1.out.step b2)
  clear b2 c0 c1 r0 r1 f0 f1
  obtain ⟨⟨c0, c1⟩, r0, r1, f0, f1⟩ := T2.out.facts
  go_wp2_with fail
  obtain ⟨⟨q0, q1⟩, q2⟩ := T2.out.done (.int .i64 2) (.int .i64 (wrap64 u))
  exact bodyPost_ret (v := .tuple #[av 2 (wrap64 u), .bool true]) (by simp [results, Tryd.results16, go_sem, q0, q1]) rfl ⟨rfl, q2⟩

set_option maxRecDepth 20000 in
set_option maxHeartbeats 1000000 in
theorem refOne_clz (op c n : Int) (hcls : cls op = (c, 103)) (nk : Nat) (kk r : Int) (t : Bool) (hkd : kindsS 103 c = (nk, r, t)) (hkk : (if nk = 0 then 0 else c) = kk) (h0 : t = true) (h5 : ((nk : Int) != 1) = false) (h1 : okv c n = true) (u : Nat) (hu : un c n = u) (W : Nat) (hw : (c = 1 ∧ (W : Int) = 32) ∨ (c = 2 ∧ (W : Int) = 64)) (huW : u < 2 ^ W) (r' : Int) (hr : (W : Int) - (Lib.bitLen u : Int) = r') (w : World) :
    Calls Tryd.prog 16 #[.int .i64 op, av c n] w fun e w' => e = .returned (.tuple #[av c r', .bool true]) ∧ Below w.heap.size w w' := by
  subst h0
  have hW : 32 ≤ W ∧ W ≤ 64 := by omega
  have Hu64 : Hid (u < 18446744073709551616) := hid (by have := un_in c n; omega)
  have HuW := hid huW
  have Hr := hid hr
  have Hw := hid hw
  have Hu := hid hu
  clear hu hw hr huW
  have Hcls := hid hcls
  have Hkd := hid hkd
  have Hkk := hid hkk
  clear hcls hkd hkk
  go_enter Tryd.func16, Tryd.ntmps16
  go_wp2_with fail
  refine (class_to _ _ _ Hcls.out _).mono ?_
  rintro e w' ⟨rfl, rfl⟩
  go_wp2_with fail
  refine (refKinds_to _ _ _ _ _ _ _ Hcls.out Hkd.out Hkk.out _).mono ?_
  rintro e w' ⟨rfl, rfl⟩
  go_wp2_with fail
  refine (refMay_any _ _ _).mono ?_
  rintro e w1 ⟨rfl, b1⟩
  have T1 := hid (Twin.new b1)
  obtain ⟨⟨c0, c1⟩, r0, r1, f0, f1⟩ := T1.out.facts
  clear b1
  go_wp2_with fail
  refine (refUnsigned_to _ _ _ Hu.out _).mono ?_
  rintro e w2 ⟨rfl, b2⟩
  have T2 := hid (T1.out.step b2)
  clear b2 c0 c1 r0 r1 f0 f1
  obtain ⟨⟨c0, c1⟩, r0, r1, f0, f1⟩ := T2.out.facts
  go_wp2_with fail
  go_loop [13, 14, 15, 16] (fun o l h i => ∃ (j : Nat) (lo hi : Int), j ≤ W ∧ i = .int .i64 j ∧ o = .int .i64 (pc j u : Nat) ∧ l = .int .i64 lo ∧ h = .int .i64 hi ∧ -1 ≤ hi ∧ hi ≤ 64 ∧ -1 ≤ lo ∧ lo ≤ 64 ∧ Hid (hi = (Lib.bitLen (u % 2 ^ j) : Int) - 1) ∧ Hid ((u % 2 ^ j = 0 ∧ lo = -1) ∨ (u % 2 ^ j ≠ 0 ∧ lo = (Lib.ctz 64 u : Int)))) (fun _ _ _ i => W - (intOf i).toNat)
  case atStart => exact ⟨0, -1, -1, Nat.zero_le _, rfl, rfl, rfl, rfl, by decide, by decide, by decide, by decide, hid (by simp [Nat.mod_one]; decide), hid (Or.inl ⟨by simp [Nat.mod_one], rfl⟩)⟩
  case round =>
    obtain ⟨j, lo, hi, hj, rfl, rfl, rfl, rfl, i1, i2, i3, i4, HH, HL⟩ := hrel
    obtain ⟨p, hp⟩ : ∃ p, pc j u = p := ⟨_, rfl⟩
    have hp64 : p ≤ 64 := by rw [← hp]; exact Nat.le_trans (pc_le _ _) (by omega)
    rw [hp]
    have Hp := hid hp
    clear hp
    by_cases hlt : j < W
    · have j64 : j < 64 := by omega
      obtain ⟨v, hv⟩ : ∃ v, v = u / 2 ^ j := ⟨_, rfl⟩
      have e1 : (u : Int) / 2 ^ j = (v : Int) := by rw [hv]; simp
      have e2 : bits BinOp.and IntKind.u64 (v : Int) 1 = ((v % 2 : Nat) : Int) := by
        have := bits_and_mask .u64 1 (by decide) (fun n h0 h1 => by have h2 : (2 : Int) ^ 1 = 2 := by decide
                                                                    exact IntWalk.u64_in n (by omega)) (v : Int)
        rw [show (2 : Int) ^ 1 = 2 from by decide] at this
        rw [show (1 : Int) = 2 - 1 from by decide, this]
        simp
      have hv64 : v < 18446744073709551616 := by rw [hv]; exact Nat.lt_of_le_of_lt (Nat.div_le_self _ _) Hu64.out
      have Hv := hid hv
      clear hv
      rcases Nat.mod_two_eq_zero_or_one v with hb | hb
      · rw [hb] at e2
        have e2 : bits BinOp.and IntKind.u64 (v : Int) 1 = 0 := e2
        have Hb := hid hb
        clear hb
        go_wp2_with (go_at_call 38; refine (refBits_to _ _ Hw.out _).mono ?_; rintro e w' ⟨rfl, rfl⟩)
        go_round
        case rel =>
          have hb2 : u / 2 ^ j % 2 = 0 := by rw [← Hv.out]; exact Hb.out
          have em := mod_snoc u j
          rw [hb2, Nat.mul_zero, Nat.add_zero] at em
          refine ⟨j + 1, lo, hi, by omega, by go_num, ?_, rfl, rfl, i1, i2, i3, i4, hid (by rw [em]; exact HH.out), hid (by rw [em]; exact HL.out)⟩
          rw [pc_snoc, hb2, Hp.out, Nat.add_zero]
        case measure => simp [intOf]; omega
      · rw [hb] at e2
        have e2 : bits BinOp.and IntKind.u64 (v : Int) 1 = 1 := e2
        have hb2 : Hid (u / 2 ^ j % 2 = 1) := hid (by rw [← Hv.out]; exact hb)
        have ep : Hid (pc (j + 1) u = p + 1) := hid (by rw [pc_snoc, hb2.out, Hp.out])
        have el : Hid ((j : Int) = (Lib.bitLen (u % 2 ^ (j + 1)) : Int) - 1) := hid (by rw [len_snoc u j j64 hb2.out]; omega)
        have ne : Hid (u % 2 ^ (j + 1) ≠ 0) := hid (by
          have em := mod_snoc u j
          rw [hb2.out, Nat.mul_one] at em
          have := Nat.two_pow_pos j
          omega)
        clear hb
        rcases HL.out with ⟨z1, z2⟩ | ⟨z1, z2⟩
        · have ec : Hid ((j : Int) = (Lib.ctz 64 u : Int)) := hid (by rw [ctz_first u j Hu64.out z1 hb2.out])
          clear z1
          subst z2
          go_wp2_with (go_at_call 38; refine (refBits_to _ _ Hw.out _).mono ?_; rintro e w' ⟨rfl, rfl⟩)
          go_round
          case rel => exact ⟨j + 1, j, j, by omega, by go_num, by rw [ep.out]; go_num, rfl, rfl, by omega, by omega, by omega, by omega, hid el.out, hid (Or.inr ⟨ne.out, ec.out⟩)⟩
          case measure => simp [intOf]; omega
        · have lo0 : 0 ≤ lo := by omega
          have ec : Hid (lo = (Lib.ctz 64 u : Int)) := hid z2
          clear z1 z2
          go_wp2_with (go_at_call 38; refine (refBits_to _ _ Hw.out _).mono ?_; rintro e w' ⟨rfl, rfl⟩)
          go_round
          case rel => exact ⟨j + 1, lo, j, by omega, by go_num, by rw [ep.out]; go_num, rfl, rfl, by omega, by omega, by omega, by omega, hid el.out, hid (Or.inr ⟨ne.out, ec.out⟩)⟩
          case measure => simp [intOf]; omega
    · obtain rfl : j = W := by omega
      have em : Hid (u % 2 ^ j = u) := hid (Nat.mod_eq_of_lt HuW.out)
      have er : Hid ((j : Int) - 1 - hi = r') := hid (by have := HH.out; rw [em.out] at this; have := Hr.out; omega)
      obtain ⟨q, hq⟩ : ∃ q, (j : Int) - 1 - hi = q := ⟨_, rfl⟩
      rw [hq] at er
      go_wp2_with (go_at_call 38; refine (refBits_to _ _ Hw.out _).mono ?_; rintro e w' ⟨rfl, rfl⟩)
      rw [show q = r' from er.out]
      obtain ⟨⟨q0, q1⟩, q2⟩ := T2.out.done (.int .i64 c) (.int .i64 r')
      exact bodyPost_ret (v := .tuple #[av c r', .bool true]) (by simp [results, Tryd.results16, go_sem, q0, q1]) rfl ⟨rfl, q2⟩

set_option maxRecDepth 20000 in
set_option maxHeartbeats 1000000 in
theorem refOne_ctz (op c n : Int) (hcls : cls op = (c, 104)) (nk : Nat) (kk r : Int) (t : Bool) (hkd : kindsS 104 c = (nk, r, t)) (hkk : (if nk = 0 then 0 else c) = kk) (h0 : t = true) (h5 : ((nk : Int) != 1) = false) (h1 : okv c n = true) (u : Nat) (hu : un c n = u) (W : Nat) (hw : (c = 1 ∧ (W : Int) = 32) ∨ (c = 2 ∧ (W : Int) = 64)) (huW : u < 2 ^ W) (r' : Int) (hr : ((min (Lib.ctz 64 u) W : Nat) : Int) = r') (w : World) :
    Calls Tryd.prog 16 #[.int .i64 op, av c n] w fun e w' => e = .returned (.tuple #[av c r', .bool true]) ∧ Below w.heap.size w w' := by
  subst h0
  have hW : 32 ≤ W ∧ W ≤ 64 := by omega
  have Hu64 : Hid (u < 18446744073709551616) := hid (by have := un_in c n; omega)
  have HuW := hid huW
  have Hr := hid hr
  have Hw := hid hw
  have Hu := hid hu
  clear hu hw hr huW
  have Hcls := hid hcls
  have Hkd := hid hkd
  have Hkk := hid hkk
  clear hcls hkd hkk
  go_enter Tryd.func16, Tryd.ntmps16
  go_wp2_with fail
  refine (class_to _ _ _ Hcls.out _).mono ?_
  rintro e w' ⟨rfl, rfl⟩
  go_wp2_with fail
  refine (refKinds_to _ _ _ _ _ _ _ Hcls.out Hkd.out Hkk.out _).mono ?_
  rintro e w' ⟨rfl, rfl⟩
  go_wp2_with fail
  refine (refMay_any _ _ _).mono ?_
  rintro e w1 ⟨rfl, b1⟩
  have T1 := hid (Twin.new b1)
  obtain ⟨⟨c0, c1⟩, r0, r1, f0, f1⟩ := T1.out.facts
  clear b1
  go_wp2_with fail
  refine (refUnsigned_to _ _ _ Hu.out _).mono ?_
  rintro e w2 ⟨rfl, b2⟩
  have T2 := hid (T1.out.step b2)
  clear b2 c0 c1 r0 r1 f0 f1
  obtain ⟨⟨c0, c1⟩, r0, r1, f0, f1⟩ := T2.out.facts
  go_wp2_with fail
  go_loop [13, 14, 15, 16] (fun o l h i => ∃ (j : Nat) (lo hi : Int), j ≤ W ∧ i = .int .i64 j ∧ o = .int .i64 (pc j u : Nat) ∧ l = .int .i64 lo ∧ h = .int .i64 hi ∧ -1 ≤ hi ∧ hi ≤ 64 ∧ -1 ≤ lo ∧ lo ≤ 64 ∧ Hid (hi = (Lib.bitLen (u % 2 ^ j) : Int) - 1) ∧ Hid ((u % 2 ^ j = 0 ∧ lo = -1) ∨ (u % 2 ^ j ≠ 0 ∧ lo = (Lib.ctz 64 u : Int)))) (fun _ _ _ i => W - (intOf i).toNat)
  case atStart => exact ⟨0, -1, -1, Nat.zero_le _, rfl, rfl, rfl, rfl, by decide, by decide, by decide, by decide, hid (by simp [Nat.mod_one]; decide), hid (Or.inl ⟨by simp [Nat.mod_one], rfl⟩)⟩
  case round =>
    obtain ⟨j, lo, hi, hj, rfl, rfl, rfl, rfl, i1, i2, i3, i4, HH, HL⟩ := hrel
    obtain ⟨p, hp⟩ : ∃ p, pc j u = p := ⟨_, rfl⟩
    have hp64 : p ≤ 64 := by rw [← hp]; exact Nat.le_trans (pc_le _ _) (by omega)
    rw [hp]
    have Hp := hid hp
    clear hp
    by_cases hlt : j < W
    · have j64 : j < 64 := by omega
      obtain ⟨v, hv⟩ : ∃ v, v = u / 2 ^ j := ⟨_, rfl⟩
      have e1 : (u : Int) / 2 ^ j = (v : Int) := by rw [hv]; simp
      have e2 : bits BinOp.and IntKind.u64 (v : Int) 1 = ((v % 2 : Nat) : Int) := by
        have := bits_and_mask .u64 1 (by decide) (fun n h0 h1 => by have h2 : (2 : Int) ^ 1 = 2 := by decide
                                                                    exact IntWalk.u64_in n (by omega)) (v : Int)
        rw [show (2 : Int) ^ 1 = 2 from by decide] at this
        rw [show (1 : Int) = 2 - 1 from by decide, this]
        simp
      have hv64 : v < 18446744073709551616 := by rw [hv]; exact Nat.lt_of_le_of_lt (Nat.div_le_self _ _) Hu64.out
      have Hv := hid hv
      clear hv
      rcases Nat.mod_two_eq_zero_or_one v with hb | hb
      · rw [hb] at e2
        have e2 : bits BinOp.and IntKind.u64 (v : Int) 1 = 0 := e2
        have Hb := hid hb
        clear hb
        go_wp2_with (go_at_call 38; refine (refBits_to _ _ Hw.out _).mono ?_; rintro e w' ⟨rfl, rfl⟩)
        go_round
        case rel =>
          have hb2 : u / 2 ^ j % 2 = 0 := by rw [← Hv.out]; exact Hb.out
          have em := mod_snoc u j
          rw [hb2, Nat.mul_zero, Nat.add_zero] at em
          refine ⟨j + 1, lo, hi, by omega, by go_num, ?_, rfl, rfl, i1, i2, i3, i4, hid (by rw [em]; exact HH.out), hid (by rw [em]; exact HL.out)⟩
          rw [pc_snoc, hb2, Hp.out, Nat.add_zero]
        case measure => simp [intOf]; omega
      · rw [hb] at e2
        have e2 : bits BinOp.and IntKind.u64 (v : Int) 1 = 1 := e2
        have hb2 : Hid (u / 2 ^ j % 2 = 1) := hid (by rw [← Hv.out]; exact hb)
        have ep : Hid (pc (j + 1) u = p + 1) := hid (by rw [pc_snoc, hb2.out, Hp.out])
        have el : Hid ((j : Int) = (Lib.bitLen (u % 2 ^ (j + 1)) : Int) - 1) := hid (by rw [len_snoc u j j64 hb2.out]; omega)
        have ne : Hid (u % 2 ^ (j + 1) ≠ 0) := hid (by
          have em := mod_snoc u j
          rw [hb2.out, Nat.mul_one] at em
          have := Nat.two_pow_pos j
          omega)
        clear hb
        rcases HL.out with ⟨z1, z2⟩ | ⟨z1, z2⟩
        · have ec : Hid ((j : Int) = (Lib.ctz 64 u : Int)) := hid (by rw [ctz_first u j Hu64.out z1 hb2.out])
          clear z1
          subst z2
          go_wp2_with (go_at_call 38; refine (refBits_to _ _ Hw.out _).mono ?_; rintro e w' ⟨rfl, rfl⟩)
          go_round
          case rel => exact ⟨j + 1, j, j, by omega, by go_num, by rw [ep.out]; go_num, rfl, rfl, by omega, by omega, by omega, by omega, hid el.out, hid (Or.inr ⟨ne.out, ec.out⟩)⟩
          case measure => simp [intOf]; omega
        · have lo0 : 0 ≤ lo := by omega
          have ec : Hid (lo = (Lib.ctz 64 u : Int)) := hid z2
          clear z1 z2
          go_wp2_with (go_at_call 38; refine (refBits_to _ _ Hw.out _).mono ?_; rintro e w' ⟨rfl, rfl⟩)
          go_round
          case rel => exact ⟨j + 1, lo, j, by omega, by go_num, by rw [ep.out]; go_num, rfl, rfl, by omega, by omega, by omega, by omega, hid el.out, hid (Or.inr ⟨ne.out, ec.out⟩)⟩
          case measure => simp [intOf]; omega
    · obtain rfl : j = W := by omega
      have em : Hid (u % 2 ^ j = u) := hid (Nat.mod_eq_of_lt HuW.out)
      rcases HL.out with ⟨z1, z2⟩ | ⟨z1, z2⟩
      · have er : Hid ((j : Int) = r') := hid (by rw [em.out] at z1; have := Hr.out; rw [z1] at this; have q : Lib.ctz 64 0 = 64 := (by decide); rw [q] at this; omega)
        clear z1
        subst z2
        go_wp2_with (go_at_call 38; refine (refBits_to _ _ Hw.out _).mono ?_; rintro e w' ⟨rfl, rfl⟩)
        rw [show (j : Int) = r' from er.out]
        obtain ⟨⟨q0, q1⟩, q2⟩ := T2.out.done (.int .i64 c) (.int .i64 r')
        exact bodyPost_ret (v := .tuple #[av c r', .bool true]) (by simp [results, Tryd.results16, go_sem, q0, q1]) rfl ⟨rfl, q2⟩
      · have er : Hid (lo = r') := hid (by
          rw [em.out] at z1
          have k := ctz_pc_len u z1 Hu64.out
          have k2 := Lib.bitLen_le u j (by omega) HuW.out
          have := Hr.out
          omega)
        have lo0 : 0 ≤ lo := by omega
        clear z1 z2
        go_wp2_with (go_at_call 38; refine (refBits_to _ _ Hw.out _).mono ?_; rintro e w' ⟨rfl, rfl⟩)
        rw [show lo = r' from er.out]
        obtain ⟨⟨q0, q1⟩, q2⟩ := T2.out.done (.int .i64 c) (.int .i64 r')
        exact bodyPost_ret (v := .tuple #[av c r', .bool true]) (by simp [results, Tryd.results16, go_sem, q0, q1]) rfl ⟨rfl, q2⟩

set_option maxRecDepth 20000 in
set_option maxHeartbeats 1000000 in
theorem refOne_pop (op c n : Int) (hcls : cls op = (c, 105)) (nk : Nat) (kk r : Int) (t : Bool) (hkd : kindsS 105 c = (nk, r, t)) (hkk : (if nk = 0 then 0 else c) = kk) (h0 : t = true) (h5 : ((nk : Int) != 1) = false) (h1 : okv c n = true) (u : Nat) (hu : un c n = u) (W : Nat) (hw : (c = 1 ∧ (W : Int) = 32) ∨ (c = 2 ∧ (W : Int) = 64)) (huW : u < 2 ^ W) (r' : Int) (hr : ((pc W u : Nat) : Int) = r') (w : World) :
    Calls Tryd.prog 16 #[.int .i64 op, av c n] w fun e w' => e = .returned (.tuple #[av c r', .bool true]) ∧ Below w.heap.size w w' := by
  subst h0
  have hW : 32 ≤ W ∧ W ≤ 64 := by omega
  have Hu64 : Hid (u < 18446744073709551616) := hid (by have := un_in c n; omega)
  have HuW := hid huW
  have Hr := hid hr
  have Hw := hid hw
  have Hu := hid hu
  clear hu hw hr huW
  have Hcls := hid hcls
  have Hkd := hid hkd
  have Hkk := hid hkk
  clear hcls hkd hkk
  go_enter Tryd.func16, Tryd.ntmps16
  go_wp2_with fail
  refine (class_to _ _ _ Hcls.out _).mono ?_
  rintro e w' ⟨rfl, rfl⟩
  go_wp2_with fail
  refine (refKinds_to _ _ _ _ _ _ _ Hcls.out Hkd.out Hkk.out _).mono ?_
  rintro e w' ⟨rfl, rfl⟩
  go_wp2_with fail
  refine (refMay_any _ _ _).mono ?_
  rintro e w1 ⟨rfl, b1⟩
  have T1 := hid (Twin.new b1)
  obtain ⟨⟨c0, c1⟩, r0, r1, f0, f1⟩ := T1.out.facts
  clear b1
  go_wp2_with fail
  refine (refUnsigned_to _ _ _ Hu.out _).mono ?_
  rintro e w2 ⟨rfl, b2⟩
  have T2 := hid (T1.out.step b2)
  clear b2 c0 c1 r0 r1 f0 f1
  obtain ⟨⟨c0, c1⟩, r0, r1, f0, f1⟩ := T2.out.facts
  go_wp2_with fail
  go_loop [13, 14, 15, 16] (fun o l h i => ∃ (j : Nat) (lo hi : Int), j ≤ W ∧ i = .int .i64 j ∧ o = .int .i64 (pc j u : Nat) ∧ l = .int .i64 lo ∧ h = .int .i64 hi ∧ -1 ≤ hi ∧ hi ≤ 64 ∧ -1 ≤ lo ∧ lo ≤ 64 ∧ Hid (hi = (Lib.bitLen (u % 2 ^ j) : Int) - 1) ∧ Hid ((u % 2 ^ j = 0 ∧ lo = -1) ∨ (u % 2 ^ j ≠ 0 ∧ lo = (Lib.ctz 64 u : Int)))) (fun _ _ _ i => W - (intOf i).toNat)
  case atStart => exact ⟨0, -1, -1, Nat.zero_le _, rfl, rfl, rfl, rfl, by decide, by decide, by decide, by decide, hid (by simp [Nat.mod_one]; decide), hid (Or.inl ⟨by simp [Nat.mod_one], rfl⟩)⟩
  case round =>
    obtain ⟨j, lo, hi, hj, rfl, rfl, rfl, rfl, i1, i2, i3, i4, HH, HL⟩ := hrel
    obtain ⟨p, hp⟩ : ∃ p, pc j u = p := ⟨_, rfl⟩
    have hp64 : p ≤ 64 := by rw [← hp]; exact Nat.le_trans (pc_le _ _) (by omega)
    rw [hp]
    have Hp := hid hp
    clear hp
    by_cases hlt : j < W
    · have j64 : j < 64 := by omega
      obtain ⟨v, hv⟩ : ∃ v, v = u / 2 ^ j := ⟨_, rfl⟩
      have e1 : (u : Int) / 2 ^ j = (v : Int) := by rw [hv]; simp
      have e2 : bits BinOp.and IntKind.u64 (v : Int) 1 = ((v % 2 : Nat) : Int) := by
        have := bits_and_mask .u64 1 (by decide) (fun n h0 h1 => by have h2 : (2 : Int) ^ 1 = 2 := by decide
                                                                    exact IntWalk.u64_in n (by omega)) (v : Int)
        rw [show (2 : Int) ^ 1 = 2 from by decide] at this
        rw [show (1 : Int) = 2 - 1 from by decide, this]
        simp
      have hv64 : v < 18446744073709551616 := by rw [hv]; exact Nat.lt_of_le_of_lt (Nat.div_le_self _ _) Hu64.out
      have Hv := hid hv
      clear hv
      rcases Nat.mod_two_eq_zero_or_one v with hb | hb
      · rw [hb] at e2
        have e2 : bits BinOp.and IntKind.u64 (v : Int) 1 = 0 := e2
        have Hb := hid hb
        clear hb
        go_wp2_with (go_at_call 38; refine (refBits_to _ _ Hw.out _).mono ?_; rintro e w' ⟨rfl, rfl⟩)
        go_round
        case rel =>
          have hb2 : u / 2 ^ j % 2 = 0 := by rw [← Hv.out]; exact Hb.out
          have em := mod_snoc u j
          rw [hb2, Nat.mul_zero, Nat.add_zero] at em
          refine ⟨j + 1, lo, hi, by omega, by go_num, ?_, rfl, rfl, i1, i2, i3, i4, hid (by rw [em]; exact HH.out), hid (by rw [em]; exact HL.out)⟩
          rw [pc_snoc, hb2, Hp.out, Nat.add_zero]
        case measure => simp [intOf]; omega
      · rw [hb] at e2
        have e2 : bits BinOp.and IntKind.u64 (v : Int) 1 = 1 := e2
        have hb2 : Hid (u / 2 ^ j % 2 = 1) := hid (by rw [← Hv.out]; exact hb)
        have ep : Hid (pc (j + 1) u = p + 1) := hid (by rw [pc_snoc, hb2.out, Hp.out])
        have el : Hid ((j : Int) = (Lib.bitLen (u % 2 ^ (j + 1)) : Int) - 1) := hid (by rw [len_snoc u j j64 hb2.out]; omega)
        have ne : Hid (u % 2 ^ (j + 1) ≠ 0) := hid (by
          have em := mod_snoc u j
          rw [hb2.out, Nat.mul_one] at em
          have := Nat.two_pow_pos j
          omega)
        clear hb
        rcases HL.out with ⟨z1, z2⟩ | ⟨z1, z2⟩
        · have ec : Hid ((j : Int) = (Lib.ctz 64 u : Int)) := hid (by rw [ctz_first u j Hu64.out z1 hb2.out])
          clear z1
          subst z2
          go_wp2_with (go_at_call 38; refine (refBits_to _ _ Hw.out _).mono ?_; rintro e w' ⟨rfl, rfl⟩)
          go_round
          case rel => exact ⟨j + 1, j, j, by omega, by go_num, by rw [ep.out]; go_num, rfl, rfl, by omega, by omega, by omega, by omega, hid el.out, hid (Or.inr ⟨ne.out, ec.out⟩)⟩
          case measure => simp [intOf]; omega
        · have lo0 : 0 ≤ lo := by omega
          have ec : Hid (lo = (Lib.ctz 64 u : Int)) := hid z2
          clear z1 z2
          go_wp2_with (go_at_call 38; refine (refBits_to _ _ Hw.out _).mono ?_; rintro e w' ⟨rfl, rfl⟩)
          go_round
          case rel => exact ⟨j + 1, lo, j, by omega, by go_num, by rw [ep.out]; go_num, rfl, rfl, by omega, by omega, by omega, by omega, hid el.out, hid (Or.inr ⟨ne.out, ec.out⟩)⟩
          case measure => simp [intOf]; omega
    · obtain rfl : j = W := by omega
      have em : Hid (u % 2 ^ j = u) := hid (Nat.mod_eq_of_lt HuW.out)
      have er : Hid ((p : Int) = r') := hid (by rw [← Hp.out]; exact Hr.out)
      go_wp2_with (go_at_call 38; refine (refBits_to _ _ Hw.out _).mono ?_; rintro e w' ⟨rfl, rfl⟩)
      rw [show (p : Int) = r' from er.out]
      obtain ⟨⟨q0, q1⟩, q2⟩ := T2.out.done (.int .i64 c) (.int .i64 r')
      exact bodyPost_ret (v := .tuple #[av c r', .bool true]) (by simp [results, Tryd.results16, go_sem, q0, q1]) rfl ⟨rfl, q2⟩

end Go.Proofs.YtiohgigbnncpiaaDoor
