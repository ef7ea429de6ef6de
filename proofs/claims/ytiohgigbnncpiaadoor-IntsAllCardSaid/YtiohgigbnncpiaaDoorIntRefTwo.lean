/- The reference's Two: what it answers. -/
import Derived.Test.YtiohgigbnncpiaaDoorIntRefDiv
import Derived.Test.YtiohgigbnncpiaaDoorIntKinds
import Derived.Deep.Cut
import Derived.Deep.CutBlock
namespace Go.Proofs.YtiohgigbnncpiaaDoor
open Go.RowKit

theorem refWrap_eq (k n z : Int) (hk : k = 1 ∨ k = 2) (hn : -9223372036854775808 ≤ n ∧ n ≤ 9223372036854775807) (hz : sg k n = z) (w : World) : Calls Tryd.prog 24 #[.int .i64 k, .int .i64 n] w fun e w' => e = .returned (av k z) ∧ Below w.heap.size w w' := by
  rw [← hz]
  exact refWrap_any k n hk hn w

/-- The reference's sums, as numbers from 0. -/
def refRaw (b n x y f s : Int) : Int :=
  if b = 106 then IntKind.u64.wrap (x + y) else if b = 107 then IntKind.u64.wrap (x - y) else if b = 108 then IntKind.u64.wrap (x * y)
  else if b = 113 then bits BinOp.and IntKind.u64 x y else if b = 114 then bits BinOp.or IntKind.u64 x y else if b = 115 then bits BinOp.xor IntKind.u64 x y
  else if b = 116 then IntKind.u64.wrap (x * 2 ^ s.toNat) else if b = 117 then IntKind.u64.wrap (n / 2 ^ s.toNat) else if b = 118 then x / 2 ^ s.toNat
  else if b = 119 then bits BinOp.or IntKind.u64 (IntKind.u64.wrap (x * 2 ^ s.toNat)) (x / 2 ^ (f - s).toNat)
  else bits BinOp.or IntKind.u64 (x / 2 ^ s.toNat) (IntKind.u64.wrap (x * 2 ^ (f - s).toNat))

set_option maxRecDepth 20000 in
theorem refTwo_bad0 (op c b k n k' m : Int) (hcls : cls op = (c, b)) (nk : Nat) (kk r : Int) (t : Bool) (hkd : kindsS b c = (nk, r, t)) (hkk : (if nk = 0 then 0 else c) = kk) (h0 : t = false) (w : World) :
    Calls Tryd.prog 18 #[.int .i64 op, av k n, av k' m] w fun e w' => e = .returned (.tuple #[av 0 0, .int .i64 (-1)]) ∧ Below w.heap.size w w' := by
  have Hcls := hid hcls
  have Hkd := hid hkd
  have Hkk := hid hkk
  clear hcls hkd hkk
  subst h0
  go_enter Tryd.func18, Tryd.ntmps18
  go_wp2_with fail
  refine (class_to _ _ _ Hcls.out _).mono ?_
  rintro e w' ⟨rfl, rfl⟩
  go_wp2_with fail
  refine (refKinds_to _ _ _ _ _ _ _ Hcls.out Hkd.out Hkk.out _).mono ?_
  rintro e w' ⟨rfl, rfl⟩
  go_wp2_with fail
  go_returns
  exact ⟨rfl, Bl.alloc (Bl.alloc (Bl.alloc (Bl.refl _) _) _) _⟩

set_option maxRecDepth 20000 in
theorem refTwo_bad5 (op c b k n k' m : Int) (hcls : cls op = (c, b)) (nk : Nat) (kk r : Int) (t : Bool) (hkd : kindsS b c = (nk, r, t)) (hkk : (if nk = 0 then 0 else c) = kk) (h0 : t = true) (h5 : ((nk : Int) != 2) = true) (w : World) :
    Calls Tryd.prog 18 #[.int .i64 op, av k n, av k' m] w fun e w' => e = .returned (.tuple #[av 0 0, .int .i64 (-1)]) ∧ Below w.heap.size w w' := by
  have Hcls := hid hcls
  have Hkd := hid hkd
  have Hkk := hid hkk
  clear hcls hkd hkk
  subst h0
  go_enter Tryd.func18, Tryd.ntmps18
  go_wp2_with fail
  refine (class_to _ _ _ Hcls.out _).mono ?_
  rintro e w' ⟨rfl, rfl⟩
  go_wp2_with fail
  refine (refKinds_to _ _ _ _ _ _ _ Hcls.out Hkd.out Hkk.out _).mono ?_
  rintro e w' ⟨rfl, rfl⟩
  go_wp2_with fail
  go_returns
  exact ⟨rfl, Bl.alloc (Bl.alloc (Bl.alloc (Bl.refl _) _) _) _⟩

set_option maxRecDepth 20000 in
theorem refTwo_bad1 (op c b k n k' m : Int) (hcls : cls op = (c, b)) (nk : Nat) (kk r : Int) (t : Bool) (hkd : kindsS b c = (nk, r, t)) (hkk : (if nk = 0 then 0 else c) = kk) (h0 : t = true) (h5 : ((nk : Int) != 2) = false) (h1 : (k != c) = true) (w : World) :
    Calls Tryd.prog 18 #[.int .i64 op, av k n, av k' m] w fun e w' => e = .returned (.tuple #[av 0 0, .int .i64 (-1)]) ∧ Below w.heap.size w w' := by
  have Hcls := hid hcls
  have Hkd := hid hkd
  have Hkk := hid hkk
  clear hcls hkd hkk
  subst h0
  go_enter Tryd.func18, Tryd.ntmps18
  go_wp2_with fail
  refine (class_to _ _ _ Hcls.out _).mono ?_
  rintro e w' ⟨rfl, rfl⟩
  go_wp2_with fail
  refine (refKinds_to _ _ _ _ _ _ _ Hcls.out Hkd.out Hkk.out _).mono ?_
  rintro e w' ⟨rfl, rfl⟩
  go_wp2_with fail
  go_returns
  exact ⟨rfl, Bl.alloc (Bl.alloc (Bl.alloc (Bl.refl _) _) _) _⟩

set_option maxRecDepth 20000 in
theorem refTwo_bad2 (op c b n k' m : Int) (hcls : cls op = (c, b)) (nk : Nat) (kk r : Int) (t : Bool) (hkd : kindsS b c = (nk, r, t)) (hkk : (if nk = 0 then 0 else c) = kk) (h0 : t = true) (h5 : ((nk : Int) != 2) = false) (h1 : (k' != c) = true) (w : World) :
    Calls Tryd.prog 18 #[.int .i64 op, av c n, av k' m] w fun e w' => e = .returned (.tuple #[av 0 0, .int .i64 (-1)]) ∧ Below w.heap.size w w' := by
  have Hcls := hid hcls
  have Hkd := hid hkd
  have Hkk := hid hkk
  clear hcls hkd hkk
  subst h0
  go_enter Tryd.func18, Tryd.ntmps18
  go_wp2_with fail
  refine (class_to _ _ _ Hcls.out _).mono ?_
  rintro e w' ⟨rfl, rfl⟩
  go_wp2_with fail
  refine (refKinds_to _ _ _ _ _ _ _ Hcls.out Hkd.out Hkk.out _).mono ?_
  rintro e w' ⟨rfl, rfl⟩
  go_wp2_with fail
  go_returns
  exact ⟨rfl, Bl.alloc (Bl.alloc (Bl.alloc (Bl.refl _) _) _) _⟩

set_option maxRecDepth 20000 in
theorem refTwo_bad3 (op c b n m : Int) (hcls : cls op = (c, b)) (nk : Nat) (kk r : Int) (t : Bool) (hkd : kindsS b c = (nk, r, t)) (hkk : (if nk = 0 then 0 else c) = kk) (h0 : t = true) (h5 : ((nk : Int) != 2) = false) (h1 : okv c n = false) (w : World) :
    Calls Tryd.prog 18 #[.int .i64 op, av c n, av c m] w fun e w' => e = .returned (.tuple #[av 0 0, .int .i64 (-1)]) ∧ Below w.heap.size w w' := by
  have Hcls := hid hcls
  have Hkd := hid hkd
  have Hkk := hid hkk
  clear hcls hkd hkk
  subst h0
  go_enter Tryd.func18, Tryd.ntmps18
  go_wp2_with fail
  refine (class_to _ _ _ Hcls.out _).mono ?_
  rintro e w' ⟨rfl, rfl⟩
  go_wp2_with fail
  refine (refKinds_to _ _ _ _ _ _ _ Hcls.out Hkd.out Hkk.out _).mono ?_
  rintro e w' ⟨rfl, rfl⟩
  go_wp2_with fail
  refine (refMay_any _ _ _).mono ?_
  rintro e w1 ⟨rfl, b1⟩
  have T1 := hid (Trio.new b1)
  obtain ⟨⟨c0, c1⟩, ⟨d0, d1⟩, r0, r1, f0, f1⟩ := T1.out.facts
  clear b1
  go_wp2_with fail
  obtain ⟨⟨q0, q1⟩, q2⟩ := T1.out.done (.int .i64 0) (.int .i64 0)
  exact bodyPost_ret (v := .tuple #[av 0 0, .int .i64 (-1)]) (by simp [results, Tryd.results18, go_sem, q0, q1]) rfl ⟨rfl, q2⟩

set_option maxRecDepth 20000 in
theorem refTwo_bad4 (op c b n m : Int) (hcls : cls op = (c, b)) (nk : Nat) (kk r : Int) (t : Bool) (hkd : kindsS b c = (nk, r, t)) (hkk : (if nk = 0 then 0 else c) = kk) (h0 : t = true) (h5 : ((nk : Int) != 2) = false) (h1 : okv c n = true) (h2 : okv c m = false) (w : World) :
    Calls Tryd.prog 18 #[.int .i64 op, av c n, av c m] w fun e w' => e = .returned (.tuple #[av 0 0, .int .i64 (-1)]) ∧ Below w.heap.size w w' := by
  have Hcls := hid hcls
  have Hkd := hid hkd
  have Hkk := hid hkk
  clear hcls hkd hkk
  subst h0
  go_enter Tryd.func18, Tryd.ntmps18
  go_wp2_with fail
  refine (class_to _ _ _ Hcls.out _).mono ?_
  rintro e w' ⟨rfl, rfl⟩
  go_wp2_with fail
  refine (refKinds_to _ _ _ _ _ _ _ Hcls.out Hkd.out Hkk.out _).mono ?_
  rintro e w' ⟨rfl, rfl⟩
  go_wp2_with fail
  refine (refMay_any _ _ _).mono ?_
  rintro e w1 ⟨rfl, b1⟩
  have T1 := hid (Trio.new b1)
  obtain ⟨⟨c0, c1⟩, ⟨d0, d1⟩, r0, r1, f0, f1⟩ := T1.out.facts
  clear b1
  go_wp2_with fail
  refine (refMay_any _ _ _).mono ?_
  rintro e w2 ⟨rfl, b2⟩
  have T2 := hid (T1.out.step b2)
  clear b2 c0 c1 d0 d1 r0 r1 f0 f1
  obtain ⟨⟨c0, c1⟩, ⟨d0, d1⟩, r0, r1, f0, f1⟩ := T2.out.facts
  go_wp2_with fail
  obtain ⟨⟨q0, q1⟩, q2⟩ := T2.out.done (.int .i64 0) (.int .i64 0)
  exact bodyPost_ret (v := .tuple #[av 0 0, .int .i64 (-1)]) (by simp [results, Tryd.results18, go_sem, q0, q1]) rfl ⟨rfl, q2⟩

set_option maxRecDepth 20000 in
set_option maxHeartbeats 1000000 in
theorem refTwo_cmp (op c b n m : Int) (hcls : cls op = (c, b)) (nk : Nat) (kk r : Int) (t : Bool) (hkd : kindsS b c = (nk, r, t)) (hkk : (if nk = 0 then 0 else c) = kk) (h0 : t = true) (h5 : ((nk : Int) != 2) = false) (h1 : okv c n = true) (h2 : okv c m = true) (hk : c = 1 ∨ c = 2) (x y : Int) (hx : un c n = x) (hy : un c m = y) (hb : b ≤ 79) (hq : (x == y) = (n == m)) (w : World) :
    Calls Tryd.prog 18 #[.int .i64 op, av c n, av c m] w fun e w' => e = .returned (.tuple #[av 1 (tr (cmpS b n m x y)), .int .i64 0]) ∧ Below w.heap.size w w' := by
  subst h0
  have Hq := hid hq
  clear hq
  have Hx := hid hx
  have Hy := hid hy
  have Hk := hid hk
  clear hx hy hk
  have Hcls := hid hcls
  have Hkd := hid hkd
  have Hkk := hid hkk
  clear hcls hkd hkk
  go_enter Tryd.func18, Tryd.ntmps18
  go_wp2_with fail
  refine (class_to _ _ _ Hcls.out _).mono ?_
  rintro e w' ⟨rfl, rfl⟩
  go_wp2_with fail
  refine (refKinds_to _ _ _ _ _ _ _ Hcls.out Hkd.out Hkk.out _).mono ?_
  rintro e w' ⟨rfl, rfl⟩
  go_wp2_with fail
  refine (refMay_any _ _ _).mono ?_
  rintro e w1 ⟨rfl, b1⟩
  have T1 := hid (Trio.new b1)
  obtain ⟨⟨c0, c1⟩, ⟨d0, d1⟩, r0, r1, f0, f1⟩ := T1.out.facts
  clear b1
  go_wp2_with fail
  refine (refMay_any _ _ _).mono ?_
  rintro e w2 ⟨rfl, b2⟩
  have T2 := hid (T1.out.step b2)
  clear b2 c0 c1 d0 d1 r0 r1 f0 f1
  obtain ⟨⟨c0, c1⟩, ⟨d0, d1⟩, r0, r1, f0, f1⟩ := T2.out.facts
  go_wp2_with fail
  refine wp_region_quiet_below (by kernel_rfl) (by kernel_rfl) ?_
  have hbc := fun (x : Bw w2) => (T2.out.step x.h).facts
  simp only [forall_and] at hbc
  obtain ⟨⟨hb1, hb2⟩, ⟨hb3, hb4⟩, -⟩ := hbc
  go_big_quiet_step (fail)
  go_big_quiet_step ((go_at_call 36; exact Calls.bw (refUnsigned_to c n x Hx.out _)))
  go_big_quiet_step (fail)
  go_big_quiet_step ((go_at_call 36; exact Calls.bw (refUnsigned_to c m y Hy.out _)))
  repeat (go_big_quiet_step (fail))
  refine wpQuiet_nil ?_
  rintro _ ⟨q, rfl⟩
  obtain ⟨w3, hw3⟩ : ∃ w3 : World, w3 = q.w := ⟨_, rfl⟩
  have T3 := hid (T2.out.step q.h)
  rw [← hw3] at T3 ⊢
  clear hw3 q c0 c1 d0 d1 r0 r1 f0 f1 hb1 hb2 hb3 hb4
  obtain ⟨⟨c0, c1⟩, ⟨d0, d1⟩, r0, r1, f0, f1⟩ := T3.out.facts
  go_wp2_with fail
  refine (refCompare_any _ _ _ _ _ Hq.out _).mono ?_
  rintro e w' ⟨rfl, rfl⟩
  go_wp2_with fail
  refine (refTruth_any _ _).mono ?_
  rintro e w4 ⟨rfl, b4⟩
  have T4 := hid (T3.out.step b4)
  clear b4 c0 c1 d0 d1 r0 r1 f0 f1
  obtain ⟨⟨c0, c1⟩, ⟨d0, d1⟩, r0, r1, f0, f1⟩ := T4.out.facts
  go_wp2_with fail
  obtain ⟨⟨q0, q1⟩, q2⟩ := T4.out.done (.int .i64 1) (.int .i64 (tr (cmpS b n m x y)))
  exact bodyPost_ret (v := .tuple #[av 1 (tr (cmpS b n m x y)), .int .i64 0]) (by simp [results, Tryd.results18, go_sem, q0, q1]) rfl ⟨rfl, q2⟩

set_option maxRecDepth 20000 in
set_option maxHeartbeats 1000000 in
theorem refTwo_div (op c b n m : Int) (hcls : cls op = (c, b)) (nk : Nat) (kk r : Int) (t : Bool) (hkd : kindsS b c = (nk, r, t)) (hkk : (if nk = 0 then 0 else c) = kk) (h0 : t = true) (h5 : ((nk : Int) != 2) = false) (h1 : okv c n = true) (h2 : okv c m = true) (hk : c = 1 ∨ c = 2) (x y : Int) (hx : un c n = x) (hy : un c m = y) (hb : b = 109 ∨ b = 110 ∨ b = 111 ∨ b = 112) (hn : -9223372036854775808 ≤ n ∧ n ≤ 9223372036854775807) (hm : -9223372036854775808 ≤ m ∧ m ≤ 9223372036854775807) (k' n' t' : Int) (h : divS b c n m (un c n) (un c m) = (k', n', t')) (w : World) :
    Calls Tryd.prog 18 #[.int .i64 op, av c n, av c m] w fun e w' => e = .returned (.tuple #[av k' n', .int .i64 t']) ∧ Below w.heap.size w w' := by
  subst h0
  have eb : decide (b ≤ 79) = false := by simp; omega
  have e1 : decide (109 ≤ b) = true := by simp; omega
  have e2 : decide (b ≤ 112) = true := by simp; omega
  have H := refDivide_to b c n m k' n' t' hb hk h2 hn hm h
  rw [hx, hy] at H
  clear hb h hn hm
  have Hx := hid hx
  have Hy := hid hy
  have Hk := hid hk
  clear hx hy hk
  have Hcls := hid hcls
  have Hkd := hid hkd
  have Hkk := hid hkk
  clear hcls hkd hkk
  go_enter Tryd.func18, Tryd.ntmps18
  go_wp2_with fail
  refine (class_to _ _ _ Hcls.out _).mono ?_
  rintro e w' ⟨rfl, rfl⟩
  go_wp2_with fail
  refine (refKinds_to _ _ _ _ _ _ _ Hcls.out Hkd.out Hkk.out _).mono ?_
  rintro e w' ⟨rfl, rfl⟩
  go_wp2_with fail
  refine (refMay_any _ _ _).mono ?_
  rintro e w1 ⟨rfl, b1⟩
  have T1 := hid (Trio.new b1)
  obtain ⟨⟨c0, c1⟩, ⟨d0, d1⟩, r0, r1, f0, f1⟩ := T1.out.facts
  clear b1
  go_wp2_with fail
  refine (refMay_any _ _ _).mono ?_
  rintro e w2 ⟨rfl, b2⟩
  have T2 := hid (T1.out.step b2)
  clear b2 c0 c1 d0 d1 r0 r1 f0 f1
  obtain ⟨⟨c0, c1⟩, ⟨d0, d1⟩, r0, r1, f0, f1⟩ := T2.out.facts
  go_wp2_with fail
  refine wp_region_quiet_below (by kernel_rfl) (by kernel_rfl) ?_
  have hbc := fun (x : Bw w2) => (T2.out.step x.h).facts
  simp only [forall_and] at hbc
  obtain ⟨⟨hb1, hb2⟩, ⟨hb3, hb4⟩, -⟩ := hbc
  go_big_quiet_step (fail)
  go_big_quiet_step ((go_at_call 36; exact Calls.bw (refUnsigned_to c n x Hx.out _)))
  go_big_quiet_step (fail)
  go_big_quiet_step ((go_at_call 36; exact Calls.bw (refUnsigned_to c m y Hy.out _)))
  repeat (go_big_quiet_step (fail))
  refine wpQuiet_nil ?_
  rintro _ ⟨q, rfl⟩
  obtain ⟨w3, hw3⟩ : ∃ w3 : World, w3 = q.w := ⟨_, rfl⟩
  have T3 := hid (T2.out.step q.h)
  rw [← hw3] at T3 ⊢
  clear hw3 q c0 c1 d0 d1 r0 r1 f0 f1 hb1 hb2 hb3 hb4
  obtain ⟨⟨c0, c1⟩, ⟨d0, d1⟩, r0, r1, f0, f1⟩ := T3.out.facts
  go_wp2_with fail
  refine (H _).mono ?_
  rintro e w4 ⟨rfl, b4⟩
  have T4 := hid (T3.out.step b4)
  clear b4 c0 c1 d0 d1 r0 r1 f0 f1
  obtain ⟨⟨c0, c1⟩, ⟨d0, d1⟩, r0, r1, f0, f1⟩ := T4.out.facts
  go_wp2_with fail
  obtain ⟨⟨q0, q1⟩, q2⟩ := T4.out.done (.int .i64 k') (.int .i64 n')
  exact bodyPost_ret (v := .tuple #[av k' n', .int .i64 t']) (by simp [results, Tryd.results18, go_sem, q0, q1]) rfl ⟨rfl, q2⟩

set_option maxRecDepth 20000 in
set_option maxHeartbeats 1000000 in
theorem refTwo_calc (op c b n m : Int) (hcls : cls op = (c, b)) (nk : Nat) (kk r : Int) (t : Bool) (hkd : kindsS b c = (nk, r, t)) (hkk : (if nk = 0 then 0 else c) = kk) (h0 : t = true) (h5 : ((nk : Int) != 2) = false) (h1 : okv c n = true) (h2 : okv c m = true) (hk : c = 1 ∨ c = 2) (x y : Int) (hx : un c n = x) (hy : un c m = y) (hb : 106 ≤ b ∧ b ≤ 120) (hb2 : b < 109 ∨ 112 < b) (f s : Int) (hf : (c = 1 ∧ f = 32) ∨ (c = 2 ∧ f = 64)) (hs : y % f = s) (z : Int) (hz : sg c (wrap64 (refRaw b n x y f s)) = z) (w : World) :
    Calls Tryd.prog 18 #[.int .i64 op, av c n, av c m] w fun e w' => e = .returned (.tuple #[av c z, .int .i64 0]) ∧ Below w.heap.size w w' := by
  subst h0
  have eb : decide (b ≤ 79) = false := by simp; omega
  have e12 : (decide (109 ≤ b) = true ∧ decide (b ≤ 112) = false) ∨ decide (109 ≤ b) = false := by simp; omega
  have hx1 := un_in c n
  have hy1 := un_in c m
  rw [hx] at hx1
  rw [hy] at hy1
  have hf1 : 32 ≤ f ∧ f ≤ 64 := by omega
  have hs1 : 0 ≤ s ∧ s < f := by rw [← hs]; exact ⟨Int.emod_nonneg _ (by omega), Int.emod_lt_of_pos _ (by omega)⟩
  have hf0 : (f == 0) = false := by simp; omega
  have Hf := hid hf
  have Hz := hid hz
  have Hb := hid hb
  have Hb2 := hid hb2
  clear hb hb2 hf hz
  rcases e12 with ⟨e1, e2⟩ | e1
  all_goals
    have Hx := hid hx
    have Hy := hid hy
    have Hk := hid hk
    clear hx hy hk
    have Hcls := hid hcls
    have Hkd := hid hkd
    have Hkk := hid hkk
    clear hcls hkd hkk
    go_enter Tryd.func18, Tryd.ntmps18
    go_wp2_with fail
    refine (class_to _ _ _ Hcls.out _).mono ?_
    rintro e w' ⟨rfl, rfl⟩
    go_wp2_with fail
    refine (refKinds_to _ _ _ _ _ _ _ Hcls.out Hkd.out Hkk.out _).mono ?_
    rintro e w' ⟨rfl, rfl⟩
    go_wp2_with fail
    refine (refMay_any _ _ _).mono ?_
    rintro e w1 ⟨rfl, b1⟩
    have T1 := hid (Trio.new b1)
    obtain ⟨⟨c0, c1⟩, ⟨d0, d1⟩, r0, r1, f0, f1⟩ := T1.out.facts
    clear b1
    go_wp2_with fail
    refine (refMay_any _ _ _).mono ?_
    rintro e w2 ⟨rfl, b2⟩
    have T2 := hid (T1.out.step b2)
    clear b2 c0 c1 d0 d1 r0 r1 f0 f1
    obtain ⟨⟨c0, c1⟩, ⟨d0, d1⟩, r0, r1, f0, f1⟩ := T2.out.facts
    go_wp2_with fail
    refine wp_region_quiet_below (by kernel_rfl) (by kernel_rfl) ?_
    have hbc := fun (x : Bw w2) => (T2.out.step x.h).facts
    simp only [forall_and] at hbc
    obtain ⟨⟨hb1, hb2⟩, ⟨hb3, hb4⟩, -⟩ := hbc
    go_big_quiet_step (fail)
    go_big_quiet_step ((go_at_call 36; exact Calls.bw (refUnsigned_to c n x Hx.out _)))
    go_big_quiet_step (fail)
    go_big_quiet_step ((go_at_call 36; exact Calls.bw (refUnsigned_to c m y Hy.out _)))
    repeat (go_big_quiet_step (fail))
    refine wpQuiet_nil ?_
    rintro _ ⟨q, rfl⟩
    obtain ⟨w3, hw3⟩ : ∃ w3 : World, w3 = q.w := ⟨_, rfl⟩
    have T3 := hid (T2.out.step q.h)
    rw [← hw3] at T3 ⊢
    clear hw3 q c0 c1 d0 d1 r0 r1 f0 f1 hb1 hb2 hb3 hb4
    obtain ⟨⟨c0, c1⟩, ⟨d0, d1⟩, r0, r1, f0, f1⟩ := T3.out.facts
    go_wp2_with fail
    refine (refBits_to _ _ Hf.out _).mono ?_
    rintro e w' ⟨rfl, rfl⟩
    go_upto_block 0 with fail
    go_cut [18] from 98 (fun v w' => (∃ q, v = .int .u64 q ∧ q = refRaw b n x y f s) ∧ w' = w3)
    case first =>
      go_wp2_with fail
      all_goals (try simp only [beq_iff_eq, beq_eq_false_iff_ne, ne_eq] at *)
      all_goals first
        | (exfalso; have q1 := Hb.out; have q2 := Hb2.out; omega)
        | (go_meet
           case rel =>
             refine ⟨⟨_, rfl, ?_⟩, rfl⟩
             unfold refRaw
             repeat (first | rw [if_neg (by assumption)] | rw [if_pos (by assumption)]))
    case rest =>
      obtain ⟨⟨q, rfl, hq⟩, rfl⟩ := hcut
      have hq' : sg c (wrap64 q) = z := by rw [hq]; exact Hz.out
      have Hq := hid hq'
      clear hq hq'
      go_wp2_with fail
      refine (refWrap_eq _ _ z Hk.out (wrap64_in _) Hq.out _).mono ?_
      rintro e w4 ⟨rfl, b4⟩
      have T4 := hid (T3.out.step b4)
      clear b4 c0 c1 d0 d1 r0 r1 f0 f1
      obtain ⟨⟨c0, c1⟩, ⟨d0, d1⟩, r0, r1, f0, f1⟩ := T4.out.facts
      go_wp2_with fail
      obtain ⟨⟨q0, q1⟩, q2⟩ := T4.out.done (.int .i64 c) (.int .i64 z)
      exact bodyPost_ret (v := .tuple #[av c z, .int .i64 0]) (by simp [results, Tryd.results18, go_sem, q0, q1]) rfl ⟨rfl, q2⟩
end Go.Proofs.YtiohgigbnncpiaaDoor
