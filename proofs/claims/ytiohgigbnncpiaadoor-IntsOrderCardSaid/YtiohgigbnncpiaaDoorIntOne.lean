/- One of ints: what it answers. -/
import Derived.Test.YtiohgigbnncpiaaDoorIntTwo
import Derived.Test.YtiohgigbnncpiaaDoorIntBits
import Derived.Test.YtiohgigbnncpiaaDoorTrio
namespace Go.Proofs.YtiohgigbnncpiaaDoor
open Go.RowKit

theorem one_bad1 (op c b k n : Int) (hcls : cls op = (c, b)) (hn : -9223372036854775808 ≤ n ∧ n ≤ 9223372036854775807) (h1 : (k != c) = true) (w : World) :
    Calls Tryd.prog 15 #[.int .i64 op, av k n] w fun e w' => e = .returned (.tuple #[av 0 0, .bool false]) ∧ Below w.heap.size w w' := by
  have Hcls := hid hcls
  have Hn := hid hn
  clear hcls hn
  go_enter Tryd.func15, Tryd.ntmps15
  go_wp2_with fail
  refine (split_to _ _ _ Hcls.out _).mono ?_
  rintro e w' ⟨rfl, rfl⟩
  go_wp2_with fail
  go_returns
  exact ⟨rfl, Bl.alloc (Bl.alloc (Bl.refl _) _) _⟩

theorem one_bad2 (op c b n : Int) (hcls : cls op = (c, b)) (hn : -9223372036854775808 ≤ n ∧ n ≤ 9223372036854775807) (h1 : okv c n = false) (w : World) :
    Calls Tryd.prog 15 #[.int .i64 op, av c n] w fun e w' => e = .returned (.tuple #[av 0 0, .bool false]) ∧ Below w.heap.size w w' := by
  have Hcls := hid hcls
  have Hn := hid hn
  clear hcls hn
  go_enter Tryd.func15, Tryd.ntmps15
  go_wp2_with fail
  refine (split_to _ _ _ Hcls.out _).mono ?_
  rintro e w' ⟨rfl, rfl⟩
  go_wp2_with fail
  refine (may_any _ _ Hn.out _).mono ?_
  rintro e w1 ⟨rfl, b1⟩
  have T1 := hid (Twin.new b1)
  obtain ⟨⟨c0, c1⟩, r0, r1, f0, f1⟩ := T1.out.facts
  clear b1
  go_wp2_with fail
  obtain ⟨⟨q0, q1⟩, q2⟩ := T1.out.done (.int .i64 0) (.int .i64 0)
  exact bodyPost_ret (v := .tuple #[av 0 0, .bool false]) (by simp [results, Tryd.results15, go_sem, q0, q1]) rfl ⟨rfl, q2⟩

set_option maxHeartbeats 400000 in
theorem one_none (op c n : Int) (b : Int) (hcls : cls op = (c, b)) (hn : -9223372036854775808 ≤ n ∧ n ≤ 9223372036854775807) (h1 : okv c n = true) (g1 : (b == 69) = false) (g2 : (b == 103) = false) (g3 : (b == 104) = false) (g4 : (b == 105) = false) (g5 : (b == 167) = false) (g6 : (b == 172) = false) (g7 : (b == 173) = false) (w : World) :
    Calls Tryd.prog 15 #[.int .i64 op, av c n] w fun e w' => e = .returned (.tuple #[av 0 0, .bool false]) ∧ Below w.heap.size w w' := by
  have Hcls := hid hcls
  have Hn := hid hn
  clear hcls hn
  go_enter Tryd.func15, Tryd.ntmps15
  go_wp2_with fail
  refine (split_to _ _ _ Hcls.out _).mono ?_
  rintro e w' ⟨rfl, rfl⟩
  go_wp2_with fail
  refine (may_any _ _ Hn.out _).mono ?_
  rintro e w1 ⟨rfl, b1⟩
  have T1 := hid (Twin.new b1)
  obtain ⟨⟨c0, c1⟩, r0, r1, f0, f1⟩ := T1.out.facts
  clear b1
  go_wp2_with fail
  obtain ⟨⟨q0, q1⟩, q2⟩ := T1.out.done (.int .i64 0) (.int .i64 0)
  exact bodyPost_ret (v := .tuple #[av 0 0, .bool false]) (by simp [results, Tryd.results15, go_sem, q0, q1]) rfl ⟨rfl, q2⟩

set_option maxHeartbeats 400000 in
theorem one_eqz (op c n : Int) (hcls : cls op = (c, 69)) (hn : -9223372036854775808 ≤ n ∧ n ≤ 9223372036854775807) (h1 : okv c n = true) (w : World) :
    Calls Tryd.prog 15 #[.int .i64 op, av c n] w fun e w' => e = .returned (.tuple #[av 1 (tr (n == 0)), .bool true]) ∧ Below w.heap.size w w' := by
  have Hcls := hid hcls
  have Hn := hid hn
  clear hcls hn
  go_enter Tryd.func15, Tryd.ntmps15
  go_wp2_with fail
  refine (split_to _ _ _ Hcls.out _).mono ?_
  rintro e w' ⟨rfl, rfl⟩
  go_wp2_with fail
  refine (may_any _ _ Hn.out _).mono ?_
  rintro e w1 ⟨rfl, b1⟩
  have T1 := hid (Twin.new b1)
  obtain ⟨⟨c0, c1⟩, r0, r1, f0, f1⟩ := T1.out.facts
  clear b1
  go_wp2_with fail
  refine (truth_any _ _).mono ?_
  rintro e w2 ⟨rfl, b2⟩
  have T2 := hid (T1.out.step b2)
  clear b2 c0 c1 r0 r1 f0 f1
  obtain ⟨⟨c0, c1⟩, r0, r1, f0, f1⟩ := T2.out.facts
  go_wp2_with fail
  obtain ⟨⟨q0, q1⟩, q2⟩ := T2.out.done (.int .i64 1) (.int .i64 (tr (n == 0)))
  exact bodyPost_ret (v := .tuple #[av 1 (tr (n == 0)), .bool true]) (by simp [results, Tryd.results15, go_sem, q0, q1]) rfl ⟨rfl, q2⟩

set_option maxHeartbeats 400000 in
theorem one_wrap (op c n : Int) (hcls : cls op = (c, 167)) (hn : -9223372036854775808 ≤ n ∧ n ≤ 9223372036854775807) (h1 : okv c n = true) (w : World) :
    Calls Tryd.prog 15 #[.int .i64 op, av c n] w fun e w' => e = .returned (.tuple #[av 1 (sg 1 n), .bool true]) ∧ Below w.heap.size w w' := by
  have Hcls := hid hcls
  have Hn := hid hn
  clear hcls hn
  go_enter Tryd.func15, Tryd.ntmps15
  go_wp2_with fail
  refine (split_to _ _ _ Hcls.out _).mono ?_
  rintro e w' ⟨rfl, rfl⟩
  go_wp2_with fail
  refine (may_any _ _ Hn.out _).mono ?_
  rintro e w1 ⟨rfl, b1⟩
  have T1 := hid (Twin.new b1)
  obtain ⟨⟨c0, c1⟩, r0, r1, f0, f1⟩ := T1.out.facts
  clear b1
  go_wp2_with fail
  refine (wrap_any _ _ (Or.inl rfl) Hn.out _).mono ?_
  rintro e w2 ⟨rfl, b2⟩
  have T2 := hid (T1.out.step b2)
  clear b2 c0 c1 r0 r1 f0 f1
  obtain ⟨⟨c0, c1⟩, r0, r1, f0, f1⟩ := T2.out.facts
  go_wp2_with fail
  obtain ⟨⟨q0, q1⟩, q2⟩ := T2.out.done (.int .i64 1) (.int .i64 (sg 1 n))
  exact bodyPost_ret (v := .tuple #[av 1 (sg 1 n), .bool true]) (by simp [results, Tryd.results15, go_sem, q0, q1]) rfl ⟨rfl, q2⟩

set_option maxHeartbeats 400000 in
theorem one_ext (op c n : Int) (hcls : cls op = (c, 172)) (hn : -9223372036854775808 ≤ n ∧ n ≤ 9223372036854775807) (h1 : okv c n = true) (w : World) :
    Calls Tryd.prog 15 #[.int .i64 op, av c n] w fun e w' => e = .returned (.tuple #[av 2 (sg 2 n), .bool true]) ∧ Below w.heap.size w w' := by
  have Hcls := hid hcls
  have Hn := hid hn
  clear hcls hn
  go_enter Tryd.func15, Tryd.ntmps15
  go_wp2_with fail
  refine (split_to _ _ _ Hcls.out _).mono ?_
  rintro e w' ⟨rfl, rfl⟩
  go_wp2_with fail
  refine (may_any _ _ Hn.out _).mono ?_
  rintro e w1 ⟨rfl, b1⟩
  have T1 := hid (Twin.new b1)
  obtain ⟨⟨c0, c1⟩, r0, r1, f0, f1⟩ := T1.out.facts
  clear b1
  go_wp2_with fail
  refine (wrap_any _ _ (Or.inr rfl) Hn.out _).mono ?_
  rintro e w2 ⟨rfl, b2⟩
  have T2 := hid (T1.out.step b2)
  clear b2 c0 c1 r0 r1 f0 f1
  obtain ⟨⟨c0, c1⟩, r0, r1, f0, f1⟩ := T2.out.facts
  go_wp2_with fail
  obtain ⟨⟨q0, q1⟩, q2⟩ := T2.out.done (.int .i64 2) (.int .i64 (sg 2 n))
  exact bodyPost_ret (v := .tuple #[av 2 (sg 2 n), .bool true]) (by simp [results, Tryd.results15, go_sem, q0, q1]) rfl ⟨rfl, q2⟩

set_option maxHeartbeats 400000 in
theorem one_extu (op c n : Int) (hcls : cls op = (c, 173)) (hn : -9223372036854775808 ≤ n ∧ n ≤ 9223372036854775807) (h1 : okv c n = true) (u : Int) (hu : un c n = u) (w : World) :
    Calls Tryd.prog 15 #[.int .i64 op, av c n] w fun e w' => e = .returned (.tuple #[av 2 (sg 2 (wrap64 u)), .bool true]) ∧ Below w.heap.size w w' := by
  have hu1 := un_in c n
  rw [hu] at hu1
  have Hu := hid hu
  clear hu
  have Hcls := hid hcls
  have Hn := hid hn
  clear hcls hn
  go_enter Tryd.func15, Tryd.ntmps15
  go_wp2_with fail
  refine (split_to _ _ _ Hcls.out _).mono ?_
  rintro e w' ⟨rfl, rfl⟩
  go_wp2_with fail
  refine (may_any _ _ Hn.out _).mono ?_
  rintro e w1 ⟨rfl, b1⟩
  have T1 := hid (Twin.new b1)
  obtain ⟨⟨c0, c1⟩, r0, r1, f0, f1⟩ := T1.out.facts
  clear b1
  go_wp2_with fail
  refine (unsigned_to _ _ _ Hu.out _).mono ?_
  rintro e w2 ⟨rfl, b2⟩
  have T2 := hid (T1.out.step b2)
  clear b2 c0 c1 r0 r1 f0 f1
  obtain ⟨⟨c0, c1⟩, r0, r1, f0, f1⟩ := T2.out.facts
  go_wp2_with fail
  refine (wrap_any _ _ (Or.inr rfl) (wrap64_in _) _).mono ?_
  rintro e w3 ⟨rfl, b3⟩
  have T3 := hid (T2.out.step b3)
  clear b3 c0 c1 r0 r1 f0 f1
  obtain ⟨⟨c0, c1⟩, r0, r1, f0, f1⟩ := T3.out.facts
  go_wp2_with fail
  obtain ⟨⟨q0, q1⟩, q2⟩ := T3.out.done (.int .i64 2) (.int .i64 (sg 2 (wrap64 u)))
  exact bodyPost_ret (v := .tuple #[av 2 (sg 2 (wrap64 u)), .bool true]) (by simp [results, Tryd.results15, go_sem, q0, q1]) rfl ⟨rfl, q2⟩

set_option maxHeartbeats 400000 in
theorem one_pop (op c n : Int) (hcls : cls op = (c, 105)) (hn : -9223372036854775808 ≤ n ∧ n ≤ 9223372036854775807) (h1 : okv c n = true) (hk : c = 1 ∨ c = 2) (u : Nat) (hu : un c n = u) (p : Nat) (hp : pc 64 u = p) (w : World) :
    Calls Tryd.prog 15 #[.int .i64 op, av c n] w fun e w' => e = .returned (.tuple #[av c (sg c p), .bool true]) ∧ Below w.heap.size w w' := by
  have hu1 := un_in c n
  rw [hu] at hu1
  have hu2 : Hid (u < 18446744073709551616) := hid (by omega)
  have hp64 : p ≤ 64 := by rw [← hp]; exact pc_le _ _
  have Hu := hid hu
  have Hk := hid hk
  have ho := ones64_any u
  rw [hp] at ho
  clear hu hk hp
  have Hcls := hid hcls
  have Hn := hid hn
  clear hcls hn
  go_enter Tryd.func15, Tryd.ntmps15
  go_wp2_with fail
  refine (split_to _ _ _ Hcls.out _).mono ?_
  rintro e w' ⟨rfl, rfl⟩
  go_wp2_with fail
  refine (may_any _ _ Hn.out _).mono ?_
  rintro e w1 ⟨rfl, b1⟩
  have T1 := hid (Twin.new b1)
  obtain ⟨⟨c0, c1⟩, r0, r1, f0, f1⟩ := T1.out.facts
  clear b1
  go_wp2_with fail
  refine (unsigned_to _ _ _ Hu.out _).mono ?_
  rintro e w2 ⟨rfl, b2⟩
  have T2 := hid (T1.out.step b2)
  clear b2 c0 c1 r0 r1 f0 f1
  obtain ⟨⟨c0, c1⟩, r0, r1, f0, f1⟩ := T2.out.facts
  go_wp2_with fail
  refine (ho _ hu2.out).mono ?_
  rintro e w' ⟨rfl, rfl⟩
  go_wp2_with fail
  refine (wrap_any _ _ Hk.out (by omega) _).mono ?_
  rintro e w3 ⟨rfl, b3⟩
  have T3 := hid (T2.out.step b3)
  clear b3 c0 c1 r0 r1 f0 f1
  obtain ⟨⟨c0, c1⟩, r0, r1, f0, f1⟩ := T3.out.facts
  go_wp2_with fail
  obtain ⟨⟨q0, q1⟩, q2⟩ := T3.out.done (.int .i64 c) (.int .i64 (sg c p))
  exact bodyPost_ret (v := .tuple #[av c (sg c p), .bool true]) (by simp [results, Tryd.results15, go_sem, q0, q1]) rfl ⟨rfl, q2⟩

set_option maxHeartbeats 400000 in
theorem one_ctz (op c n : Int) (hcls : cls op = (c, 104)) (hn : -9223372036854775808 ≤ n ∧ n ≤ 9223372036854775807) (h1 : okv c n = true) (hk : c = 1 ∨ c = 2) (u : Nat) (hu : un c n = u) (p f : Nat) (hp : Lib.ctz 64 u = p) (hp1 : p ≤ 64) (hf : (if c = 1 then 32 else 64) = (f : Int)) (w : World) (hL : Laid w) :
    Calls Tryd.prog 15 #[.int .i64 op, av c n] w fun e w' => e = .returned (.tuple #[av c (sg c (min p f : Nat)), .bool true]) ∧ Below w.heap.size w w' := by
  have hu1 := un_in c n
  rw [hu] at hu1
  have hf1 : f ≤ 64 := by rcases hk with rfl | rfl <;> simp at hf <;> omega
  have hu2 : Hid (u < 18446744073709551616) := hid (by omega)
  have Hu := hid hu
  have Hk := hid hk
  have Hf := hid hf
  have ho := tz64_any u
  rw [hp] at ho
  have HL := hid hL
  obtain ⟨r, hr⟩ : ∃ r, r = min p f := ⟨_, rfl⟩
  have e1 : min (p : Int) (f : Int) = (r : Int) := by omega
  have e2 : (if (f : Int) < p then (f : Int) else p) = (r : Int) := by split <;> omega
  have hr1 : r ≤ 64 := by omega
  rw [← hr]
  clear hu hk hp hf hL hr
  have Hcls := hid hcls
  have Hn := hid hn
  clear hcls hn
  go_enter Tryd.func15, Tryd.ntmps15
  go_wp2_with fail
  refine (split_to _ _ _ Hcls.out _).mono ?_
  rintro e w' ⟨rfl, rfl⟩
  go_wp2_with fail
  refine (may_any _ _ Hn.out _).mono ?_
  rintro e w1 ⟨rfl, b1⟩
  have T1 := hid (Twin.new b1)
  obtain ⟨⟨c0, c1⟩, r0, r1, f0, f1⟩ := T1.out.facts
  clear b1
  go_wp2_with fail
  refine (unsigned_to _ _ _ Hu.out _).mono ?_
  rintro e w2 ⟨rfl, b2⟩
  have T2 := hid (T1.out.step b2)
  clear b2 c0 c1 r0 r1 f0 f1
  obtain ⟨⟨c0, c1⟩, r0, r1, f0, f1⟩ := T2.out.facts
  go_wp2_with fail
  refine (ho _ hu2.out (HL.out.below T2.out.bl)).mono ?_
  rintro e w' ⟨rfl, rfl⟩
  go_wp2_with fail
  refine (size_to _ _ Hf.out _).mono ?_
  rintro e w' ⟨rfl, rfl⟩
  go_wp2_with fail
  refine (wrap_any _ _ Hk.out (by omega) _).mono ?_
  rintro e w3 ⟨rfl, b3⟩
  have T3 := hid (T2.out.step b3)
  clear b3 c0 c1 r0 r1 f0 f1
  obtain ⟨⟨c0, c1⟩, r0, r1, f0, f1⟩ := T3.out.facts
  go_wp2_with fail
  obtain ⟨⟨q0, q1⟩, q2⟩ := T3.out.done (.int .i64 c) (.int .i64 (sg c r))
  exact bodyPost_ret (v := .tuple #[av c (sg c r), .bool true]) (by simp [results, Tryd.results15, go_sem, q0, q1]) rfl ⟨rfl, q2⟩

end Go.Proofs.YtiohgigbnncpiaaDoor
