/- One of ints: how many noughts lead. -/
import Derived.Test.YtiohgigbnncpiaaDoorIntOne
import Derived.Test.YtiohgigbnncpiaaDoorRegionTail
namespace Go.Proofs.YtiohgigbnncpiaaDoor
open Go.RowKit

set_option maxHeartbeats 1000000 in
theorem one_clz (op c n : Int) (hcls : cls op = (c, 103)) (hn : -9223372036854775808 ≤ n ∧ n ≤ 9223372036854775807) (h1 : okv c n = true) (hk : c = 1 ∨ c = 2) (u : Int) (hu : un c n = u) (p f r : Int) (hp : (Lib.bitLen u.toNat : Int) = p) (hf : (if c = 1 then 32 else 64) = f) (hr : f - p = r) (w : World) :
    Calls Tryd.prog 15 #[.int .i64 op, av c n] w fun e w' => e = .returned (.tuple #[av c (sg c r), .bool true]) ∧ Below w.heap.size w w' := by
  have hu1 := un_in c n
  rw [hu] at hu1
  have hp64 : p ≤ 64 := by
    have := Lib.bitLen_le u.toNat 64 (by decide) (by omega)
    omega
  have hp0 : 0 ≤ p := by omega
  have hf1 : 0 ≤ f ∧ f ≤ 64 := by rcases hk with rfl | rfl <;> simp at hf <;> omega
  have ho := fun w => len64_any u w hu1.1 hu1.2
  rw [hp] at ho
  have Hr : Hid (-9223372036854775808 ≤ r ∧ r ≤ 9223372036854775807) := hid (by omega)
  have Hu := hid hu
  have Hk := hid hk
  have Hf := hid hf
  clear hu hk hp hf
  have Hcls := hid hcls
  have Hn := hid hn
  clear hcls hn
  go_enter Tryd.func15, Tryd.ntmps15
  go_wp2_with fail
  refine (split_to _ _ _ Hcls.out _).mono ?_
  rintro e w' ⟨rfl, rfl⟩
  go_wp2_with fail
  refine (may_any _ _ Hn.out _).mono ?_
  rintro e wq ⟨rfl, b1⟩
  have T1 := hid (Twin.new b1)
  obtain ⟨⟨c0, c1⟩, r0, r1, f0, f1⟩ := T1.out.facts
  clear b1
  go_wp2_with fail
  refine wp_region_below_tail 8 (by kernel_rfl) [Is (.int .i64 c), Is (.int .i64 c), Is (.int .i64 f), Is (av c n), Is (.int .u64 u), Is (.int .i64 p), Is (.int .i64 r), Is (av c (sg c r))] [0, 1, 2, 3, 4, 5, 6, 7] rfl (by kernel_rfl) rfl (by kernel_rfl) ?hopA ?hstA ?hendA
  case hopA =>
    refine ⟨⟨⟨_, _, _, _, _, _⟩, _, Is (.int .i64 c), none, [], [(6, .int .i64 c)], rfl, rfl, rfl, rfl, rfl, ⟨⟨by kernel_rfl, rfl⟩, trivial⟩, ?_⟩, ?_⟩
    · intro a w1 hC e6
      refine Or.inl ⟨.int .i64 c, ?_, rfl⟩
      go_simp
    refine ⟨⟨⟨_, _, _, _, _, _⟩, _, Is (.int .i64 c), none, [], [(6, .int .i64 c)], rfl, rfl, rfl, rfl, rfl, ⟨⟨by kernel_rfl, rfl⟩, trivial⟩, ?_⟩, ?_⟩
    · intro a w1 hC e6
      refine Or.inl ⟨.int .i64 c, ?_, rfl⟩
      go_simp
    refine ⟨⟨⟨_, _, _, _, _, _⟩, _, Is (.int .i64 f), none, [(some 33, Is (.int .i64 c))], [], rfl, rfl, rfl, rfl, rfl, trivial, ?_⟩, ?_⟩
    · intro a w1 hC  (h1 : a.tmps.getD 33 undef = _)
      refine Or.inr (Or.inl ⟨30, #[.int .i64 c], ?_, ?_⟩)
      · go_simp
      · refine (size_to _ _ Hf.out w1).mono ?_
        rintro e w2 ⟨rfl, rfl⟩
        exact ⟨_, rfl, rfl, Below.refl _ _⟩
    refine ⟨⟨⟨_, _, _, _, _, _⟩, _, Is (av c n), none, [], [(3, .pointer (some ⟨w.heap.size, 0, none⟩))], rfl, rfl, rfl, rfl, rfl, ⟨⟨by kernel_rfl, rfl⟩, trivial⟩, ?_⟩, ?_⟩
    · intro a w1 hC e3
      refine Or.inl ⟨av c n, ?_, rfl⟩
      obtain ⟨⟨c0, c1⟩, -⟩ := (T1.out.step hC).facts
      go_simp
    refine ⟨⟨⟨_, _, _, _, _, _⟩, _, Is (.int .u64 u), none, [(some 35, Is (av c n)), (some 34, Is (.int .i64 f))], [], rfl, rfl, rfl, rfl, rfl, trivial, ?_⟩, ?_⟩
    · intro a w1 hC  (h3 : a.tmps.getD 35 undef = _) (h2 : a.tmps.getD 34 undef = _)
      refine Or.inr (Or.inl ⟨32, #[av c n], ?_, ?_⟩)
      · go_simp
      · refine (unsigned_to _ _ _ Hu.out w1).mono ?_
        rintro e w2 ⟨rfl, hb2⟩
        exact ⟨_, rfl, rfl, hb2⟩
    refine ⟨⟨⟨_, _, _, _, _, _⟩, _, Is (.int .i64 p), none, [(some 36, Is (.int .u64 u)), (some 36, Is (.int .u64 u))], [], rfl, rfl, rfl, rfl, rfl, trivial, ?_⟩, ?_⟩
    · intro a w1 hC  (h4 : a.tmps.getD 36 undef = _) _
      refine Or.inr (Or.inl ⟨31, #[.int .u64 u], ?_, ?_⟩)
      · go_simp
      · refine (ho w1).mono ?_
        rintro e w2 ⟨rfl, rfl⟩
        exact ⟨_, rfl, rfl, Below.refl _ _⟩
    refine ⟨⟨⟨_, _, _, _, _, _⟩, _, Is (.int .i64 r), none, [(some 34, Is (.int .i64 f)), (some 37, Is (.int .i64 p))], [], rfl, rfl, rfl, rfl, rfl, trivial, ?_⟩, ?_⟩
    · intro a w1 hC  (h2 : a.tmps.getD 34 undef = _) (h5 : a.tmps.getD 37 undef = _)
      have hwr : IntKind.i64.wrap r = r := by rw [IntKind.wrap_i64]; omega
      refine Or.inl ⟨.int .i64 r, ?_, rfl⟩
      go_simp
    refine ⟨⟨⟨_, _, _, _, _, _⟩, _, Is (av c (sg c r)), none, [(some 32, Is (.int .i64 c)), (some 38, Is (.int .i64 r)), (some 37, Is (.int .i64 p))], [], rfl, rfl, rfl, rfl, rfl, trivial, ?_⟩, ?_⟩
    · intro a w1 hC  (h0 : a.tmps.getD 32 undef = _) (h6 : a.tmps.getD 38 undef = _) (h5 : a.tmps.getD 37 undef = _)
      refine Or.inr (Or.inl ⟨25, #[.int .i64 c, .int .i64 r], ?_, ?_⟩)
      · go_simp
      · refine (wrap_any c r Hk.out Hr.out w1).mono ?_
        rintro e w2 ⟨rfl, hb2⟩
        exact ⟨_, rfl, rfl, hb2⟩
    exact trivial
  case hstA => exact ⟨Stays.is _, Stays.is _, Stays.is _, Stays.is _, Stays.is _, Stays.is _, Stays.is _, Stays.is _, trivial⟩
  case hendA =>
    intro w1 hC
    rintro _ rfl
    rintro _ rfl
    rintro _ rfl
    rintro _ rfl
    rintro _ rfl
    rintro _ rfl
    rintro _ rfl
    rintro _ rfl
    simp only [Ends, Act.put, List.setIfInBounds_toArray, List.set_cons_succ, List.set_cons_zero, List.drop_succ_cons, List.drop_zero]
    have T2 := hid (T1.out.step hC)
    clear hC
    obtain ⟨⟨c0, c1⟩, r0, r1, f0, f1⟩ := T2.out.facts
    go_wp2_with fail
    obtain ⟨⟨q0, q1⟩, q2⟩ := T2.out.done (.int .i64 c) (.int .i64 (sg c r))
    exact bodyPost_ret (v := .tuple #[av c (sg c r), .bool true]) (by simp [results, Tryd.results15, go_sem, q0, q1]) rfl ⟨rfl, q2⟩
end Go.Proofs.YtiohgigbnncpiaaDoor
