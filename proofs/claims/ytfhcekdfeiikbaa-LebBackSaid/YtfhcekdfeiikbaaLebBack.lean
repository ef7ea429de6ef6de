import Derived.Test.YtfhcekdfeiikbaaLebFits
import Derived.Deep.Cut
namespace Go.Proofs.Ytfhcekdfeiikbaa
open Go.RowKit

theorem str_append (xs ys : List Int) : strOfNums (xs ++ ys) = strOfNums xs ++ strOfNums ys := by
  refine ByteArray.ext ?_
  rw [ByteArray.data_append]
  refine Array.toList_inj.1 ?_
  rw [Array.toList_append, strOfNums_data, strOfNums_data, strOfNums_data, List.map_append]
theorem str_size (xs : List Int) : (strOfNums xs).size = xs.length := by
  have h := congrArg List.length (strOfNums_data xs)
  rw [List.length_map] at h
  rw [← h, Array.length_toList]
  rfl
theorem elem_u8 : Try.prog.underlying 22 = some (.slice (Try.prog.elem 22)) := by kernel_rfl
theorem size_u8 (w : World) : (sizeOf (Try.prog.elem 22)).run Try.prog w = .ok 1 w := by kernel_rfl

set_option maxRecDepth 100000 in
set_option maxHeartbeats 3200000 in
theorem lebBack_walk (pa pb : Option Addr) (n0 c0 n1 c1 : Nat) (xs ys : List Int) (u s bits : Int) (w : World) (h0 : Rd .u8 w pa n0 c0 xs) (h1 : Rd .u8 w pb n1 c1 ys)
    (hu : 0 ≤ u ∧ u ≤ 18446744073709551615) (hs : -9223372036854775808 ≤ s ∧ s ≤ 9223372036854775807) (hb : -9223372036854775808 ≤ bits ∧ bits ≤ 9223372036854775807) :
    Calls Try.prog 3 #[.slice pa n0 c0, .slice pb n1 c1, .int .u64 u, .int .i64 s, .int .i64 bits] w fun e w' => e = .returned (.bool true) ∧ Below w.heap.size w w' := by
  obtain ⟨hu0, hu1⟩ := hu
  obtain ⟨hs0, hs1⟩ := hs
  obtain ⟨hb0, hb1⟩ := hb
  have s0 := h0.short 10
  have s1 := h1.short 10
  have l0 := h0.le
  have l1 := h1.le
  have m0 := h0.cap63
  have m1 := h1.cap63
  obtain ⟨x, hx⟩ : ∃ x, x = xs.take (min n0 10) := ⟨_, rfl⟩
  obtain ⟨y, hy⟩ : ∃ y, y = ys.take (min n1 10) := ⟨_, rfl⟩
  rw [← hx] at s0
  rw [← hy] at s1
  obtain ⟨p, hp⟩ : ∃ p, p = min n0 10 := ⟨_, rfl⟩
  obtain ⟨q, hq⟩ : ∃ q, q = min n1 10 := ⟨_, rfl⟩
  have HS0 := hid (short_any pa n0 c0 10 · l0 m0 (by omega))
  have HS1 := hid (short_any pb n1 c1 10 · l1 m1 (by omega))
  rw [← hp] at s0 HS0
  rw [← hq] at s1 HS1
  have hp3 : p ≤ 10 := by omega
  have hq3 : q ≤ 10 := by omega
  have hlx := s0.len
  have hly := s1.len
  have hlx3 : x.length ≤ 10 := by omega
  have hly3 : y.length ≤ 10 := by omega
  have hpc := s0.le
  clear hx hy hp hq h0 h1 l0 l1
  have Hlx := hid hlx
  have Hly := hid hly
  have W0 := hid s0
  have W1 := hid s1
  clear s0 s1 hlx hly
  obtain ⟨eu, heu⟩ : ∃ z, z = encU 9 u := ⟨_, rfl⟩
  obtain ⟨es, hes⟩ : ∃ z, z = encS 9 s := ⟨_, rfl⟩
  have leu := encU_len 9 u
  have les := encS_len 9 s
  rw [← heu] at leu
  rw [← hes] at les
  have Heu := hid heu
  have Hes := hid hes
  clear heu hes
  go_enter Try.func3, Try.ntmps3
  go_wp2_with fail
  refine (begun_any w).mono ?_
  rintro e w1 ⟨rfl, b1⟩
  go_wp2_with fail
  refine (HS0.out w1).mono ?_
  rintro e w' ⟨rfl, rfl⟩
  go_wp2_with fail
  refine (HS1.out w1).mono ?_
  rintro e w' ⟨rfl, rfl⟩
  have S1 := hid (W0.out.below b1)
  have hz1 := b1.size
  go_wp2_with (first
    | (at_builtin; refine wpList_append_rd rfl (.const (.slice none 0 0)) _ 22 rfl 5 .u8 w1.heap.size 1 Try.underlying22 infoU8 _ [] rfl (Own.nil _ _ _ _) pa p c0 x rfl S1.out (by simp; omega) (by simp; omega) (Nat.le_refl _) ?_; intro v2 w2 o2 b2 _)
    | fail)
  have B2 : Below w.heap.size w w2 := b1.trans (b2.mono hz1)
  rw [List.nil_append] at o2
  obtain ⟨p2, c2, rfl, r2⟩ := o2.rd
  rw [Hlx.out] at r2 ⊢
  refine (putU_any p2 p c2 x u w2 r2 (by omega) hu0 hu1).mono ?_
  rintro e w3 ⟨v3, rfl, o3, b3⟩
  rw [← Heu.out] at o3
  obtain ⟨za, hza⟩ : ∃ z, z = x ++ eu := ⟨_, rfl⟩
  rw [← hza] at o3
  obtain ⟨pA, cA, rfl, rA⟩ := o3.rd
  obtain ⟨nA, hnA⟩ : ∃ n, n = za.length := ⟨_, rfl⟩
  rw [← hnA] at rA ⊢
  have hnA1 : nA = p + eu.length := by rw [hnA, hza, List.length_append, Hlx.out]
  have Hza := hid hza
  have HnA := hid hnA1
  have B3 : Below w.heap.size w w3 := B2.trans (b3.mono B2.size)
  have S3 := hid (W0.out.below B3)
  clear hza hnA hnA1 o2 o3 r2
  go_wp2_with (first
    | (at_builtin; refine wpList_append_rd rfl (.const (.slice none 0 0)) _ 22 rfl 5 .u8 w3.heap.size 1 Try.underlying22 infoU8 _ [] rfl (Own.nil _ _ _ _) pa p c0 x rfl S3.out (by simp; omega) (by simp; omega) (Nat.le_refl _) ?_; intro v4 w4 o4 b4 _)
    | fail)
  have B4 : Below w.heap.size w w4 := B3.trans (b4.mono B3.size)
  rw [List.nil_append] at o4
  obtain ⟨p4, c4, rfl, r4⟩ := o4.rd
  rw [Hlx.out] at r4 ⊢
  refine (putS_any p4 p c4 x s w4 r4 (by omega) hs0 hs1).mono ?_
  rintro e w5 ⟨v5, rfl, o5, b5⟩
  rw [← Hes.out] at o5
  obtain ⟨zb, hzb⟩ : ∃ z, z = x ++ es := ⟨_, rfl⟩
  rw [← hzb] at o5
  obtain ⟨pB, cB, rfl, rB⟩ := o5.rd
  obtain ⟨nB, hnB⟩ : ∃ n, n = zb.length := ⟨_, rfl⟩
  rw [← hnB] at rB ⊢
  have hnB1 : nB = p + es.length := by rw [hnB, hzb, List.length_append, Hlx.out]
  have Hzb := hid hzb
  have HnB := hid hnB1
  have B5 : Below w.heap.size w w5 := B4.trans (b5.mono B4.size)
  have R0 := hid (W0.out.below B5)
  have RA := hid (rA.below (b4.trans (b5.mono b4.size)))
  have RB := hid rB
  clear hzb hnB hnB1 o4 o5 r4 rA rB b1 b2 b3 b4 b5 B2 B3 B4 S1 S3 hz1
  go_wp2_with fail
  refine wp_region_below (by kernel_rfl) [Is ?vB0, Is (.string (strOfNums za)), Is ?vB2, Is (.string (strOfNums x)), Is ?vB4, IsRd .u8 eu, Is (.string (strOfNums eu)), Is (.string (strOfNums za)), Is (.bool false), Is (.bool false), Is ?vB10, Is (.string (strOfNums zb)), Is ?vB12, Is (.string (strOfNums x)), Is ?vB14, IsRd .u8 es, Is (.string (strOfNums es)), Is (.string (strOfNums zb)), Is (.bool false), Is (.bool false)] [0, 1, 2, 3, 4, 5, 6, 7, 8, 9, 10, 11, 12, 13, 14, 15, 16, 17, 18, 19] rfl (by kernel_rfl) rfl ?hopB ?hstB ?hendB
  case hopB =>
    refine ⟨⟨⟨_, _, _, _, _, _⟩, _, Is ?vB0, none, [], [(12, .slice pA nA cA)], rfl, rfl, rfl, rfl, rfl, ⟨⟨by kernel_rfl, rfl⟩, trivial⟩, ?_⟩, ?_⟩
    · intro a w1 hC e12
      refine Or.inl ⟨_, ?_, rfl⟩
      go_simp
      first | (go_bits; rfl) | rfl | (rw [if_pos (by omega)])
    refine ⟨⟨⟨_, _, _, _, _, _⟩, _, Is (.string (strOfNums za)), none, [(some 35, Is ?vB0)], [], rfl, rfl, rfl, rfl, rfl, trivial, ?_⟩, ?_⟩
    · intro a w1 hC  (h0 : a.tmps.getD 35 undef = _)
      refine Or.inl ⟨.string (strOfNums za), ?_, rfl⟩
      have hcv := conv_str (P := Try.prog) (RA.out.below hC) 22 9 5 Try.underlying22 Try.underlying5 Try.underlying9
      go_simp
    refine ⟨⟨⟨_, _, _, _, _, _⟩, _, Is ?vB2, none, [], [(0, .slice pa p c0)], rfl, rfl, rfl, rfl, rfl, ⟨⟨by kernel_rfl, rfl⟩, trivial⟩, ?_⟩, ?_⟩
    · intro a w1 hC e0
      refine Or.inl ⟨_, ?_, rfl⟩
      go_simp
      first | (go_bits; rfl) | rfl | (rw [if_pos (by omega)])
    refine ⟨⟨⟨_, _, _, _, _, _⟩, _, Is (.string (strOfNums x)), none, [(some 37, Is ?vB2)], [], rfl, rfl, rfl, rfl, rfl, trivial, ?_⟩, ?_⟩
    · intro a w1 hC  (h2 : a.tmps.getD 37 undef = _)
      refine Or.inl ⟨.string (strOfNums x), ?_, rfl⟩
      have hcv := conv_str (P := Try.prog) (R0.out.below hC) 22 9 5 Try.underlying22 Try.underlying5 Try.underlying9
      go_simp
    refine ⟨⟨⟨_, _, _, _, _, _⟩, _, Is ?vB4, none, [], [(2, .int .u64 u)], rfl, rfl, rfl, rfl, rfl, ⟨⟨by kernel_rfl, rfl⟩, trivial⟩, ?_⟩, ?_⟩
    · intro a w1 hC e2
      refine Or.inl ⟨_, ?_, rfl⟩
      go_simp
      first | (go_bits; rfl) | rfl | (rw [if_pos (by omega)])
    refine ⟨⟨⟨_, _, _, _, _, _⟩, _, IsRd .u8 eu, none, [(some 39, Is ?vB4)], [], rfl, rfl, rfl, rfl, rfl, trivial, ?_⟩, ?_⟩
    · intro a w1 hC  (h4 : a.tmps.getD 39 undef = _)
      refine Or.inr (Or.inl ⟨13, #[.int .u64 u], ?_, ?_⟩)
      · go_simp
      · refine (refU_any u w1 hu0 hu1).mono ?_
        rintro e w2 ⟨vv, rfl, hown, hbel⟩
        rw [← Heu.out] at hown
        obtain ⟨ao1, cap1, rfl, hrd⟩ := hown.rd
        exact ⟨_, rfl, ⟨ao1, cap1, rfl, hrd⟩, hbel⟩
    refine ⟨⟨⟨_, _, _, _, _, _⟩, _, Is (.string (strOfNums eu)), none, [(some 40, IsRd .u8 eu)], [], rfl, rfl, rfl, rfl, rfl, trivial, ?_⟩, ?_⟩
    · intro a w1 hC  h5
      obtain ⟨ao1, cap1, e5, hrd⟩ := h5
      have e5 : a.tmps.getD 40 undef = _ := e5
      refine Or.inl ⟨.string (strOfNums eu), ?_, rfl⟩
      have hcv := conv_str (P := Try.prog) hrd 22 9 5 Try.underlying22 Try.underlying5 Try.underlying9
      go_simp
    refine ⟨⟨⟨_, _, _, _, _, _⟩, _, Is (.string (strOfNums za)), none, [(some 38, Is (.string (strOfNums x))), (some 41, Is (.string (strOfNums eu)))], [], rfl, rfl, rfl, rfl, rfl, trivial, ?_⟩, ?_⟩
    · intro a w1 hC  (h3 : a.tmps.getD 38 undef = _) (h6 : a.tmps.getD 41 undef = _)
      refine Or.inl ⟨.string (strOfNums x ++ strOfNums eu), ?_, ?_⟩
      · go_simp
        rw [str_size, str_size]
        omega
      · show _ = _
        rw [← str_append, ← Hza.out]
    refine ⟨⟨⟨_, _, _, _, _, _⟩, _, Is (.bool false), none, [(some 36, Is (.string (strOfNums za))), (some 42, Is (.string (strOfNums za)))], [], rfl, rfl, rfl, rfl, rfl, trivial, ?_⟩, ?_⟩
    · intro a w1 hC  (h1 : a.tmps.getD 36 undef = _) (h7 : a.tmps.getD 42 undef = _)
      refine Or.inl ⟨.bool false, ?_, rfl⟩
      go_simp
    refine ⟨⟨⟨_, _, _, _, _, _⟩, _, Is (.bool false), none, [(some 43, Is (.bool false)), (some 40, IsRd .u8 eu)], [], rfl, rfl, rfl, rfl, rfl, trivial, ?_⟩, ?_⟩
    · intro a w1 hC  (h8 : a.tmps.getD 43 undef = _) h5
      refine Or.inl ⟨.bool false, ?_, rfl⟩
      go_simp
    refine ⟨⟨⟨_, _, _, _, _, _⟩, _, Is ?vB10, (some (some 44, false)), [(some 44, Is (.bool false))], [(13, .slice pB nB cB)], rfl, rfl, rfl, rfl, rfl, ⟨⟨by kernel_rfl, rfl⟩, trivial⟩, ?_⟩, ?_⟩
    · intro a w1 hC e13 (h9 : a.tmps.getD 44 undef = _)
      refine Or.inl ⟨h9, ?_⟩
      refine Or.inl ⟨_, ?_, rfl⟩
      go_simp
      first | (go_bits; rfl) | rfl | (rw [if_pos (by omega)])
    refine ⟨⟨⟨_, _, _, _, _, _⟩, _, Is (.string (strOfNums zb)), (some (some 44, false)), [(some 45, Is ?vB10), (some 44, Is (.bool false))], [], rfl, rfl, rfl, rfl, rfl, trivial, ?_⟩, ?_⟩
    · intro a w1 hC  (h10 : a.tmps.getD 45 undef = _) (h9 : a.tmps.getD 44 undef = _)
      refine Or.inl ⟨h9, ?_⟩
      refine Or.inl ⟨.string (strOfNums zb), ?_, rfl⟩
      have hcv := conv_str (P := Try.prog) (RB.out.below hC) 22 9 5 Try.underlying22 Try.underlying5 Try.underlying9
      go_simp
    refine ⟨⟨⟨_, _, _, _, _, _⟩, _, Is ?vB12, (some (some 44, false)), [(some 44, Is (.bool false))], [(0, .slice pa p c0)], rfl, rfl, rfl, rfl, rfl, ⟨⟨by kernel_rfl, rfl⟩, trivial⟩, ?_⟩, ?_⟩
    · intro a w1 hC e0 (h9 : a.tmps.getD 44 undef = _)
      refine Or.inl ⟨h9, ?_⟩
      refine Or.inl ⟨_, ?_, rfl⟩
      go_simp
      first | (go_bits; rfl) | rfl | (rw [if_pos (by omega)])
    refine ⟨⟨⟨_, _, _, _, _, _⟩, _, Is (.string (strOfNums x)), (some (some 44, false)), [(some 47, Is ?vB12), (some 44, Is (.bool false))], [], rfl, rfl, rfl, rfl, rfl, trivial, ?_⟩, ?_⟩
    · intro a w1 hC  (h12 : a.tmps.getD 47 undef = _) (h9 : a.tmps.getD 44 undef = _)
      refine Or.inl ⟨h9, ?_⟩
      refine Or.inl ⟨.string (strOfNums x), ?_, rfl⟩
      have hcv := conv_str (P := Try.prog) (R0.out.below hC) 22 9 5 Try.underlying22 Try.underlying5 Try.underlying9
      go_simp
    refine ⟨⟨⟨_, _, _, _, _, _⟩, _, Is ?vB14, (some (some 44, false)), [(some 44, Is (.bool false))], [(3, .int .i64 s)], rfl, rfl, rfl, rfl, rfl, ⟨⟨by kernel_rfl, rfl⟩, trivial⟩, ?_⟩, ?_⟩
    · intro a w1 hC e3 (h9 : a.tmps.getD 44 undef = _)
      refine Or.inl ⟨h9, ?_⟩
      refine Or.inl ⟨_, ?_, rfl⟩
      go_simp
      first | (go_bits; rfl) | rfl | (rw [if_pos (by omega)])
    refine ⟨⟨⟨_, _, _, _, _, _⟩, _, IsRd .u8 es, (some (some 44, false)), [(some 49, Is ?vB14), (some 44, Is (.bool false)), (some 44, Is (.bool false))], [], rfl, rfl, rfl, rfl, rfl, trivial, ?_⟩, ?_⟩
    · intro a w1 hC  (h14 : a.tmps.getD 49 undef = _) (h9 : a.tmps.getD 44 undef = _) _
      refine Or.inl ⟨h9, ?_⟩
      refine Or.inr (Or.inl ⟨14, #[.int .i64 s], ?_, ?_⟩)
      · go_simp
      · refine (refS_any s w1 hs0 hs1).mono ?_
        rintro e w2 ⟨vv, rfl, hown, hbel⟩
        rw [← Hes.out] at hown
        obtain ⟨ao1, cap1, rfl, hrd⟩ := hown.rd
        exact ⟨_, rfl, ⟨ao1, cap1, rfl, hrd⟩, hbel⟩
    refine ⟨⟨⟨_, _, _, _, _, _⟩, _, Is (.string (strOfNums es)), (some (some 44, false)), [(some 50, IsRd .u8 es), (some 44, Is (.bool false))], [], rfl, rfl, rfl, rfl, rfl, trivial, ?_⟩, ?_⟩
    · intro a w1 hC  h15 (h9 : a.tmps.getD 44 undef = _)
      refine Or.inl ⟨h9, ?_⟩
      obtain ⟨ao1, cap1, e15, hrd⟩ := h15
      have e15 : a.tmps.getD 50 undef = _ := e15
      refine Or.inl ⟨.string (strOfNums es), ?_, rfl⟩
      have hcv := conv_str (P := Try.prog) hrd 22 9 5 Try.underlying22 Try.underlying5 Try.underlying9
      go_simp
    refine ⟨⟨⟨_, _, _, _, _, _⟩, _, Is (.string (strOfNums zb)), (some (some 44, false)), [(some 48, Is (.string (strOfNums x))), (some 51, Is (.string (strOfNums es))), (some 44, Is (.bool false))], [], rfl, rfl, rfl, rfl, rfl, trivial, ?_⟩, ?_⟩
    · intro a w1 hC  (h13 : a.tmps.getD 48 undef = _) (h16 : a.tmps.getD 51 undef = _) (h9 : a.tmps.getD 44 undef = _)
      refine Or.inl ⟨h9, ?_⟩
      refine Or.inl ⟨.string (strOfNums x ++ strOfNums es), ?_, ?_⟩
      · go_simp
        rw [str_size, str_size]
        omega
      · show _ = _
        rw [← str_append, ← Hzb.out]
    refine ⟨⟨⟨_, _, _, _, _, _⟩, _, Is (.bool false), (some (some 44, false)), [(some 46, Is (.string (strOfNums zb))), (some 52, Is (.string (strOfNums zb))), (some 44, Is (.bool false))], [], rfl, rfl, rfl, rfl, rfl, trivial, ?_⟩, ?_⟩
    · intro a w1 hC  (h11 : a.tmps.getD 46 undef = _) (h17 : a.tmps.getD 52 undef = _) (h9 : a.tmps.getD 44 undef = _)
      refine Or.inl ⟨h9, ?_⟩
      refine Or.inl ⟨.bool false, ?_, rfl⟩
      go_simp
    refine ⟨⟨⟨_, _, _, _, _, _⟩, _, Is (.bool false), none, [(some 44, Is (.bool false)), (some 53, Is (.bool false))], [], rfl, rfl, rfl, rfl, rfl, trivial, ?_⟩, ?_⟩
    · intro a w1 hC  (h9 : a.tmps.getD 44 undef = _) (h18 : a.tmps.getD 53 undef = _)
      refine Or.inl ⟨.bool false, ?_, rfl⟩
      go_simp
    exact trivial
  case hstB => exact ⟨Stays.is _, Stays.is _, Stays.is _, Stays.is _, Stays.is _, Stays.rd _ _, Stays.is _, Stays.is _, Stays.is _, Stays.is _, Stays.is _, Stays.is _, Stays.is _, Stays.is _, Stays.is _, Stays.rd _ _, Stays.is _, Stays.is _, Stays.is _, Stays.is _, trivial⟩
  case hendB =>
    intro w1 hC
    rintro _ rfl
    rintro _ rfl
    rintro _ rfl
    rintro _ rfl
    rintro _ rfl
    intro x5 h5
    rintro _ rfl
    rintro _ rfl
    rintro _ rfl
    rintro _ rfl
    rintro _ rfl
    rintro _ rfl
    rintro _ rfl
    rintro _ rfl
    rintro _ rfl
    intro x15 h15
    rintro _ rfl
    rintro _ rfl
    rintro _ rfl
    rintro _ rfl
    simp only [Ends, Act.put, List.setIfInBounds_toArray, List.set_cons_succ, List.set_cons_zero]
    obtain ⟨la, hla⟩ : ∃ n, n = nA - p := ⟨_, rfl⟩
    obtain ⟨lb, hlb⟩ : ∃ n, n = nB - p := ⟨_, rfl⟩
    have hA1 := HnA.out
    have hB1 := HnB.out
    have la1 : nA = p + la := by omega
    have lb1 : nB = p + lb := by omega
    have la2 : la = eu.length := by omega
    have lb2 : lb = es.length := by omega
    have cutA := run_cut_l 22 elem_u8 size_u8 pA nA cA (p : Int) p rfl (by omega)
    have cutB := run_cut_l 22 elem_u8 size_u8 pB nB cB (p : Int) p rfl (by omega)
    rw [show nA - p = la from by omega] at cutA
    rw [show nB - p = lb from by omega] at cutB
    have PA := RA.out.cut p nA (by omega) (Nat.le_refl _)
    have PB := RB.out.cut p nB (by omega) (Nat.le_refl _)
    rw [show nA - p = la from by omega, List.take_of_length_le (by rw [RA.out.len]; exact Nat.le_refl _), Hza.out, ← Hlx.out, List.drop_left, Hlx.out] at PA
    rw [show nB - p = lb from by omega, List.take_of_length_le (by rw [RB.out.len]; exact Nat.le_refl _), Hzb.out, ← Hlx.out, List.drop_left, Hlx.out] at PB
    obtain ⟨qA, hqA⟩ : ∃ z, z = cutAt pA p cA := ⟨_, rfl⟩
    obtain ⟨qB, hqB⟩ : ∃ z, z = cutAt pB p cB := ⟨_, rfl⟩
    rw [← hqA] at PA cutA
    rw [← hqB] at PB cutB
    have hsA : (nA : Int) - p = la := by omega
    have hsB : (nB : Int) - p = lb := by omega
    have hla10 : la ≤ 10 := by omega
    have hlb10 : lb ≤ 10 := by omega
    have B6 : Below w.heap.size w w1 := B5.trans (hC.mono B5.size)
    have PA1 := hid (PA.below hC)
    have PB1 := hid (PB.below hC)
    have Y1 := hid (W1.out.below B6)
    have La2 := hid la2
    have Lb2 := hid lb2
    clear hA1 hB1 la1 lb1 la2 lb2 hqA hqB PA PB hla hlb HnA HnB R0 RA RB
    go_wp2_with (first
      | (at_builtin; refine wpList_append_rd rfl (.const (.slice none 0 0)) _ 22 rfl 5 .u8 w1.heap.size 1 Try.underlying22 infoU8 _ [] rfl (Own.nil _ _ _ _) qA la (cA - p) eu rfl PA1.out (by simp; omega) (by simp; omega) (Nat.le_refl _) ?_; intro v7 w7 o7 b7 _)
      | (at_builtin; refine wpList_append_rd rfl (.tmp _) _ 22 rfl 5 .u8 w1.heap.size 1 Try.underlying22 infoU8 _ _ rfl o7 pb q c1 y rfl (Y1.out.below (b7.mono (Nat.le_refl _))) (by simp; omega) (by simp; omega) b7.size ?_; intro v8 w8 o8 b8 _)
      | fail)
    rw [List.nil_append] at o8
    obtain ⟨p8, c8, rfl, r8⟩ := o8.rd
    obtain ⟨n8, hn8⟩ : ∃ n, n = (eu ++ y).length := ⟨_, rfl⟩
    rw [← hn8] at r8 ⊢
    rw [Heu.out] at r8
    refine (U_enc p8 n8 c8 u y w8 hu0 hu1 r8).mono ?_
    rintro e w' ⟨rfl, rfl⟩
    rw [← Heu.out, ← La2.out]
    have B8 : Below w.heap.size w w8 := B6.trans ((b7.trans b8).mono B6.size)
    have PB8 := hid (PB1.out.below (b7.trans b8))
    have PA8 := hid (PA1.out.below (b7.trans b8))
    have Y8 := hid (W1.out.below B8)
    clear hn8 r8 o7 o8 b7 b8 B6 PA1 PB1 Y1
    go_wp2_with (first
      | (at_builtin; refine wpList_append_rd rfl (.const (.slice none 0 0)) _ 22 rfl 5 .u8 w8.heap.size 1 Try.underlying22 infoU8 _ [] rfl (Own.nil _ _ _ _) qB lb (cB - p) es rfl PB8.out (by simp; omega) (by simp; omega) (Nat.le_refl _) ?_; intro v9 w9 o9 b9 _)
      | (at_builtin; refine wpList_append_rd rfl (.tmp _) _ 22 rfl 5 .u8 w8.heap.size 1 Try.underlying22 infoU8 _ _ rfl o9 pb q c1 y rfl (Y8.out.below (b9.mono (Nat.le_refl _))) (by simp; omega) (by simp; omega) b9.size ?_; intro v10 w10 o10 b10 _)
      | fail)
    rw [List.nil_append] at o10
    obtain ⟨p10, c10, rfl, r10⟩ := o10.rd
    obtain ⟨n10, hn10⟩ : ∃ n, n = (es ++ y).length := ⟨_, rfl⟩
    rw [← hn10] at r10 ⊢
    rw [Hes.out] at r10
    refine (S_enc p10 n10 c10 s y w10 hs0 hs1 r10).mono ?_
    rintro e w' ⟨rfl, rfl⟩
    rw [← Hes.out, ← Lb2.out]
    have B10 : Below w.heap.size w w10 := B8.trans ((b9.trans b10).mono B8.size)
    have RA := hid (PA8.out.below (b9.trans b10))
    have RB := hid (PB8.out.below (b9.trans b10))
    rw [Heu.out] at RA
    rw [Hes.out] at RB
    clear hn10 r10 o9 o10 b9 b10 B8 PA8 PB8 Y8
    go_upto_region 12 with (fail)
    rcases (show bits < 1 ∨ (1 ≤ bits ∧ 63 < bits) ∨ (1 ≤ bits ∧ bits ≤ 63) from by omega) with hb | ⟨hb, hb'⟩ | ⟨hb, hb'⟩
    · go_wp2_with fail
      go_ret
      exact ⟨rfl, B10⟩
    · go_wp2_with fail
      go_ret
      exact ⟨rfl, B10⟩
    · have hsub : (bits - 1).toNat = bits.toNat - 1 := by omega
      obtain ⟨pw, hpw⟩ : ∃ z : Int, z = 2 ^ bits.toNat := ⟨_, rfl⟩
      obtain ⟨r, hr⟩ : ∃ z : Int, z = 2 ^ (bits.toNat - 1) := ⟨_, rfl⟩
      have hpw1 : 1 ≤ pw ∧ pw ≤ 9223372036854775808 := by
        have h1 := two_pow_le (show 0 ≤ bits.toNat by omega)
        have h2 := two_pow_le (show bits.toNat ≤ 63 by omega)
        rw [hpw]
        exact ⟨by simpa using h1, by simpa using h2⟩
      have hr1 : 1 ≤ r ∧ r ≤ 4611686018427387904 := by
        have h1 := two_pow_le (show 0 ≤ bits.toNat - 1 by omega)
        have h2 := two_pow_le (show bits.toNat - 1 ≤ 62 by omega)
        rw [hr]
        exact ⟨by simpa using h1, by simpa using h2⟩
      have e1 : IntKind.u64.wrap (2 ^ bits.toNat) = pw := by rw [← hpw]; exact IntWalk.u64_in pw (by omega)
      have e2 : IntKind.i64.wrap (2 ^ (bits.toNat - 1)) = r := by rw [← hr]; exact IntWalk.i64_in r (by omega)
      have e3 : IntKind.i64.wrap (-2 ^ (bits.toNat - 1)) = -r := by rw [← hr]; exact IntWalk.i64_in (-r) (by omega)
      have HU : Hid ((u < pw ∧ ∀ w', w' = w10 → Calls Try.prog 15 #[.slice qA la (cA - p), .int .i64 bits] w' fun e w'' => (∃ x k : Int, e = .returned (.tuple #[.int .u64 x, .int .i64 k, .int .i64 0])) ∧ w' = w'') ∨
          (¬ u < pw ∧ ∀ w', w' = w10 → Calls Try.prog 15 #[.slice qA la (cA - p), .int .i64 bits] w' fun e w'' => (∃ x k : Int, e = .returned (.tuple #[.int .u64 x, .int .i64 k, .int .i64 1])) ∧ w' = w'')) := by
        show _ ∨ _
        rw [hpw]
        rcases Decidable.em (u < 2 ^ bits.toNat) with hu | hu
        · exact .inl ⟨hu, fun w' hw => by subst hw; exact U_in qA la (cA - p) u bits _ hb hb' hu0 hu1 RA.out hu⟩
        · exact .inr ⟨hu, fun w' hw => by subst hw; exact U_out qA la (cA - p) u bits _ hb hb' hu0 hu1 RA.out hu⟩
      have HS : Hid ((-r ≤ s ∧ s < r ∧ ∀ w', w' = w10 → Calls Try.prog 16 #[.slice qB lb (cB - p), .int .i64 bits] w' fun e w'' => (∃ x k : Int, e = .returned (.tuple #[.int .i64 x, .int .i64 k, .int .i64 0])) ∧ w' = w'') ∨
          (¬ (-r ≤ s ∧ s < r) ∧ ∀ w', w' = w10 → Calls Try.prog 16 #[.slice qB lb (cB - p), .int .i64 bits] w' fun e w'' => (∃ x k : Int, e = .returned (.tuple #[.int .i64 x, .int .i64 k, .int .i64 1])) ∧ w' = w'')) := by
        show _ ∨ _
        rw [hr, ← hsub]
        rcases Decidable.em (-2 ^ (bits - 1).toNat ≤ s ∧ s < 2 ^ (bits - 1).toNat) with hs | hs
        · exact .inl ⟨hs.1, hs.2, fun w' hw => by subst hw; exact S_in qB lb (cB - p) s bits _ hb hb' hs0 hs1 RB.out hs⟩
        · exact .inr ⟨hs, fun w' hw => by subst hw; exact S_out qB lb (cB - p) s bits _ hb hb' hs0 hs1 RB.out hs⟩
      clear hsub hpw hr RA RB
      rcases HU.out with ⟨hu, HU1⟩ | ⟨hu, HU1⟩
      · have _t0 := hu
        rcases HS.out with ⟨hs, hs', HS1⟩ | ⟨hs, HS1⟩
        · have _t := hs
          have HU2 := hid (HU1 _ rfl)
          have HS2 := hid (HS1 _ rfl)
          have d1 : decide (-r ≤ s) = true := decide_eq_true hs
          have d2 : decide (s < r) = true := decide_eq_true hs'
          clear HU1 HS1 HU HS
          go_wp2_with fail
          refine HU2.out.mono ?_
          rintro e w' ⟨⟨x1, k1, rfl⟩, rfl⟩
          go_wp2_with fail
          refine HS2.out.mono ?_
          rintro e w' ⟨⟨x2, k2, rfl⟩, rfl⟩
          go_wp2_with fail
          go_ret
          exact ⟨rfl, B10⟩
        · by_cases h1 : -r ≤ s
          · have h2 : ¬ s < r := fun h => hs ⟨h1, h⟩
            have HU2 := hid (HU1 _ rfl)
            have HS2 := hid (HS1 _ rfl)
            have d1 : decide (-r ≤ s) = true := decide_eq_true h1
            have d2 : decide (s < r) = false := decide_eq_false h2
            clear hs
            clear HU1 HS1 HU HS
            go_wp2_with fail
            refine HU2.out.mono ?_
            rintro e w' ⟨⟨x1, k1, rfl⟩, rfl⟩
            go_wp2_with fail
            refine HS2.out.mono ?_
            rintro e w' ⟨⟨x2, k2, rfl⟩, rfl⟩
            go_wp2_with fail
            go_ret
            exact ⟨rfl, B10⟩
          · have _t := h1
            have HU2 := hid (HU1 _ rfl)
            have HS2 := hid (HS1 _ rfl)
            have d1 : decide (-r ≤ s) = false := decide_eq_false h1
            clear hs
            clear HU1 HS1 HU HS
            go_wp2_with fail
            refine HU2.out.mono ?_
            rintro e w' ⟨⟨x1, k1, rfl⟩, rfl⟩
            go_wp2_with fail
            refine HS2.out.mono ?_
            rintro e w' ⟨⟨x2, k2, rfl⟩, rfl⟩
            go_wp2_with fail
            go_ret
            exact ⟨rfl, B10⟩
      · have d0 : decide (u < pw) = false := decide_eq_false hu
        rcases HS.out with ⟨hs, hs', HS1⟩ | ⟨hs, HS1⟩
        · have _t := hs
          have HU2 := hid (HU1 _ rfl)
          have HS2 := hid (HS1 _ rfl)
          have d1 : decide (-r ≤ s) = true := decide_eq_true hs
          have d2 : decide (s < r) = true := decide_eq_true hs'
          clear HU1 HS1 HU HS
          go_wp2_with fail
          refine HU2.out.mono ?_
          rintro e w' ⟨⟨x1, k1, rfl⟩, rfl⟩
          go_wp2_with fail
          refine HS2.out.mono ?_
          rintro e w' ⟨⟨x2, k2, rfl⟩, rfl⟩
          go_wp2_with fail
          go_ret
          exact ⟨rfl, B10⟩
        · by_cases h1 : -r ≤ s
          · have h2 : ¬ s < r := fun h => hs ⟨h1, h⟩
            have HU2 := hid (HU1 _ rfl)
            have HS2 := hid (HS1 _ rfl)
            have d1 : decide (-r ≤ s) = true := decide_eq_true h1
            have d2 : decide (s < r) = false := decide_eq_false h2
            clear hs
            clear HU1 HS1 HU HS
            go_wp2_with fail
            refine HU2.out.mono ?_
            rintro e w' ⟨⟨x1, k1, rfl⟩, rfl⟩
            go_wp2_with fail
            refine HS2.out.mono ?_
            rintro e w' ⟨⟨x2, k2, rfl⟩, rfl⟩
            go_wp2_with fail
            go_ret
            exact ⟨rfl, B10⟩
          · have _t := h1
            have HU2 := hid (HU1 _ rfl)
            have HS2 := hid (HS1 _ rfl)
            have d1 : decide (-r ≤ s) = false := decide_eq_false h1
            clear hs
            clear HU1 HS1 HU HS
            go_wp2_with fail
            refine HU2.out.mono ?_
            rintro e w' ⟨⟨x1, k1, rfl⟩, rfl⟩
            go_wp2_with fail
            refine HS2.out.mono ?_
            rintro e w' ⟨⟨x2, k2, rfl⟩, rfl⟩
            go_wp2_with fail
            go_ret
            exact ⟨rfl, B10⟩
end Go.Proofs.Ytfhcekdfeiikbaa
